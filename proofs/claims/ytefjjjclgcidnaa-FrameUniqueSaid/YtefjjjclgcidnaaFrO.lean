/- The laws FrameUnique, FrameBack: their walks. -/
import Derived.Test.YtefjjjclgcidnaaFrN
namespace Go.Proofs.Ytefjjjclgcidnaa
open Go.RowKit

set_option maxHeartbeats 4000000 in
theorem unique_walk (w : World) (b : List UInt8) (B : Option Addr) (cb : Nat) (_ : b.length ≤ maxLen) (hcap : b.length ≤ cb) (hb : Bytes w B b) (a : Int) (_ : Fits a) :
    Calls Try.prog 7 #[.slice B b.length cb, .int .i64 a] w (Ret (.bool true) w) := by
  by_cases hl : b.length ≤ 3000
  rotate_left
  · have h1 : (3000 : Int) < b.length := by omega
    have h2 : decide ((3000 : Int) < b.length) = true := by simpa using h1
    go_enter Try.func7, Try.ntmps7
    go_wp2_with fail
    refine (awake_any _).mono ?_
    rintro e w1 ⟨rfl, h1⟩
    go_wp2
    go_ret
    exact Ret.mk rfl h1
  have h1 : ¬ (3000 : Int) < b.length := by omega
  have h2 : decide ((3000 : Int) < b.length) = false := by simpa using h1
  have hc := copied_any b B cb w hb (by omega)
  have ho := fun A cap w' h hv => open_any b A cap h a w' hv (by omega)
  unfold RetOpen at ho
  by_cases c1 : opE b a = 0
  rotate_left
  · obtain ⟨g1, g2, g3, _⟩ := op_bad rfl c1
    rw [g1, g2, g3] at ho
    clear g1 g2 g3
    have f1 : (opE b a == 0) = false := by simpa using c1
    have f2 : (opE b a != 0) = true := by simpa using c1
    clear c1
    generalize opE b a = E at *
    go_enter Try.func7, Try.ntmps7
    go_wp2_with fail
    refine hc.mono ?_
    rintro e w1 ⟨A1, c1, rfl, y1, g1, h1⟩
    go_wp2_with fail
    refine (ho _ _ _ g1 y1).mono ?_
    rintro e w2 ⟨A2, c2, rfl, y2, h2⟩
    have H2 := Below.step h1 h2
    clear y2 ho hc
    go_wp2_with fail
    refine (awake_any _).mono ?_
    rintro e w4 ⟨rfl, h4⟩
    go_wp2
    go_ret
    exact Ret.mk rfl (Below.step H2 h4)
  obtain ⟨x, k, rfl, g1, g2, g3, g4, g5, g6, g7, g8⟩ := op_again c1
  obtain ⟨n, hn⟩ : ∃ n : Nat, opN b (x : Int) = (n : Int) := ⟨(opN b (x : Int)).toNat, by omega⟩
  rw [hn, Int.toNat_natCast] at g8
  rw [hn] at g5 g7
  rw [g1, hn, c1] at ho
  obtain ⟨ad, rfl, hab, hjunk⟩ := hb.at_ (k := x) (by omega)
  clear hjunk
  have hl2 : ((b.drop x).take (n - x)).length = n - x := by rw [List.length_take, List.length_drop]; omega
  have HQ := Lib.hid (fun w' (h : Below w.heap.size w w') => (show (convert 22 9 (.slice (some (ad.add x)) (n - x) (cb - x))).run Try.prog w' = .ok (.string ⟨((b.drop x).take (n - x)).toArray⟩) w' by
    have := run_bytes_string w' (some (ad.add x)) ((b.drop x).take (n - x)) (cb - x) ((hb.below h).piece (i := x) (n := n - x) (by omega))
    rw [hl2] at this
    exact this))
  have hs := fun A cap w' h => (seal_any k ⟨g2, g3⟩ (opC b (x : Int)) A cap w' h (by omega)).mono fun _ _ => RetSeal.b
  have hcc := fun A cap w' h => copied_any (opC b (x : Int)) A cap w' h (by omega)
  rw [g8] at hs
  clear g8 hl2
  generalize (b.drop x).take (n - x) = s at *
  generalize opC b (x : Int) = C at *
  have e1 : ¬ ((x : Int) < 0) := by omega
  have e2 : ¬ ((n : Int) < (x : Int)) := by omega
  have e3 : ¬ ((b.length : Int) < (n : Int)) := by omega
  have d1 : decide ((x : Int) < 0) = false := by simp
  have d2 : decide ((n : Int) < (x : Int)) = false := by simp; omega
  have d3 : decide ((b.length : Int) < (n : Int)) = false := by simp; omega
  have d4 : decide (n < x) = false := by simp; omega
  have d5 : decide (b.length < n) = false := by simp; omega
  have e4 : (x : Int) ≤ (n : Int) := by omega
  have e5 : (n : Int) ≤ (cb : Int) := by omega
  have e6 : (0 : Int) ≤ (x : Int) := by omega
  have e7 : x ≤ n := by omega
  have e8 : n ≤ cb := by omega
  have e9 : ¬ cb = x := by omega
  have e10 : ¬ cb - x = 0 := by omega
  have e11 : ¬ cb ≤ x := by omega
  clear c1 g1 hn g4 g5 g6 g7
  go_enter Try.func7, Try.ntmps7
  go_wp2_with fail
  refine hc.mono ?_
  rintro e w1 ⟨A1, c1, rfl, y1, g1, h1⟩
  go_wp2_with fail
  refine (ho _ _ _ g1 y1).mono ?_
  rintro e w2 ⟨A2, c2, rfl, y2, h2⟩
  have H2 := Below.step h1 h2
  clear ho hc
  go_wp2_with fail
  refine (hcc _ _ _ y2).mono ?_
  rintro e w3 ⟨A3, c3, rfl, y3, _, h3⟩
  have H3 := Below.step H2 h3
  go_wp2_with fail
  refine (hs _ _ _ y3).mono ?_
  rintro e w4 ⟨A4, c4, rfl, y4, h4⟩
  have H4 := Below.step H3 h4
  have HY : Hid (Bytes w4.drew A4 s) := Lib.hid y4
  have HD := Lib.hid H4.drew
  have r4 := run_bytes_string w4.drew A4 s c4 (by exact y4)
  have r5 := HQ.out _ HD.out
  clear hs hcc y4
  go_wp2_with fail
  go_region_held3 (fun w' => (convert 22 9 (.slice A4 s.length c4)).run Try.prog w' = .ok (.string ⟨s.toArray⟩) w' ∧ (convert 22 9 (.slice (some (ad.add x)) (n - x) (cb - x))).run Try.prog w' = .ok (.string ⟨s.toArray⟩) w')
    (first | exact ⟨‹_›, ‹_›⟩)
    (first | (go_at_call 11; refine (awake_any _).mono ?_; rintro e w5 ⟨rfl, h5⟩; have HE := Lib.hid (Below.step HD.out h5); have r6 := run_bytes_string w5 A4 s c4 (HY.out.below h5); have r7 := HQ.out _ HE.out))
  go_wp2
  go_ret
  exact Ret.mk rfl HE.out
end Go.Proofs.Ytefjjjclgcidnaa
