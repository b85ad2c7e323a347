/- The law FrameBack: its walk. -/
import Derived.Test.YtefjjjclgcidnaaFrN
namespace Go.Proofs.Ytefjjjclgcidnaa
open Go.RowKit

set_option maxHeartbeats 1000000 in
theorem copied_own (l : List UInt8) (A : Option Addr) (cap : Nat) (w : World) (hv : Bytes w A l) (hl : l.length ≤ 100000) :
    Calls Try.prog 13 #[.slice A l.length cap] w (RetOwn w.heap.size l w) := by
  obtain ⟨i0, hi0, hz0, hz1, hz2⟩ := info_parts info_u8
  go_enter Try.func13, Try.ntmps13
  go_wp2_with (at_builtin; refine wpList_append_any _ rfl _ _ _ rfl w.heap.size 5 i0 _ 1 1 Try.underlying22 hi0 hz0 hz1 hz2 rfl (by omega) _ 0 [] rfl (own_empty w _) w.heap.size A l.length cap _ rfl (Reads.alloc hv (Nat.le_refl _) _) (one_u8 l) (by simp only [maxLen]; omega) (by omega) (by simp) ?_; intro v1 w1 hown1 hg1 hat1)
  obtain ⟨A1, c1, rfl⟩ := own_form hown1
  have hB : Below w.heap.size w w1 := ((Below.refl _ _).alloc (Nat.le_refl _) _).trans ((Below.refl _ _).grown hg1 (by simp) (fun k hk => by have h : some w.heap.size = some k := hk; injection h with h; omega))
  have HO : Hid (w1.ownsRow w.heap.size 5 1 (.slice A1 l.length c1) l.length (u8s l)) := Lib.hid (by simpa [u8s] using hown1)
  clear hown1 hg1 hat1 hi0 hz0 hz1 hz2
  go_wp2
  go_ret
  exact ⟨A1, c1, by rw [Nat.zero_add]; rfl, HO.out, hB⟩

set_option maxHeartbeats 1000000 in
theorem back_no0 (w : World) (kind : Int) (b : List UInt8) (B : Option Addr) (cb : Nat) (p : List UInt8) (PA : Option Addr) (cp : Nat) (t : List UInt8) (TA : Option Addr) (ct : Nat)  (h0 : kind < 1) :
    Calls Try.prog 6 #[.int .i64 kind, .slice B b.length cb, .slice PA p.length cp, .slice TA t.length ct] w (Ret (.bool true) w) := by
  have d0 : decide (kind < 1) = true := by simpa using h0
  go_enter Try.func6, Try.ntmps6
  go_wp2_with fail
  refine (awake_any _).mono ?_
  rintro e w1 ⟨rfl, g1⟩
  go_wp2
  go_ret
  exact Ret.mk rfl g1
set_option maxHeartbeats 1000000 in
theorem back_no1 (w : World) (kind : Int) (b : List UInt8) (B : Option Addr) (cb : Nat) (p : List UInt8) (PA : Option Addr) (cp : Nat) (t : List UInt8) (TA : Option Addr) (ct : Nat) (h0 : ¬ kind < 1) (h1 : (255 : Int) < kind) :
    Calls Try.prog 6 #[.int .i64 kind, .slice B b.length cb, .slice PA p.length cp, .slice TA t.length ct] w (Ret (.bool true) w) := by
  have d0 : decide (kind < 1) = false := by simpa using h0
  have d1 : decide ((255 : Int) < kind) = true := by simpa using h1
  go_enter Try.func6, Try.ntmps6
  go_wp2_with fail
  refine (awake_any _).mono ?_
  rintro e w1 ⟨rfl, g1⟩
  go_wp2
  go_ret
  exact Ret.mk rfl g1
set_option maxHeartbeats 1000000 in
theorem back_no2 (w : World) (kind : Int) (b : List UInt8) (B : Option Addr) (cb : Nat) (p : List UInt8) (PA : Option Addr) (cp : Nat) (t : List UInt8) (TA : Option Addr) (ct : Nat) (h0 : ¬ kind < 1) (h1 : ¬ (255 : Int) < kind) (h2 : (3000 : Int) < (b.length : Int)) :
    Calls Try.prog 6 #[.int .i64 kind, .slice B b.length cb, .slice PA p.length cp, .slice TA t.length ct] w (Ret (.bool true) w) := by
  have d0 : decide (kind < 1) = false := by simpa using h0
  have d1 : decide ((255 : Int) < kind) = false := by simpa using h1
  have d2 : decide ((3000 : Int) < (b.length : Int)) = true := by simpa using h2
  go_enter Try.func6, Try.ntmps6
  go_wp2_with fail
  refine (awake_any _).mono ?_
  rintro e w1 ⟨rfl, g1⟩
  go_wp2
  go_ret
  exact Ret.mk rfl g1
set_option maxHeartbeats 1000000 in
theorem back_no3 (w : World) (kind : Int) (b : List UInt8) (B : Option Addr) (cb : Nat) (p : List UInt8) (PA : Option Addr) (cp : Nat) (t : List UInt8) (TA : Option Addr) (ct : Nat) (h0 : ¬ kind < 1) (h1 : ¬ (255 : Int) < kind) (h2 : ¬ (3000 : Int) < (b.length : Int)) (h3 : (3000 : Int) < (p.length : Int)) :
    Calls Try.prog 6 #[.int .i64 kind, .slice B b.length cb, .slice PA p.length cp, .slice TA t.length ct] w (Ret (.bool true) w) := by
  have d0 : decide (kind < 1) = false := by simpa using h0
  have d1 : decide ((255 : Int) < kind) = false := by simpa using h1
  have d2 : decide ((3000 : Int) < (b.length : Int)) = false := by simpa using h2
  have d3 : decide ((3000 : Int) < (p.length : Int)) = true := by simpa using h3
  go_enter Try.func6, Try.ntmps6
  go_wp2_with fail
  refine (awake_any _).mono ?_
  rintro e w1 ⟨rfl, g1⟩
  go_wp2
  go_ret
  exact Ret.mk rfl g1
set_option maxHeartbeats 1000000 in
theorem back_no4 (w : World) (kind : Int) (b : List UInt8) (B : Option Addr) (cb : Nat) (p : List UInt8) (PA : Option Addr) (cp : Nat) (t : List UInt8) (TA : Option Addr) (ct : Nat) (h0 : ¬ kind < 1) (h1 : ¬ (255 : Int) < kind) (h2 : ¬ (3000 : Int) < (b.length : Int)) (h3 : ¬ (3000 : Int) < (p.length : Int)) (h4 : (3000 : Int) < (t.length : Int)) :
    Calls Try.prog 6 #[.int .i64 kind, .slice B b.length cb, .slice PA p.length cp, .slice TA t.length ct] w (Ret (.bool true) w) := by
  have d0 : decide (kind < 1) = false := by simpa using h0
  have d1 : decide ((255 : Int) < kind) = false := by simpa using h1
  have d2 : decide ((3000 : Int) < (b.length : Int)) = false := by simpa using h2
  have d3 : decide ((3000 : Int) < (p.length : Int)) = false := by simpa using h3
  have d4 : decide ((3000 : Int) < (t.length : Int)) = true := by simpa using h4
  go_enter Try.func6, Try.ntmps6
  go_wp2_with fail
  refine (awake_any _).mono ?_
  rintro e w1 ⟨rfl, g1⟩
  go_wp2
  go_ret
  exact Ret.mk rfl g1
set_option maxHeartbeats 4000000 in
theorem back_yes (w : World) (k : Nat) (hk : 1 ≤ k ∧ k ≤ 255) (b : List UInt8) (B : Option Addr) (cb : Nat) (hb : Bytes w B b) (p : List UInt8) (PA : Option Addr) (cp : Nat) (hp : Bytes w PA p) (t : List UInt8) (TA : Option Addr) (ct : Nat) (ht : Bytes w TA t)
    (l1 : b.length ≤ 3000) (l2 : p.length ≤ 3000) (l3 : t.length ≤ 3000) :
    Calls Try.prog 6 #[.int .i64 (k : Int), .slice B b.length cb, .slice PA p.length cp, .slice TA t.length ct] w (Ret (.bool true) w) := by
  obtain ⟨i0, hi0, hz0, hz1, hz2⟩ := info_parts info_u8
  have h0 : ¬ (k : Int) < 1 := by omega
  have h1 : ¬ (255 : Int) < k := by omega
  have h2 : ¬ (3000 : Int) < (b.length : Int) := by omega
  have h3 : ¬ (3000 : Int) < (p.length : Int) := by omega
  have h4 : ¬ (3000 : Int) < (t.length : Int) := by omega
  have d0 : decide ((k : Int) < 1) = false := by simpa using h0
  have d1 : decide ((255 : Int) < k) = false := by simpa using h1
  have d2 : decide ((3000 : Int) < (b.length : Int)) = false := by simpa using h2
  have d3 : decide ((3000 : Int) < (p.length : Int)) = false := by simpa using h3
  have d4 : decide ((3000 : Int) < (t.length : Int)) = false := by simpa using h4
  have hc := copied_any b B cb w hb (by omega)
  have hs := fun A cap w' h => (seal_any k hk b A cap w' h (by omega)).mono fun _ _ => RetSeal.b
  have hcp := fun w' (h : Below w.heap.size w w') => copied_own p PA cp w' (hp.below h) (by omega)
  have HT := Lib.hid (fun w' (h : Below w.heap.size w w') => ht.below h)
  have HB := Lib.hid (fun w' (h : Below w.heap.size w w') => run_bytes_string w' B b cb (hb.below h))
  have hob := op_back p b t k hk (by omega)
  have hsl : b.length + 7 ≤ (sealL k b).length ∧ (sealL k b).length ≤ b.length + 16 := by have := sealL_len k b; have := sealM_len k b; omega
  obtain ⟨s1, s2⟩ := hsl
  have HOB := Lib.hid hob
  clear hob
  generalize sealL k b = s at *
  have e1 : ¬ ((s.length : Int) < (b.length : Int) + 7) := by omega
  have f1 : decide ((s.length : Int) < (b.length : Int) + 7) = false := by simp; omega
  have f2 : decide (s.length < b.length + 7) = false := by simp; omega
  go_enter Try.func6, Try.ntmps6
  go_wp2_with fail
  refine hc.mono ?_
  rintro e w1 ⟨A1, c1, rfl, y1, _, g1⟩
  go_wp2_with fail
  refine (hs _ _ _ y1).mono ?_
  rintro e w2 ⟨A2, c2, rfl, y2, g2⟩
  have H2 := Below.step g1 g2
  have Y2 := Lib.hid y2
  clear hc hs y1 y2
  go_wp2_with fail
  refine (hcp _ H2).mono ?_
  rintro e w3 ⟨A3, c3, rfl, hown3, g3⟩
  have H3 := Below.step H2 g3
  have Y3 := Lib.hid (Y2.out.below g3)
  have HO3 := Lib.hid hown3
  clear hcp hown3
  go_wp2_with (first
    | (at_builtin
       refine wpList_append_any _ rfl _ _ _ rfl w2.heap.size 5 i0 _ 1 1 Try.underlying22 hi0 hz0 hz1 hz2 rfl (by omega) _ p.length (u8s p) rfl HO3.out w3.heap.size A2 s.length c2 _ rfl Y3.out (one_u8 s) (by simp only [maxLen]; omega) (by omega) g3.size ?_
       intro v4 w4 hown4 hg4 hat4
       have hb4 : Below w2.heap.size w2 w4 := g3.grown hg4 g3.size (fun g hg => (HO3.out.lt g hg).1))
    | (at_builtin
       refine wpList_append_any _ rfl _ _ _ rfl w2.heap.size 5 i0 _ 1 1 Try.underlying22 hi0 hz0 hz1 hz2 rfl (by omega) v4 (p.length + s.length) (u8s p ++ _) rfl
         hown4 w4.heap.size TA t.length ct _ rfl (HT.out _ (Below.step H2 hb4)) (one_u8 t) (by simp only [maxLen]; omega) (by omega) hb4.size ?_
       intro v5 w5 hown5 hg5 hat5
       obtain ⟨A5, c5, rfl⟩ := own_form hown5))
  have hb5 : Below w2.heap.size w2 w5 := hb4.grown hg5 hb4.size (fun g hg => ((hown4.lt g hg).1))
  have hy5 := Bytes.of_own (l := p ++ s ++ t) (n := p.length + s.length + t.length) (by simp; omega) (by simpa [u8s] using hown5)
  have hc5 := own_cap hown5
  have H5 := Below.step H2 hb5
  clear hown4 hg4 hat4 hown5 hg5 hat5
  have hop := open_is HOB.out A5 c5 (by simp; omega) w5 hy5 (by simp; omega)
  rw [show (p ++ s ++ t).length = p.length + s.length + t.length by simp; omega] at hop
  clear hy5 hc5
  go_wp2_with fail
  refine hop.mono ?_
  clear hop
  rintro e w6 ⟨A6, c6, rfl, y6, g6⟩
  have H6 := Below.step H5 g6
  have r4 := run_bytes_string w6 A6 b c6 y6
  have r5 := HB.out _ H6
  clear y6
  go_wp2_with fail
  refine (awake_any _).mono ?_
  rintro e w7 ⟨rfl, g7⟩
  go_wp2
  go_ret
  exact Ret.mk rfl (Below.step H6 g7)
theorem back_walk (w : World) (kind : Int) (_ : Fits kind) (b : List UInt8) (B : Option Addr) (cb : Nat) (_ : b.length ≤ maxLen) (hb : Bytes w B b) (p : List UInt8) (PA : Option Addr) (cp : Nat) (_ : p.length ≤ maxLen) (hp : Bytes w PA p) (t : List UInt8) (TA : Option Addr) (ct : Nat) (_ : t.length ≤ maxLen) (ht : Bytes w TA t) :
    Calls Try.prog 6 #[.int .i64 kind, .slice B b.length cb, .slice PA p.length cp, .slice TA t.length ct] w (Ret (.bool true) w) := by
  by_cases h0 : kind < 1
  · exact back_no0 w kind b B cb p PA cp t TA ct h0
  by_cases h1 : (255 : Int) < kind
  · exact back_no1 w kind b B cb p PA cp t TA ct h0 h1
  by_cases h2 : (3000 : Int) < (b.length : Int)
  · exact back_no2 w kind b B cb p PA cp t TA ct h0 h1 h2
  by_cases h3 : (3000 : Int) < (p.length : Int)
  · exact back_no3 w kind b B cb p PA cp t TA ct h0 h1 h2 h3
  by_cases h4 : (3000 : Int) < (t.length : Int)
  · exact back_no4 w kind b B cb p PA cp t TA ct h0 h1 h2 h3 h4
  obtain ⟨k, rfl⟩ : ∃ k : Nat, kind = (k : Int) := ⟨kind.toNat, by omega⟩
  exact back_yes w k (by omega) b B cb hb p PA cp hp t TA ct ht (by omega) (by omega) (by omega)
end Go.Proofs.Ytefjjjclgcidnaa
