/- The reference's PutInt. -/
import Derived.Test.YthfcegfmciaajaaWireB
namespace Go.Proofs.Ythfcegfmciaajaa
open Go.RowKit

theorem byte_hi (u : Nat) : (u : Int) % 128 + 128 = ((UInt8.ofNat (u % 128 + 128)).toNat : Int) := by
  have : (UInt8.ofNat (u % 128 + 128)).toNat = u % 128 + 128 := by simp; omega
  rw [this]
  omega

set_option maxRecDepth 20000 in
set_option maxHeartbeats 1000000 in
theorem rput_any (l : List UInt8) (A : Option Addr) (cap : Nat) (n : Int) (hn : Fits n) (w : World) (hv : Bytes w A l) (hl : l.length ≤ 80000) :
    Calls Try.prog 13 #[.slice A l.length cap, .int .i64 n] w (RetOwn w.heap.size (l ++ encI n) w) := by
  obtain ⟨i0, hi0, hz0, hz1, hz2⟩ := info_parts info_u8
  have hu := Lib.zigzag_lt hn.1 hn.2
  have hE : Hid (encI n = encU 9 (Lib.zigzag n)) := Lib.hid rfl
  obtain ⟨hn1, hn2⟩ := hn
  by_cases hneg : n < 0
  · have HU : Hid (-(n + 1) * 2 + 1 = (Lib.zigzag n : Int)) := Lib.hid (by unfold Lib.zigzag; rw [if_neg (by omega)]; omega)
    generalize Lib.zigzag n = u0 at *
    go_enter Try.func13, Try.ntmps13
    go_wp2_with (at_builtin; refine wpList_append_any _ rfl (.tmp 18) (.tmp 19) _ rfl w.heap.size 5 i0 _ 1 1 Try.underlying22 hi0 hz0 hz1 hz2 rfl (by omega) _ 0 [] rfl (own_empty w _) w.heap.size A l.length cap _ rfl (Reads.alloc hv (Nat.le_refl _) _) (one_u8 l) (by simp only [maxLen]; omega) (by omega) (by simp) ?_; intro v1 w1 hown1 hg1 hat1)
    obtain ⟨A1, c1, rfl⟩ := own_form hown1
    have hB1 : Below w.heap.size w w1 := ((Below.refl _ _).alloc (Nat.le_refl _) _).trans ((Below.refl _ _).grown hg1 (by simp) (fun k hk => by have h : some w.heap.size = some k := hk; injection h with h; omega))
    have hv1 : Hid (w1.ownsRow w.heap.size 5 1 (.slice A1 l.length c1) l.length (u8s l)) := Lib.hid (by rw [Nat.zero_add] at hown1; simpa [u8s] using hown1)
    rw [Nat.zero_add]
    clear hown1 hg1 hat1 hv
    go_wp2
    go_loopw [5, 6] (fun u b wr => ∃ (pre : List UInt8) (f u1 : Nat) (Ar : Option Addr) (cr : Nat), b = .slice Ar (l ++ pre).length cr ∧ wr.ownsRow w.heap.size 5 1 (.slice Ar (l ++ pre).length cr) (l ++ pre).length (u8s (l ++ pre)) ∧ u = .int .u64 (u1 : Int) ∧
      pre.length + f = 9 ∧ u1 < 2 * 128 ^ f ∧ Hid (pre ++ encU f u1 = encI n) ∧ Below w.heap.size w wr) (fun u _ _ => (intOf u).toNat)
    case atStart => exact ⟨[], 9, u0, A1, c1, by simp, by simpa using hv1.out, congrArg (Value.int .u64) HU.out, rfl, by simpa using hu, Lib.hid (by rw [hE.out]; rfl), hB1⟩
    case round =>
      obtain ⟨pre, f, u1, Ar, cr, rfl, hown, rfl, hpf, hu1, HE, hbw⟩ := hrel
      have Hown := Lib.hid hown
      clear hown hv1
      have hlen : (l ++ pre).length ≤ 80009 := by rw [List.length_append]; omega
      have hsz : w.heap.size ≤ wr.heap.size := hbw.size
      generalize hLP : l ++ pre = lp at *
      have HLP := Lib.hid hLP
      clear hLP
      by_cases hge : 128 ≤ u1
      · obtain ⟨g, rfl⟩ : ∃ g, f = g + 1 := ⟨f - 1, by
          rcases f with _ | f
          · simp at hu1; omega
          · omega⟩
        have hu2 : u1 / 128 < 2 * 128 ^ g := by rw [Nat.pow_succ] at hu1; omega
        have hby := Lib.hid (byte_hi u1)
        have HE2 : Hid ((pre ++ [UInt8.ofNat (u1 % 128 + 128)]) ++ encU g (u1 / 128) = encI n) := Lib.hid (by rw [← HE.out, encU, if_neg (by omega)]; simp)
        have hub : u1 < 18446744073709551616 := by
          have : 128 ^ (g + 1) ≤ 128 ^ 9 := Nat.pow_le_pow_right (by decide) (by omega)
          rw [show (128 : Nat) ^ 9 = 9223372036854775808 from by decide] at this
          omega
        have hge' : (128 : Int) ≤ (u1 : Int) := by omega
        generalize UInt8.ofNat (u1 % 128 + 128) = c at *
        clear hu1 HE hE hu
        go_wp2_with (at_builtin; refine wpList_append_own _ rfl _ _ 22 rfl w.heap.size 5 i0 (.int .u8 0) 1 1 Try.underlying22 hi0 hz0 hz1 hz2 rfl (by decide) _ _ _ rfl (Hown.out.alloc _) ⟨wr.heap.size, 0, none⟩ 1 1 [.int .u8 ((u1 : Int) % 128 + 128)] rfl rfl (cell_one_new _ _ _) (fun x hx => by simp at hx; subst hx; rfl) (by unfold maxLen; omega) (by omega) (by simp; omega) ?_; intro v' w4 hown4 hgrow4 hat4)
        have hb4 : Below w.heap.size w w4 := (hbw.alloc hsz _).grown hgrow4 (by simp; omega) (fun g hg => (Hown.out.lt g hg).1)
        obtain ⟨A4, c4, rfl⟩ := own_form hown4
        have Hown4 : Hid (w4.ownsRow w.heap.size 5 1 (.slice A4 (lp.length + 1) c4) (lp.length + 1) (u8s (lp ++ [c]))) := Lib.hid (by rw [← u8s_snoc, ← hby.out]; exact hown4)
        clear hown4 hgrow4 hat4
        go_wp2
        go_roundw
        case rel =>
          refine ⟨pre ++ [c], g, u1 / 128, A4, c4, ?_, ?_, by go_num, by simp; omega, hu2, HE2, hb4⟩
          · rw [← List.append_assoc, HLP.out, List.length_append]; rfl
          · rw [← List.append_assoc, HLP.out, List.length_append]; exact Hown4.out
        case measure => simp [intOf]; omega
      · have HL := Lib.hid (encU_last (f := f) (u := u1) (by omega))
        have HE2 : Hid (pre ++ [UInt8.ofNat u1] = encI n) := Lib.hid (by rw [← HE.out, HL.out])
        have hlt' : (u1 : Int) < 128 := by omega
        have hlo := Lib.hid (low8 (u := u1) (by omega))
        generalize UInt8.ofNat u1 = c at *
        clear HE hE hu
        have hu3 : u1 < 128 := by omega
        clear hu1
        go_wp2_with (at_builtin; refine wpList_append_own _ rfl _ _ 22 rfl w.heap.size 5 i0 (.int .u8 0) 1 1 Try.underlying22 hi0 hz0 hz1 hz2 rfl (by decide) _ _ _ rfl (Hown.out.alloc _) ⟨wr.heap.size, 0, none⟩ 1 1 [.int .u8 (u1 : Int)] rfl rfl (cell_one_new _ _ _) (fun x hx => by simp at hx; subst hx; rfl) (by unfold maxLen; omega) (by omega) (by simp; omega) ?_; intro v' w4 hown4 hgrow4 hat4)
        have hb4 : Below w.heap.size w w4 := (hbw.alloc hsz _).grown hgrow4 (by simp; omega) (fun g hg => (Hown.out.lt g hg).1)
        obtain ⟨A4, c4, rfl⟩ := own_form hown4
        have Hown4 : Hid (w4.ownsRow w.heap.size 5 1 (.slice A4 (lp.length + 1) c4) (lp.length + 1) (u8s (lp ++ [c]))) := Lib.hid (by rw [← u8s_snoc, ← hlo.out]; exact hown4)
        clear hown4 hgrow4 hat4
        go_wp2
        go_ret
        refine ⟨A4, c4, ?_, ?_, hb4⟩
        · rw [← HE2.out, ← List.append_assoc, HLP.out, List.length_append]; rfl
        · rw [← HE2.out, ← List.append_assoc, HLP.out, List.length_append]; exact Hown4.out
  · have HU : Hid (n * 2 = (Lib.zigzag n : Int)) := Lib.hid (by unfold Lib.zigzag; rw [if_pos (by omega)]; omega)
    generalize Lib.zigzag n = u0 at *
    have hneg' : 0 ≤ n := by omega
    go_enter Try.func13, Try.ntmps13
    go_wp2_with (at_builtin; refine wpList_append_any _ rfl (.tmp 18) (.tmp 19) _ rfl w.heap.size 5 i0 _ 1 1 Try.underlying22 hi0 hz0 hz1 hz2 rfl (by omega) _ 0 [] rfl (own_empty w _) w.heap.size A l.length cap _ rfl (Reads.alloc hv (Nat.le_refl _) _) (one_u8 l) (by simp only [maxLen]; omega) (by omega) (by simp) ?_; intro v1 w1 hown1 hg1 hat1)
    obtain ⟨A1, c1, rfl⟩ := own_form hown1
    have hB1 : Below w.heap.size w w1 := ((Below.refl _ _).alloc (Nat.le_refl _) _).trans ((Below.refl _ _).grown hg1 (by simp) (fun k hk => by have h : some w.heap.size = some k := hk; injection h with h; omega))
    have hv1 : Hid (w1.ownsRow w.heap.size 5 1 (.slice A1 l.length c1) l.length (u8s l)) := Lib.hid (by rw [Nat.zero_add] at hown1; simpa [u8s] using hown1)
    rw [Nat.zero_add]
    clear hown1 hg1 hat1 hv
    go_wp2
    go_loopw [5, 6] (fun u b wr => ∃ (pre : List UInt8) (f u1 : Nat) (Ar : Option Addr) (cr : Nat), b = .slice Ar (l ++ pre).length cr ∧ wr.ownsRow w.heap.size 5 1 (.slice Ar (l ++ pre).length cr) (l ++ pre).length (u8s (l ++ pre)) ∧ u = .int .u64 (u1 : Int) ∧
      pre.length + f = 9 ∧ u1 < 2 * 128 ^ f ∧ Hid (pre ++ encU f u1 = encI n) ∧ Below w.heap.size w wr) (fun u _ _ => (intOf u).toNat)
    case atStart => exact ⟨[], 9, u0, A1, c1, by simp, by simpa using hv1.out, congrArg (Value.int .u64) HU.out, rfl, by simpa using hu, Lib.hid (by rw [hE.out]; rfl), hB1⟩
    case round =>
      obtain ⟨pre, f, u1, Ar, cr, rfl, hown, rfl, hpf, hu1, HE, hbw⟩ := hrel
      have Hown := Lib.hid hown
      clear hown hv1
      have hlen : (l ++ pre).length ≤ 80009 := by rw [List.length_append]; omega
      have hsz : w.heap.size ≤ wr.heap.size := hbw.size
      generalize hLP : l ++ pre = lp at *
      have HLP := Lib.hid hLP
      clear hLP
      by_cases hge : 128 ≤ u1
      · obtain ⟨g, rfl⟩ : ∃ g, f = g + 1 := ⟨f - 1, by
          rcases f with _ | f
          · simp at hu1; omega
          · omega⟩
        have hu2 : u1 / 128 < 2 * 128 ^ g := by rw [Nat.pow_succ] at hu1; omega
        have hby := Lib.hid (byte_hi u1)
        have HE2 : Hid ((pre ++ [UInt8.ofNat (u1 % 128 + 128)]) ++ encU g (u1 / 128) = encI n) := Lib.hid (by rw [← HE.out, encU, if_neg (by omega)]; simp)
        have hub : u1 < 18446744073709551616 := by
          have : 128 ^ (g + 1) ≤ 128 ^ 9 := Nat.pow_le_pow_right (by decide) (by omega)
          rw [show (128 : Nat) ^ 9 = 9223372036854775808 from by decide] at this
          omega
        have hge' : (128 : Int) ≤ (u1 : Int) := by omega
        generalize UInt8.ofNat (u1 % 128 + 128) = c at *
        clear hu1 HE hE hu
        go_wp2_with (at_builtin; refine wpList_append_own _ rfl _ _ 22 rfl w.heap.size 5 i0 (.int .u8 0) 1 1 Try.underlying22 hi0 hz0 hz1 hz2 rfl (by decide) _ _ _ rfl (Hown.out.alloc _) ⟨wr.heap.size, 0, none⟩ 1 1 [.int .u8 ((u1 : Int) % 128 + 128)] rfl rfl (cell_one_new _ _ _) (fun x hx => by simp at hx; subst hx; rfl) (by unfold maxLen; omega) (by omega) (by simp; omega) ?_; intro v' w4 hown4 hgrow4 hat4)
        have hb4 : Below w.heap.size w w4 := (hbw.alloc hsz _).grown hgrow4 (by simp; omega) (fun g hg => (Hown.out.lt g hg).1)
        obtain ⟨A4, c4, rfl⟩ := own_form hown4
        have Hown4 : Hid (w4.ownsRow w.heap.size 5 1 (.slice A4 (lp.length + 1) c4) (lp.length + 1) (u8s (lp ++ [c]))) := Lib.hid (by rw [← u8s_snoc, ← hby.out]; exact hown4)
        clear hown4 hgrow4 hat4
        go_wp2
        go_roundw
        case rel =>
          refine ⟨pre ++ [c], g, u1 / 128, A4, c4, ?_, ?_, by go_num, by simp; omega, hu2, HE2, hb4⟩
          · rw [← List.append_assoc, HLP.out, List.length_append]; rfl
          · rw [← List.append_assoc, HLP.out, List.length_append]; exact Hown4.out
        case measure => simp [intOf]; omega
      · have HL := Lib.hid (encU_last (f := f) (u := u1) (by omega))
        have HE2 : Hid (pre ++ [UInt8.ofNat u1] = encI n) := Lib.hid (by rw [← HE.out, HL.out])
        have hlt' : (u1 : Int) < 128 := by omega
        have hlo := Lib.hid (low8 (u := u1) (by omega))
        generalize UInt8.ofNat u1 = c at *
        clear HE hE hu
        have hu3 : u1 < 128 := by omega
        clear hu1
        go_wp2_with (at_builtin; refine wpList_append_own _ rfl _ _ 22 rfl w.heap.size 5 i0 (.int .u8 0) 1 1 Try.underlying22 hi0 hz0 hz1 hz2 rfl (by decide) _ _ _ rfl (Hown.out.alloc _) ⟨wr.heap.size, 0, none⟩ 1 1 [.int .u8 (u1 : Int)] rfl rfl (cell_one_new _ _ _) (fun x hx => by simp at hx; subst hx; rfl) (by unfold maxLen; omega) (by omega) (by simp; omega) ?_; intro v' w4 hown4 hgrow4 hat4)
        have hb4 : Below w.heap.size w w4 := (hbw.alloc hsz _).grown hgrow4 (by simp; omega) (fun g hg => (Hown.out.lt g hg).1)
        obtain ⟨A4, c4, rfl⟩ := own_form hown4
        have Hown4 : Hid (w4.ownsRow w.heap.size 5 1 (.slice A4 (lp.length + 1) c4) (lp.length + 1) (u8s (lp ++ [c]))) := Lib.hid (by rw [← u8s_snoc, ← hlo.out]; exact hown4)
        clear hown4 hgrow4 hat4
        go_wp2
        go_ret
        refine ⟨A4, c4, ?_, ?_, hb4⟩
        · rw [← HE2.out, ← List.append_assoc, HLP.out, List.length_append]; rfl
        · rw [← HE2.out, ← List.append_assoc, HLP.out, List.length_append]; exact Hown4.out
end Go.Proofs.Ythfcegfmciaajaa
