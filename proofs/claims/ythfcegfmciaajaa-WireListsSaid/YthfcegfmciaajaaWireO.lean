/- The law WireLists: its walk. -/
import Derived.Test.YthfcegfmciaajaaWireW
import Derived.Test.YthfcegfmciaajaaWireN
import Derived.Test.YthfcegfmciaajaaSame
namespace Go.Proofs.Ythfcegfmciaajaa
open Go.RowKit

theorem insL_len (l : List UInt8) : ∀ n t, insE l n t = 0 → (insL l n t).length = n ∧ t + n ≤ insT l n t ∧ (0 < n → insT l n t ≤ l.length)
  | 0, t, _ => ⟨rfl, by simp [insT], fun h => by omega⟩
  | n + 1, t, h => by
    by_cases hz : intE l t = 0
    · have h' : insE l n (intTo l t) = 0 := by rw [insE, if_pos hz] at h; exact h
      obtain ⟨i1, i2, i3⟩ := insL_len l n _ h'
      have hup := int_up hz
      have hbd := int_bd hz
      refine ⟨by rw [insL, List.length_cons, i1], by rw [insT]; push_cast; omega, fun _ => ?_⟩
      rw [insT]
      rcases Nat.eq_zero_or_pos n with h0 | h0
      · subst h0; rw [insT]; exact hbd.2.1
      · exact i3 h0
    · rw [insE, if_neg hz] at h; exact absurd h hz
theorem insL_small (l : List UInt8) (at_ : Int) (hl : l.length ≤ 100000) : (insL' l at_).length ≤ 100000 := by
  unfold insL'
  split
  · rename_i h
    have h0 : lenE l at_ = 0 := by
      unfold insE' at h
      split at h
      · assumption
      · exact h
    have h2 : insE l (lenN l at_).toNat (lenTo l at_) = 0 := by unfold insE' at h; rw [if_pos h0] at h; exact h
    obtain ⟨i1, i2, i3⟩ := insL_len l _ _ h2
    obtain ⟨b1, b2, b3, b4⟩ := len_bd h0
    rw [i1]
    rcases Nat.eq_zero_or_pos (lenN l at_).toNat with h3 | h3
    · omega
    · have := i3 h3
      omega
  · simp

set_option maxHeartbeats 1000000 in
theorem lists_walk (w : World) (b : List UInt8) (B : Option Addr) (cb : Nat) (_ : b.length ≤ maxLen) (hcap : b.length ≤ cb) (hb : Bytes w B b) (at_ : Int) (hat : Fits at_) :
    Calls Try.prog 5 #[.slice B b.length cb, .int .i64 at_] w (Ret (.bool true) w) := by
  rcases Bool.eq_false_or_eq_true (fewB b [] []) with hf | hf
  · have HF := Lib.hid hf
    have hl : b.length ≤ 300 := by simpa [fewB] using hf
    have c1 := fun w' (h : Below w.heap.size w w') => text_any b B cb hcap at_ hat w' (hb.below h) (by omega)
    have c2 := fun w' (h : Below w.heap.size w w') => rtext_any b B cb hcap at_ hat w' (hb.below h) (by omega)
    have c3 := fun w' (h : Below w.heap.size w w') => ins_any b B cb at_ hat w' (hb.below h) (by omega)
    have c4 := fun w' (h : Below w.heap.size w w') => rins_any b B cb at_ hat w' (hb.below h) (by omega)
    have hL := insL_small b at_ (by omega)
    generalize textS b at_ = S at *
    generalize textTo b at_ = T at *
    generalize textE b at_ = E at *
    clear hf
    unfold RetIns at c3 c4
    generalize insL' b at_ = L at *
    generalize insT' b at_ = T2 at *
    generalize insE' b at_ = E2 at *
    go_enter Try.func5, Try.ntmps5
    go_wp2_with fail
    refine (few_b HF.out B cb _).mono ?_
    rintro e w1 ⟨rfl, h1⟩
    go_wp2_with fail
    refine (c1 w1 h1).mono ?_
    rintro e w2 ⟨rfl, h2⟩
    have H2 := Below.step h1 h2
    go_wp2_with fail
    refine (c2 w2 H2).mono ?_
    rintro e w3 ⟨rfl, h3⟩
    have H3 := Below.step H2 h3
    go_wp2_with fail
    refine (c3 w3 H3).mono ?_
    rintro e w4 ⟨A4, k4, rfl, i4, h4⟩
    have H4 := Below.step H3 h4
    go_wp2_with fail
    refine (c4 w4 H4).mono ?_
    rintro e w5 ⟨A5, k5, rfl, i5, h5⟩
    have H5 := Below.step H4 h5
    go_wp2_with fail
    refine (same_yes L A4 A5 k4 k5 w5 (i4.below h5) i5 (by unfold maxLen; omega)).mono ?_
    rintro e w6 ⟨rfl, h6⟩
    have H6 := Below.step H5 h6
    go_wp2_with fail
    refine (awake_any _).mono ?_
    rintro e w7 ⟨rfl, h7⟩
    go_wp2
    go_ret
    exact Ret.mk rfl (Below.step H6 h7)
  · have HF := Lib.hid hf
    clear hf
    go_enter Try.func5, Try.ntmps5
    go_wp2_with fail
    refine (few_b HF.out B cb _).mono ?_
    rintro e w1 ⟨rfl, h1⟩
    go_wp2_with fail
    refine (awake_any _).mono ?_
    rintro e w4 ⟨rfl, h4⟩
    go_wp2
    go_ret
    exact Ret.mk rfl (by repeat (first | assumption | exact Below.refl _ _ | refine Below.alloc ?_ (by first | omega | (simp; done) | (simp; omega)) _ | refine Below.setCell ?_ (by first | omega | (simp; done) | (simp; omega)) _ | refine Below.drew ?_ | refine Below.drewN_ ?_ _ | refine Below.step ?_ (by assumption)))
end Go.Proofs.Ythfcegfmciaajaa
