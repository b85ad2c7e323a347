/- The law WireAgain: its walk, all cases. -/
import Derived.Test.YthfcegfmciaajaaWireAg
namespace Go.Proofs.Ythfcegfmciaajaa
open Go.RowKit

set_option maxHeartbeats 1000000 in
theorem again_no (w : World) (b : List UInt8) (B : Option Addr) (cb : Nat) (at_ : Int) (hf : fewB b [] [] = false) :
    Calls Try.prog 7 #[.slice B b.length cb, .int .i64 at_] w (Ret (.bool true) w) := by
  have HF := Lib.hid hf
  clear hf
  go_enter Try.func7, Try.ntmps7
  go_wp2_with fail
  refine (few_b HF.out B cb _).mono ?_
  rintro e w1 ⟨rfl, h1⟩
  go_wp2_with fail
  refine (awake_any _).mono ?_
  rintro e w4 ⟨rfl, h4⟩
  go_wp2
  go_ret
  exact Ret.mk rfl (by repeat (first | assumption | exact Below.refl _ _ | refine Below.alloc ?_ (by first | omega | (simp; done) | (simp; omega)) _ | refine Below.setCell ?_ (by first | omega | (simp; done) | (simp; omega)) _ | refine Below.drew ?_ | refine Below.drewN_ ?_ _ | refine Below.step ?_ (by assumption)))
set_option maxHeartbeats 1000000 in
theorem again_neg (w : World) (b : List UInt8) (B : Option Addr) (cb : Nat) (at_ : Int) (hf : fewB b [] [] = true) (h : at_ < 0) :
    Calls Try.prog 7 #[.slice B b.length cb, .int .i64 at_] w (Ret (.bool true) w) := by
  have HF := Lib.hid hf
  have hd : decide (at_ < 0) = true := by simpa using h
  clear hf
  go_enter Try.func7, Try.ntmps7
  go_wp2_with fail
  refine (few_b HF.out B cb _).mono ?_
  rintro e w1 ⟨rfl, h1⟩
  go_wp2_with fail
  refine (awake_any _).mono ?_
  rintro e w4 ⟨rfl, h4⟩
  go_wp2
  go_ret
  exact Ret.mk rfl (by repeat (first | assumption | exact Below.refl _ _ | refine Below.alloc ?_ (by first | omega | (simp; done) | (simp; omega)) _ | refine Below.setCell ?_ (by first | omega | (simp; done) | (simp; omega)) _ | refine Below.drew ?_ | refine Below.drewN_ ?_ _ | refine Below.step ?_ (by assumption)))
set_option maxHeartbeats 1000000 in
theorem again_far (w : World) (b : List UInt8) (B : Option Addr) (cb : Nat) (at_ : Int) (hf : fewB b [] [] = true) (h : (b.length : Int) < at_) :
    Calls Try.prog 7 #[.slice B b.length cb, .int .i64 at_] w (Ret (.bool true) w) := by
  have HF := Lib.hid hf
  have hd : decide ((b.length : Int) < at_) = true := by simpa using h
  have hd2 : decide (at_ < 0) = false := by simp; omega
  have hd3 : ¬ at_ < 0 := by omega
  clear hf
  go_enter Try.func7, Try.ntmps7
  go_wp2_with fail
  refine (few_b HF.out B cb _).mono ?_
  rintro e w1 ⟨rfl, h1⟩
  go_wp2_with fail
  refine (awake_any _).mono ?_
  rintro e w4 ⟨rfl, h4⟩
  go_wp2
  go_ret
  exact Ret.mk rfl (by repeat (first | assumption | exact Below.refl _ _ | refine Below.alloc ?_ (by first | omega | (simp; done) | (simp; omega)) _ | refine Below.setCell ?_ (by first | omega | (simp; done) | (simp; omega)) _ | refine Below.drew ?_ | refine Below.drewN_ ?_ _ | refine Below.step ?_ (by assumption)))
theorem wagain_walk (w : World) (b : List UInt8) (B : Option Addr) (cb : Nat) (_ : b.length ≤ maxLen) (hcap : b.length ≤ cb) (hb : Bytes w B b) (at_ : Int) (_ : Fits at_) :
    Calls Try.prog 7 #[.slice B b.length cb, .int .i64 at_] w (Ret (.bool true) w) := by
  rcases Bool.eq_false_or_eq_true (fewB b [] []) with hf | hf
  · by_cases h : at_ < 0
    · exact again_neg w b B cb at_ hf h
    · by_cases h2 : (b.length : Int) < at_
      · exact again_far w b B cb at_ hf h2
      · obtain ⟨a, rfl⟩ : ∃ a : Nat, at_ = (a : Int) := ⟨at_.toNat, by omega⟩
        exact again_yes w b B cb hcap hb a (by omega) hf
  · exact again_no w b B cb at_ hf
end Go.Proofs.Ythfcegfmciaajaa
