/- few; the law WireInts: its walk. -/
import Derived.Test.YthfcegfmciaajaaWireY
namespace Go.Proofs.Ythfcegfmciaajaa
open Go.RowKit

def fewB (b s : List UInt8) (L : List Int) : Bool := decide (b.length ≤ 300) && decide (s.length ≤ 300) && decide (L.length ≤ 100)
theorem few_any (b s : List UInt8) (L : List Int) (A B : Option Addr) (ca cb : Nat) (w : World) :
    Calls Try.prog 10 #[.slice A b.length ca, .string ⟨s.toArray⟩, .slice B L.length cb] w (Ret (.bool (fewB b s L)) w) := by
  unfold fewB
  by_cases h1 : b.length ≤ 300
  · have h1' : (b.length : Int) ≤ 300 := by omega
    by_cases h2 : s.length ≤ 300
    · have h2' : (s.length : Int) ≤ 300 := by omega
      by_cases h3 : L.length ≤ 100
      · have h3' : (L.length : Int) ≤ 100 := by omega
        have e : Hid ((decide (b.length ≤ 300) && decide (s.length ≤ 300) && decide (L.length ≤ 100)) = true) := Lib.hid (by simp [h1, h2, h3])
        go_enter Try.func10, Try.ntmps10
        go_wp2
        go_ret
        exact Ret.mk (congrArg Value.bool e.out.symm) (Below.refl _ _)
      · have hd : decide ((L.length : Int) ≤ 100) = false := by simp; omega
        have e : Hid ((decide (b.length ≤ 300) && decide (s.length ≤ 300) && decide (L.length ≤ 100)) = false) := Lib.hid (by simp; omega)
        go_enter Try.func10, Try.ntmps10
        go_wp2
        go_ret
        exact Ret.mk (congrArg Value.bool e.out.symm) (Below.refl _ _)
    · have hd : decide ((s.length : Int) ≤ 300) = false := by simp; omega
      have e : Hid ((decide (b.length ≤ 300) && decide (s.length ≤ 300) && decide (L.length ≤ 100)) = false) := Lib.hid (by simp; omega)
      go_enter Try.func10, Try.ntmps10
      go_wp2
      go_ret
      exact Ret.mk (congrArg Value.bool e.out.symm) (Below.refl _ _)
  · have hd : decide ((b.length : Int) ≤ 300) = false := by simp; omega
    have e : Hid ((decide (b.length ≤ 300) && decide (s.length ≤ 300) && decide (L.length ≤ 100)) = false) := Lib.hid (by simp; omega)
    go_enter Try.func10, Try.ntmps10
    go_wp2
    go_ret
    exact Ret.mk (congrArg Value.bool e.out.symm) (Below.refl _ _)
theorem few_is {b s : List UInt8} {L : List Int} {x : Bool} (h : fewB b s L = x) (A B : Option Addr) (ca cb : Nat) (w : World) :
    Calls Try.prog 10 #[.slice A b.length ca, .string ⟨s.toArray⟩, .slice B L.length cb] w (Ret (.bool x) w) := h ▸ few_any b s L A B ca cb w
theorem few_b {b : List UInt8} {x : Bool} (h : fewB b [] [] = x) (A : Option Addr) (ca : Nat) (w : World) :
    Calls Try.prog 10 #[.slice A b.length ca, .string ⟨#[]⟩, .slice none 0 0] w (Ret (.bool x) w) := few_is h A none ca 0 w

set_option maxHeartbeats 1000000 in
theorem ints_walk (w : World) (b : List UInt8) (B : Option Addr) (cb : Nat) (_ : b.length ≤ maxLen) (hb : Bytes w B b) (at_ : Int) (hat : Fits at_) :
    Calls Try.prog 4 #[.slice B b.length cb, .int .i64 at_] w (Ret (.bool true) w) := by
  rcases Bool.eq_false_or_eq_true (fewB b [] []) with hf | hf
  · have HF := Lib.hid hf
    have hl : b.length ≤ 300 := by simpa [fewB] using hf
    have c1 := fun w' (h : Below w.heap.size w w') => int_any b B cb at_ hat w' (hb.below h) (by omega)
    have c2 := fun w' (h : Below w.heap.size w w') => rint_any b B cb at_ hat w' (hb.below h) (by omega)
    generalize intN b at_ = N at *
    generalize intTo b at_ = T at *
    generalize intE b at_ = E at *
    clear hf
    go_enter Try.func4, Try.ntmps4
    go_wp2_with fail
    refine (few_b HF.out B cb _).mono ?_
    rintro e w1 ⟨rfl, h1⟩
    go_wp2_with fail
    refine (c1 w1 h1).mono ?_
    rintro e w2 ⟨rfl, h2⟩
    have H2 := Below.step h1 h2
    go_wp2_with fail
    refine (c2 w2 H2).mono ?_
    rintro e w3 ⟨rfl, h3⟩
    have H3 := Below.step H2 h3
    go_wp2_with fail
    refine (awake_any _).mono ?_
    rintro e w4 ⟨rfl, h4⟩
    go_wp2
    go_ret
    exact Ret.mk rfl (Below.step H3 h4)
  · have HF := Lib.hid hf
    clear hf
    go_enter Try.func4, Try.ntmps4
    go_wp2_with fail
    refine (few_b HF.out B cb _).mono ?_
    rintro e w1 ⟨rfl, h1⟩
    go_wp2_with fail
    refine (awake_any _).mono ?_
    rintro e w4 ⟨rfl, h4⟩
    go_wp2
    go_ret
    exact Ret.mk rfl (by repeat (first | assumption | exact Below.refl _ _ | refine Below.alloc ?_ (by first | omega | (simp; done) | (simp; omega)) _ | refine Below.setCell ?_ (by first | omega | (simp; done) | (simp; omega)) _ | refine Below.drew ?_ | refine Below.drewN_ ?_ _ | refine Below.step ?_ (by assumption)))
end Go.Proofs.Ythfcegfmciaajaa
