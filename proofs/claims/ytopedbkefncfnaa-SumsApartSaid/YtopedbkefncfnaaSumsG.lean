/- The laws SumsCrc, SumsHash, SumsHex, SumsUnhex: their walks. -/
import Derived.Test.YtopedbkefncfnaaSumsF
namespace Go.Proofs.Ytopedbkefncfnaa
open Go.RowKit

def fewB (a b : List UInt8) : Bool := decide (a.length ≤ 5000) && decide (b.length ≤ 5000)
theorem few_any (a b : List UInt8) (A B : Option Addr) (ca cb : Nat) (w : World) :
    Calls Try.prog 11 #[.slice A a.length ca, .slice B b.length cb] w (Ret (.bool (fewB a b)) w) := by
  unfold fewB
  by_cases h1 : a.length ≤ 5000
  · by_cases h2 : b.length ≤ 5000
    · have h1' : (a.length : Int) ≤ 5000 := by omega
      have h2' : (b.length : Int) ≤ 5000 := by omega
      have e : Hid ((decide (a.length ≤ 5000) && decide (b.length ≤ 5000)) = true) := Lib.hid (by simp [h1, h2])
      go_enter Try.func11, Try.ntmps11
      go_wp2
      go_ret
      exact Ret.mk (congrArg Value.bool e.out.symm) (Below.refl _ _)
    · have h1' : (a.length : Int) ≤ 5000 := by omega
      have hd : decide ((b.length : Int) ≤ 5000) = false := by simp; omega
      have e : Hid ((decide (a.length ≤ 5000) && decide (b.length ≤ 5000)) = false) := Lib.hid (by simp; omega)
      go_enter Try.func11, Try.ntmps11
      go_wp2
      go_ret
      exact Ret.mk (congrArg Value.bool e.out.symm) (Below.refl _ _)
  · have hd : decide ((a.length : Int) ≤ 5000) = false := by simp; omega
    have e : Hid ((decide (a.length ≤ 5000) && decide (b.length ≤ 5000)) = false) := Lib.hid (by simp; omega)
    go_enter Try.func11, Try.ntmps11
    go_wp2
    go_ret
    exact Ret.mk (congrArg Value.bool e.out.symm) (Below.refl _ _)
theorem few_two {a b : List UInt8} {x : Bool} (h : fewB a b = x) (A B : Option Addr) (ca cb : Nat) (w : World) :
    Calls Try.prog 11 #[.slice A a.length ca, .slice B b.length cb] w (Ret (.bool x) w) := h ▸ few_any a b A B ca cb w
theorem few_nil {a : List UInt8} {x : Bool} (h : fewB a [] = x) (A : Option Addr) (ca : Nat) (w : World) :
    Calls Try.prog 11 #[.slice A a.length ca, .slice none 0 0] w (Ret (.bool x) w) := few_two h A none ca 0 w

set_option maxHeartbeats 1000000 in
theorem crc_walk (w : World) (a : List UInt8) (A : Option Addr) (ca : Nat) (hl : a.length ≤ maxLen) (ha : Bytes w A a) : Calls Try.prog 3 #[.slice A a.length ca] w (Ret (.bool true) w) := by
  rcases Bool.eq_false_or_eq_true (fewB a []) with hf | hf
  · have HF := Lib.hid hf
    clear hf
    go_enter Try.func3, Try.ntmps3
    go_wp2_with fail
    refine (few_nil HF.out _ _ _).mono ?_
    rintro e w1 ⟨rfl, h1⟩
    go_wp2_with fail
    refine (crc_any a A ca _ (ha.below h1) hl).mono ?_
    rintro e w2 ⟨rfl, h2⟩
    have H2 := Below.step h1 h2
    go_wp2_with fail
    refine (rcrc_any a A ca _ (ha.below H2) hl).mono ?_
    generalize crcL a ^^^ 4294967295 = x
    rintro e w3 ⟨rfl, h3⟩
    go_wp2_with fail
    refine (awake_any _).mono ?_
    rintro e w4 ⟨rfl, h4⟩
    go_wp2
    go_ret
    exact Ret.mk rfl (Below.step (Below.step H2 h3) h4)
  · have HF := Lib.hid hf
    clear hf
    go_enter Try.func3, Try.ntmps3
    go_wp2_with fail
    refine (few_nil HF.out _ _ _).mono ?_
    rintro e w1 ⟨rfl, h1⟩
    go_wp2_with fail
    refine (awake_any _).mono ?_
    rintro e w4 ⟨rfl, h4⟩
    go_wp2
    go_ret
    exact Ret.mk rfl (Below.step h1 h4)

set_option maxHeartbeats 1000000 in
theorem hash_walk (w : World) (h : Int) (_ : Fits h) (a : List UInt8) (A : Option Addr) (ca : Nat) (hl : a.length ≤ maxLen) (ha : Bytes w A a) : Calls Try.prog 4 #[.int .i64 h, .slice A a.length ca] w (Ret (.bool true) w) := by
  rcases Bool.eq_false_or_eq_true (fewB a []) with hf | hf
  · have HF := Lib.hid hf
    clear hf
    go_enter Try.func4, Try.ntmps4
    go_wp2_with fail
    refine (few_nil HF.out _ _ _).mono ?_
    rintro e w1 ⟨rfl, h1⟩
    go_wp2_with fail
    refine (hash_any a A ca _ (ha.below h1) hl).mono ?_
    rintro e w2 ⟨rfl, h2⟩
    have H2 := Below.step h1 h2
    go_wp2_with fail
    refine (rhash_any a A ca _ (ha.below H2) hl).mono ?_
    rintro e w3 ⟨rfl, h3⟩
    have H3 := Below.step H2 h3
    go_wp2_with fail
    refine (more_any h a A ca _ (ha.below H3) hl).mono ?_
    rintro e w4 ⟨rfl, h4⟩
    have H4 := Below.step H3 h4
    go_wp2_with fail
    refine (rmore_any h a A ca _ (ha.below H4) hl).mono ?_
    rintro e w5 ⟨rfl, h5⟩
    go_wp2_with fail
    refine (awake_any _).mono ?_
    rintro e w6 ⟨rfl, h6⟩
    go_wp2
    go_ret
    exact Ret.mk rfl (Below.step (Below.step H4 h5) h6)
  · have HF := Lib.hid hf
    clear hf
    go_enter Try.func4, Try.ntmps4
    go_wp2_with fail
    refine (few_nil HF.out _ _ _).mono ?_
    rintro e w1 ⟨rfl, h1⟩
    go_wp2_with fail
    refine (awake_any _).mono ?_
    rintro e w4 ⟨rfl, h4⟩
    go_wp2
    go_ret
    exact Ret.mk rfl (Below.step h1 h4)

set_option maxHeartbeats 1000000 in
theorem hex_walk (w : World) (h : Int) (_ : Fits h) : Calls Try.prog 5 #[.int .i64 h] w (Ret (.bool true) w) := by
  go_enter Try.func5, Try.ntmps5
  go_wp2_with fail
  refine (hex_any h _).mono ?_
  rintro e w1 ⟨rfl, h1⟩
  go_wp2_with fail
  refine (rhex_any h _).mono ?_
  generalize hexS h = x
  rintro e w2 ⟨rfl, h2⟩
  go_wp2_with fail
  refine (awake_any _).mono ?_
  rintro e w3 ⟨rfl, h3⟩
  go_wp2
  go_ret
  exact Ret.mk rfl (Below.step (Below.step h1 h2) h3)

set_option maxHeartbeats 1000000 in
theorem unhex_walk (w : World) (l : List UInt8) (_ : l.length ≤ maxLen) : Calls Try.prog 6 #[.string ⟨l.toArray⟩] w (Ret (.bool true) w) := by
  by_cases hl : 300 < l.length
  · have hl' : 300 < (l.length : Int) := by omega
    go_enter Try.func6, Try.ntmps6
    go_wp2_with fail
    refine (awake_any _).mono ?_
    rintro e w1 ⟨rfl, h1⟩
    go_wp2
    go_ret
    exact Ret.mk rfl h1
  · have hl' : (l.length : Int) ≤ 300 := by omega
    clear hl
    go_enter Try.func6, Try.ntmps6
    go_wp2_with fail
    refine (unhex_any l _).mono ?_
    rintro e w1 ⟨rfl, h1⟩
    go_wp2_with fail
    refine (runhex_any l _).mono ?_
    rintro e w2 ⟨rfl, h2⟩
    go_wp2_with fail
    refine (awake_any _).mono ?_
    rintro e w3 ⟨rfl, h3⟩
    go_wp2
    go_ret
    exact Ret.mk rfl (Below.step (Below.step h1 h2) h3)
end Go.Proofs.Ytopedbkefncfnaa
