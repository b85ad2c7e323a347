/- The law WireBack: its walk, all cases. -/
import Derived.Test.YthfcegfmciaajaaWireBk
namespace Go.Proofs.Ythfcegfmciaajaa
open Go.RowKit

set_option maxHeartbeats 1000000 in
theorem wback_no (w : World) (b : List UInt8) (B : Option Addr) (cb : Nat) (n : Int) (s : List UInt8) (L : List Int) (A : Option Addr) (ca : Nat)
    (t : List UInt8) (T : Option Addr) (ct : Nat) (hf : fewB b s L = false) :
    Calls Try.prog 6 #[.slice B b.length cb, .agg #[.int .i64 n, .string ⟨s.toArray⟩, .slice A L.length ca], .slice T t.length ct] w (Ret (.bool true) w) := by
  have HF := Lib.hid hf
  clear hf
  go_enter Try.func6, Try.ntmps6
  go_wp2_with fail
  refine (few_is HF.out B A cb ca _).mono ?_
  rintro e w1 ⟨rfl, h1⟩
  go_wp2_with fail
  refine (awake_any _).mono ?_
  rintro e w4 ⟨rfl, h4⟩
  go_wp2
  go_ret
  exact Ret.mk rfl (by repeat (first | assumption | exact Below.refl _ _ | refine Below.alloc ?_ (by first | omega | (simp; done) | (simp; omega)) _ | refine Below.setCell ?_ (by first | omega | (simp; done) | (simp; omega)) _ | refine Below.drew ?_ | refine Below.drewN_ ?_ _ | refine Below.step ?_ (by assumption)))
set_option maxHeartbeats 1000000 in
theorem wback_long (w : World) (b : List UInt8) (B : Option Addr) (cb : Nat) (n : Int) (s : List UInt8) (L : List Int) (A : Option Addr) (ca : Nat)
    (t : List UInt8) (T : Option Addr) (ct : Nat) (hf : fewB b s L = true) (l4 : 300 < t.length) :
    Calls Try.prog 6 #[.slice B b.length cb, .agg #[.int .i64 n, .string ⟨s.toArray⟩, .slice A L.length ca], .slice T t.length ct] w (Ret (.bool true) w) := by
  have HF := Lib.hid hf
  have hd4 : decide (300 < t.length) = true := by simp; omega
  have hd5 : decide ((300 : Int) < t.length) = true := by simp; omega
  have hd6 : (300 : Int) < t.length := by omega
  clear hf
  go_enter Try.func6, Try.ntmps6
  go_wp2_with fail
  refine (few_is HF.out B A cb ca _).mono ?_
  rintro e w1 ⟨rfl, h1⟩
  go_wp2_with fail
  refine (awake_any _).mono ?_
  rintro e w4 ⟨rfl, h4⟩
  go_wp2
  go_ret
  exact Ret.mk rfl (by repeat (first | assumption | exact Below.refl _ _ | refine Below.alloc ?_ (by first | omega | (simp; done) | (simp; omega)) _ | refine Below.setCell ?_ (by first | omega | (simp; done) | (simp; omega)) _ | refine Below.drew ?_ | refine Below.drewN_ ?_ _ | refine Below.step ?_ (by assumption)))
theorem wback_walk (w : World) (b : List UInt8) (B : Option Addr) (cb : Nat) (_ : b.length ≤ maxLen) (hb : Bytes w B b) (n : Int) (hn : Fits n) (s : List UInt8) (_ : s.length ≤ maxLen) (L : List Int) (A : Option Addr) (ca : Nat) (hfit : Fit L) (_ : L.length ≤ maxLen) (hL : Ints w A L)
    (t : List UInt8) (T : Option Addr) (ct : Nat) (_ : t.length ≤ maxLen) (ht : Bytes w T t) :
    Calls Try.prog 6 #[.slice B b.length cb, .agg #[.int .i64 n, .string ⟨s.toArray⟩, .slice A L.length ca], .slice T t.length ct] w (Ret (.bool true) w) := by
  rcases Bool.eq_false_or_eq_true (fewB b s L) with hf | hf
  · by_cases h : t.length ≤ 300
    · exact wback_yes w b B cb hb n hn s L A ca hfit hL t T ct ht hf h
    · exact wback_long w b B cb n s L A ca t T ct hf (by omega)
  · exact wback_no w b B cb n s L A ca t T ct hf
end Go.Proofs.Ythfcegfmciaajaa
