/- The law FrameCuts: its walk, all cases. -/
import Derived.Test.YtefjjjclgcidnaaFrCW
namespace Go.Proofs.Ytefjjjclgcidnaa
open Go.RowKit

set_option maxHeartbeats 1000000 in
theorem cuts_many (w : World) (A : Option Addr) (n ca : Nat) (cut : Int) (h : (20 : Int) < n) :
    Calls Try.prog 8 #[.slice A n ca, .int .i64 cut] w (Ret (.bool true) w) := by
  have d : decide ((20 : Int) < n) = true := by simpa using h
  go_enter Try.func8, Try.ntmps8
  go_wp2_with fail
  refine (awake_any _).mono ?_
  rintro e w1 ⟨rfl, h1⟩
  go_wp2
  go_ret
  exact Ret.mk rfl h1
set_option maxHeartbeats 1000000 in
theorem cuts_neg (w : World) (A : Option Addr) (n ca : Nat) (cut : Int) (h : ¬ (20 : Int) < n) (h2 : cut < 0) :
    Calls Try.prog 8 #[.slice A n ca, .int .i64 cut] w (Ret (.bool true) w) := by
  have d : decide ((20 : Int) < n) = false := by simpa using h
  have d2 : decide (cut < 0) = true := by simpa using h2
  go_enter Try.func8, Try.ntmps8
  go_wp2_with fail
  refine (awake_any _).mono ?_
  rintro e w1 ⟨rfl, h1⟩
  go_wp2
  go_ret
  exact Ret.mk rfl h1
theorem cuts_walk (w : World) (ps : List (Int × List UInt8)) (A : Option Addr) (ca : Nat) (_ : ps.length ≤ maxLen) (hp : Parts w A ps) (cut : Int) (hc : Fits cut) :
    Calls Try.prog 8 #[.slice A ps.length ca, .int .i64 cut] w (Ret (.bool true) w) := by
  by_cases h : (20 : Int) < (ps.length : Int)
  · exact cuts_many w A ps.length ca cut h
  · by_cases h2 : cut < 0
    · exact cuts_neg w A ps.length ca cut h h2
    · obtain ⟨c, rfl⟩ : ∃ c : Nat, cut = (c : Int) := ⟨cut.toNat, by omega⟩
      exact cuts_in w ps A ca hp c (by omega) hc.2
end Go.Proofs.Ytefjjjclgcidnaa
