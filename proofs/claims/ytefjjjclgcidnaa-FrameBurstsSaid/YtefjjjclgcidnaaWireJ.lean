/- Reading a number: for any index; the reference's Int. -/
import Derived.Test.YtefjjjclgcidnaaWireI
namespace Go.Proofs.Ytefjjjclgcidnaa
open Go.RowKit

theorem int_out {l : List UInt8} {at_ : Int} (h : at_ < 0 ∨ (l.length : Int) < at_) : intE l at_ = 2 ∧ intN l at_ = 0 ∧ intTo l at_ = 0 := by
  have h1 : intE l at_ = 2 := by unfold intE; rw [if_pos h]
  exact ⟨h1, by unfold intN; rw [if_neg (by rw [h1]; decide)], by unfold intTo; rw [if_neg (by rw [h1]; decide)]⟩

set_option maxHeartbeats 1000000 in
theorem int_any (l : List UInt8) (A : Option Addr) (cap : Nat) (at_ : Int) (hat : Fits at_) (w : World) (hv : Bytes w A l) (hl : l.length ≤ 100000) :
    Calls Try.prog 34 #[.slice A l.length cap, .int .i64 at_] w (Ret (.tuple #[.int .i64 (intN l at_), .int .i64 (intTo l at_), .int .i64 (intE l at_)]) w) := by
  by_cases h0 : at_ < 0
  · have HR := Lib.hid (int_out (l := l) (.inl h0))
    go_enter Try.func34, Try.ntmps34
    go_wp2
    go_ret3
    exact Ret.mk (by rw [HR.out.1, HR.out.2.1, HR.out.2.2]; rfl) (Below.refl _ _)
  · by_cases h1 : (l.length : Int) < at_
    · have HR := Lib.hid (int_out (l := l) (.inr h1))
      have h0' : 0 ≤ at_ := by omega
      go_enter Try.func34, Try.ntmps34
      go_wp2
      go_ret3
      exact Ret.mk (by rw [HR.out.1, HR.out.2.1, HR.out.2.2]; rfl) (Below.refl _ _)
    · obtain ⟨a, rfl⟩ : ∃ a : Nat, at_ = a := ⟨at_.toNat, by omega⟩
      exact int_in l A cap a (by omega) w hv hl
end Go.Proofs.Ytefjjjclgcidnaa
