/- The reference's Int for any index; few. -/
import Derived.Test.YtefjjjclgcidnaaWireK
namespace Go.Proofs.Ytefjjjclgcidnaa
open Go.RowKit

set_option maxHeartbeats 1000000 in
theorem rint_any (l : List UInt8) (A : Option Addr) (cap : Nat) (at_ : Int) (hat : Fits at_) (w : World) (hv : Bytes w A l) (hl : l.length ≤ 100000) :
    Calls Try.prog 29 #[.slice A l.length cap, .int .i64 at_] w (Ret (.tuple #[.int .i64 (intN l at_), .int .i64 (intTo l at_), .int .i64 (intE l at_)]) w) := by
  by_cases h0 : at_ < 0
  · have HR := Lib.hid (int_out (l := l) (.inl h0))
    go_enter Try.func29, Try.ntmps29
    go_wp2
    go_ret3
    exact Ret.mk (by rw [HR.out.1, HR.out.2.1, HR.out.2.2]; rfl) (Below.refl _ _)
  · by_cases h1 : (l.length : Int) < at_
    · have HR := Lib.hid (int_out (l := l) (.inr h1))
      have h0' : 0 ≤ at_ := by omega
      go_enter Try.func29, Try.ntmps29
      go_wp2
      go_ret3
      exact Ret.mk (by rw [HR.out.1, HR.out.2.1, HR.out.2.2]; rfl) (Below.refl _ _)
    · obtain ⟨a, rfl⟩ : ∃ a : Nat, at_ = a := ⟨at_.toNat, by omega⟩
      exact rint_in l A cap a (by omega) w hv hl
end Go.Proofs.Ytefjjjclgcidnaa
