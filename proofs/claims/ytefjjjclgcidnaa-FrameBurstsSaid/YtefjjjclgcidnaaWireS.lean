/- The sign of a number. -/
import Derived.Test.YtefjjjclgcidnaaWireA
import Derived.Lib.Zigzag
namespace Go.Proofs.Ytefjjjclgcidnaa
open Go.RowKit

theorem not64 (x : Nat) (hx : x < 18446744073709551616) : bits .xor .u64 IntKind.u64.max (x : Int) = ((18446744073709551615 - x : Nat) : Int) := by
  rw [show IntKind.u64.max = ((18446744073709551615 : Nat) : Int) by decide, u64_xor_nat _ _ (by omega) hx]
  congr 1
  exact Lib.xor_ones64 x (by omega)
set_option maxHeartbeats 1000000 in
theorem signed_any (u : Nat) (hu : u < 18446744073709551616) (w : World) : Calls Try.prog 37 #[.int .u64 (u : Int)] w (Ret (.int .i64 (sgn u)) w) := by
  have hand := Lib.u64_and1 u (by omega) (by omega)
  by_cases h : u % 2 = 1
  · have hm : (u : Int) % 2 = 1 := by omega
    have hn : bits .xor .u64 IntKind.u64.max ((u : Int) / 2) = ((18446744073709551615 - u / 2 : Nat) : Int) := not64 (u / 2) (by omega)
    generalize hy : 18446744073709551615 - u / 2 = y at hn
    have HS : Hid (wrap64 (y : Int) = sgn u) := Lib.hid (by unfold sgn wrap64; rw [if_pos h]; omega)
    have hy2 : y < 18446744073709551616 := by omega
    clear hy
    go_enter Try.func37, Try.ntmps37
    go_wp2
    go_ret
    exact Ret.mk (congrArg (Value.int .i64) HS.out) (Below.refl _ _)
  · have hm : (u : Int) % 2 = 0 := by omega
    have HS : Hid (((u / 2 : Nat) : Int) = sgn u) := Lib.hid (by unfold sgn; rw [if_neg h])
    go_enter Try.func37, Try.ntmps37
    go_wp2
    go_ret
    exact Ret.mk (congrArg (Value.int .i64) HS.out) (Below.refl _ _)
set_option maxHeartbeats 1000000 in
theorem unsigned_any (n : Int) (hn : Fits n) (w : World) : Calls Try.prog 36 #[.int .i64 n] w (Ret (.int .u64 (Lib.zigzag n : Int)) w) := by
  obtain ⟨h1, h2⟩ := hn
  by_cases h : n < 0
  · have hz := Lib.zigzag_neg h1 h
    go_enter Try.func36, Try.ntmps36
    go_wp2
    go_ret
    exact Ret.mk rfl (Below.refl _ _)
  · have hz := Lib.hid (Lib.zigzag_nonneg (x := n) (by omega))
    go_enter Try.func36, Try.ntmps36
    go_wp2
    go_ret
    exact Ret.mk (congrArg (Value.int .u64) hz.out.symm) (Below.refl _ _)
end Go.Proofs.Ytefjjjclgcidnaa
