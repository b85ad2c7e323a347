/- Right, the relations, Flip: both sides. -/
import Derived.Test.YtofnbohcofgfkaaSpO
namespace Go.Proofs.Ytofnbohcofgfkaa
open Go.RowKit

/-- '==' on two spans. -/
theorem eql_sp (a b c d : Int) (w : World) : (binOp .eql 23 (.agg #[.int .i64 a, .int .i64 b]) (.agg #[.int .i64 c, .int .i64 d])).run Try.prog w = .ok (.bool (a == c && b == d)) w := by
  have hq1 : Try.prog.stoodInHeld 23 = false := by kernel_rfl
  simp [go_sem, hq1]
  by_cases h1 : a = c <;> by_cases h2 : b = d <;> simp [h1, h2]

set_option maxHeartbeats 400000 in
theorem right_any (x : Sp) (w : World) : Calls Try.prog 12 #[.agg #[.int .i64 x.f, .int .i64 x.t]] w (Ret (.bool (rt x)) w) := by
  go_enter Try.func12, Try.ntmps12
  go_wp2
  all_goals
    go_ret
    refine Ret.mk ?_ (by repeat (first | assumption | exact Below.refl _ _ | refine Below.alloc ?_ (by first | omega | (simp; done) | (simp; omega)) _ | refine Below.setCell ?_ (by first | omega | (simp; done) | (simp; omega)) _ | refine Below.drew ?_ | refine Below.drewN_ ?_ _ | refine Below.step ?_ (by assumption)))
    simp [rt]
    try omega

set_option maxHeartbeats 400000 in
theorem rright_any (x : Sp) (w : World) : Calls Try.prog 13 #[.agg #[.int .i64 x.f, .int .i64 x.t]] w (Ret (.bool (rt x)) w) := by
  go_enter Try.func13, Try.ntmps13
  go_wp2
  all_goals
    go_ret
    refine Ret.mk ?_ (by repeat (first | assumption | exact Below.refl _ _ | refine Below.alloc ?_ (by first | omega | (simp; done) | (simp; omega)) _ | refine Below.setCell ?_ (by first | omega | (simp; done) | (simp; omega)) _ | refine Below.drew ?_ | refine Below.drewN_ ?_ _ | refine Below.step ?_ (by assumption)))
    simp [rt]
    try omega

set_option maxHeartbeats 400000 in
theorem flip_any (n : Int) (w : World) : Calls Try.prog 17 #[.int .i64 n] w (Ret (.int .i64 (flipI n)) w) := by
  by_cases h1 : n < 1
  · go_enter Try.func17, Try.ntmps17
    go_wp2
    go_ret
    exact Ret.mk (by rw [flipI, if_pos (.inl h1)]; rfl) (by repeat (first | assumption | exact Below.refl _ _ | refine Below.alloc ?_ (by first | omega | (simp; done) | (simp; omega)) _ | refine Below.setCell ?_ (by first | omega | (simp; done) | (simp; omega)) _ | refine Below.drew ?_ | refine Below.drewN_ ?_ _ | refine Below.step ?_ (by assumption)))
  · by_cases h2 : 13 < n
    · go_enter Try.func17, Try.ntmps17
      go_wp2
      go_ret
      exact Ret.mk (by rw [flipI, if_pos (.inr h2)]; rfl) (by repeat (first | assumption | exact Below.refl _ _ | refine Below.alloc ?_ (by first | omega | (simp; done) | (simp; omega)) _ | refine Below.setCell ?_ (by first | omega | (simp; done) | (simp; omega)) _ | refine Below.drew ?_ | refine Below.drewN_ ?_ _ | refine Below.step ?_ (by assumption)))
    · have hw : IntKind.i64.wrap (14 - n) = 14 - n := by rw [IntKind.wrap_i64]; omega
      go_enter Try.func17, Try.ntmps17
      go_wp2
      go_ret
      exact Ret.mk (by rw [flipI, if_neg (by omega)]; rfl) (by repeat (first | assumption | exact Below.refl _ _ | refine Below.alloc ?_ (by first | omega | (simp; done) | (simp; omega)) _ | refine Below.setCell ?_ (by first | omega | (simp; done) | (simp; omega)) _ | refine Below.drew ?_ | refine Below.drewN_ ?_ _ | refine Below.step ?_ (by assumption)))
set_option maxHeartbeats 400000 in
theorem rflip_any (n : Int) (w : World) : Calls Try.prog 18 #[.int .i64 n] w (Ret (.int .i64 (flipI n)) w) := by
  by_cases h1 : n < 1
  · go_enter Try.func18, Try.ntmps18
    go_wp2
    go_ret
    exact Ret.mk (by rw [flipI, if_pos (.inl h1)]; rfl) (by repeat (first | assumption | exact Below.refl _ _ | refine Below.alloc ?_ (by first | omega | (simp; done) | (simp; omega)) _ | refine Below.setCell ?_ (by first | omega | (simp; done) | (simp; omega)) _ | refine Below.drew ?_ | refine Below.drewN_ ?_ _ | refine Below.step ?_ (by assumption)))
  · by_cases h2 : 13 < n
    · go_enter Try.func18, Try.ntmps18
      go_wp2
      go_ret
      exact Ret.mk (by rw [flipI, if_pos (.inr h2)]; rfl) (by repeat (first | assumption | exact Below.refl _ _ | refine Below.alloc ?_ (by first | omega | (simp; done) | (simp; omega)) _ | refine Below.setCell ?_ (by first | omega | (simp; done) | (simp; omega)) _ | refine Below.drew ?_ | refine Below.drewN_ ?_ _ | refine Below.step ?_ (by assumption)))
    · have hw : IntKind.i64.wrap (14 - n) = 14 - n := by rw [IntKind.wrap_i64]; omega
      go_enter Try.func18, Try.ntmps18
      go_wp2
      go_ret
      exact Ret.mk (by rw [flipI, if_neg (by omega)]; rfl) (by repeat (first | assumption | exact Below.refl _ _ | refine Below.alloc ?_ (by first | omega | (simp; done) | (simp; omega)) _ | refine Below.setCell ?_ (by first | omega | (simp; done) | (simp; omega)) _ | refine Below.drew ?_ | refine Below.drewN_ ?_ _ | refine Below.step ?_ (by assumption)))

set_option maxHeartbeats 1000000 in
theorem direct_any (a b : Sp) (w : World) (ha : rt a = true) (hb : rt b = true) : Calls Try.prog 34 #[.agg #[.int .i64 a.f, .int .i64 a.t], .agg #[.int .i64 b.f, .int .i64 b.t]] w (Ret (.int .i64 (firstR a b)) w) := by
  have h1 := Lib.hid (rt_iff.1 ha)
  have h2 := Lib.hid (rt_iff.1 hb)
  clear ha hb
  have hq := eql_sp
  go_enter Try.func34, Try.ntmps34
  go_wp2
  all_goals
    go_ret
    refine Ret.mk ?_ (by repeat (first | assumption | exact Below.refl _ _ | refine Below.alloc ?_ (by first | omega | (simp; done) | (simp; omega)) _ | refine Below.setCell ?_ (by first | omega | (simp; done) | (simp; omega)) _ | refine Below.drew ?_ | refine Below.drewN_ ?_ _ | refine Below.step ?_ (by assumption)))
    have h1 := h1.out
    have h2 := h2.out
    simp [firstR]
    grind

set_option maxHeartbeats 1000000 in
theorem first_any (a b : Sp) (w : World) : Calls Try.prog 35 #[.agg #[.int .i64 a.f, .int .i64 a.t], .agg #[.int .i64 b.f, .int .i64 b.t]] w (Ret (.int .i64 (firstR a b)) w) := by
  have hq := eql_sp
  go_enter Try.func35, Try.ntmps35
  go_wp2
  all_goals
    go_ret
    refine Ret.mk ?_ (by repeat (first | assumption | exact Below.refl _ _ | refine Below.alloc ?_ (by first | omega | (simp; done) | (simp; omega)) _ | refine Below.setCell ?_ (by first | omega | (simp; done) | (simp; omega)) _ | refine Below.drew ?_ | refine Below.drewN_ ?_ _ | refine Below.step ?_ (by assumption)))
    simp [firstR]
    grind
end Go.Proofs.Ytofnbohcofgfkaa
