/- The laws ClockStamps, ClockNext, ClockIds: their walks. -/
import Derived.Test.YtpannehdgmcmkaaClockL1
namespace Go.Proofs.Ytpannehdgmcmkaa
open Go.RowKit

set_option maxHeartbeats 1000000 in
theorem stamps_walk (w : World) (ac ad : Int) (_ : Fits ac) (_ : Fits ad) (bc bd : Int) (_ : Fits bc) (_ : Fits bd) (i : Int) (hi : Fits i) : Calls Try.prog 3 #[.agg #[.int .i64 ac, .int .i64 ad], .agg #[.int .i64 bc, .int .i64 bd], .int .i64 i] w (Ret (.bool true) w) := by
  have heql := eql_st
  have Hi := Lib.hid hi
  clear hi
  go_enter Try.func3, Try.ntmps3
  go_wp2_with fail
  refine (of_any i _ Hi.out).mono ?_
  rintro e w1 ⟨rfl, hb1⟩
  have TA := ((Two.new w _ rfl ac ad 23).alloc _).below hb1
  have TB := (Two.new (w.alloc _) (w.heap.size + 1) (by simp) bc bd 23).below hb1
  go_wp2_with fail
  refine (rof_any i _ Hi.out).mono ?_
  generalize ifC (i.tdiv 16) (i.tmod 16) = x
  generalize ifD (i.tdiv 16) (i.tmod 16) = y
  generalize rightB (i.tdiv 16) (i.tmod 16) = z
  rintro e w2 ⟨rfl, hb2⟩
  have hz1 := TA.1
  have TS := ((Two.new w1 _ rfl x y 23).below hb2).alloc (.cells #[.int .i64 x, .int .i64 y] 23)
  have TT := Two.new w2 _ rfl x y 23
  have TA2 := ((TA.alloc _).below hb2).alloc (.cells #[.int .i64 x, .int .i64 y] 23)
  have TB2 := ((TB.alloc _).below hb2).alloc (.cells #[.int .i64 x, .int .i64 y] 23)
  obtain ⟨pa0, pa1⟩ := TA2.past
  obtain ⟨pb0, pb1⟩ := TB2.past
  obtain ⟨ps0, ps1⟩ := TS.past
  obtain ⟨pt0, pt1⟩ := TT.past
  go_wp2_with fail
  refine region_past (by kernel_rfl) (by kernel_rfl) ?_
  repeat (go_big_quiet_step (first | with_reducible exact Calls.past (right_any _ _ _) | with_reducible exact Calls.past (rright_any _ _ _) | with_reducible exact Calls.past (less_any _ _ _ _ _) | with_reducible exact Calls.past (rless_any _ _ _ _ _) | with_reducible exact Calls.past (id_any _ _ _) | with_reducible exact Calls.past (rid_any _ _ _) | with_reducible exact Calls.past (awake_any _)))
  refine wpQuiet_nil ?_
  rintro w3 ⟨⟨_, hb3⟩, rfl⟩
  have z2 := hb2.size
  simp at z2
  have z1 := hb1.size
  simp at z1
  go_wp2
  go_ret
  exact Ret.mk rfl (by repeat (first | assumption | exact Below.refl _ _ | refine Below.alloc ?_ (by first | omega | (simp; done) | (simp; omega)) _ | refine Below.setCell ?_ (by first | omega | (simp; done) | (simp; omega)) _ | refine Below.drew ?_ | refine Below.drewN_ ?_ _ | refine Below.step ?_ (by assumption)))
end Go.Proofs.Ytpannehdgmcmkaa
