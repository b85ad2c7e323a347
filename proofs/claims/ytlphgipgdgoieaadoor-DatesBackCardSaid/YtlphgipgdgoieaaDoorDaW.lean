/- The examples of the chapter; DatesLeap, DatesDay, DatesCivil, DatesWeekday, DatesTexts. -/
import Derived.Test.YtlphgipgdgoieaaDoorDaU
import Derived.Test.YtlphgipgdgoieaaDoorDaE
import Derived.Test.YtlphgipgdgoieaaDoorDaO
namespace Go.Proofs.YtlphgipgdgoieaaDoor
open Go.RowKit

theorem ex1 (w : World) (hL : Laid w) : Calls Tryd.prog 15 #[.int .i64 1900, .int .i64 1, .int .i64 1] w (Ret (.tuple #[.int .i64 1, .bool true]) w) := by
  have h := day_any 1900 1 1 w hL
  rw [show dayV 1900 1 1 = 1 by decide +kernel] at h
  rw [show dayB 1900 1 1 = true by decide +kernel] at h
  exact h
theorem ex2 (w : World) (hL : Laid w) : Calls Tryd.prog 15 #[.int .i64 1900, .int .i64 2, .int .i64 29] w (Ret (.tuple #[.int .i64 0, .bool false]) w) := by
  have h := day_any 1900 2 29 w hL
  rw [show dayV 1900 2 29 = 0 by decide +kernel] at h
  rw [show dayB 1900 2 29 = false by decide +kernel] at h
  exact h
theorem ex3 (w : World) (hL : Laid w) : Calls Tryd.prog 15 #[.int .i64 1900, .int .i64 3, .int .i64 1] w (Ret (.tuple #[.int .i64 60, .bool true]) w) := by
  have h := day_any 1900 3 1 w hL
  rw [show dayV 1900 3 1 = 60 by decide +kernel] at h
  rw [show dayB 1900 3 1 = true by decide +kernel] at h
  exact h
theorem ex4 (w : World) (hL : Laid w) : Calls Tryd.prog 21 #[.string ⟨#[49, 57, 48, 48, 45, 49, 45, 49]⟩] w (Ret (.tuple #[.int .i64 0, .bool false]) w) := by
  have h := parse_any [49, 57, 48, 48, 45, 49, 45, 49] (by simp) w hL
  rw [show parV [49, 57, 48, 48, 45, 49, 45, 49] = 0 by decide +kernel] at h
  rw [show parB [49, 57, 48, 48, 45, 49, 45, 49] = false by decide +kernel] at h
  exact h
theorem ex5 (w : World) (hL : Laid w) : Calls Tryd.prog 21 #[.string ⟨#[50, 49, 57, 57, 45, 49, 50, 45, 51, 49]⟩] w (Ret (.tuple #[.int .i64 109573, .bool true]) w) := by
  have h := parse_any [50, 49, 57, 57, 45, 49, 50, 45, 51, 49] (by simp) w hL
  rw [show parV [50, 49, 57, 57, 45, 49, 50, 45, 51, 49] = 109573 by decide +kernel] at h
  rw [show parB [50, 49, 57, 57, 45, 49, 50, 45, 51, 49] = true by decide +kernel] at h
  exact h
theorem ex6 (w : World) (hL : Laid w) : Calls Tryd.prog 17 #[.int .i64 60] w (Ret (.tuple #[.int .i64 1900, .int .i64 3, .int .i64 1, .bool true]) w) := by
  have h := civil_any 60 w hL
  rw [civ_is (n := 60) (y := 1900) (m := 3) (d := 1) (by decide +kernel), show isB 60 = true by decide] at h
  exact h
theorem ex7 (w : World) (hL : Laid w) : Calls Tryd.prog 23 #[.int .i64 109573] w (Ret (.string ⟨#[50, 49, 57, 57, 45, 49, 50, 45, 51, 49]⟩) w) := by
  have h := text_any 109573 w hL
  have e : txtN 109573 = [50, 49, 57, 57, 45, 49, 50, 45, 51, 49] := by
    have h2 := txtN_day (y := 2199) (m := 12) (d := 31) (by decide +kernel)
    rw [show dayN ((2199 : Nat) : Int) ((12 : Nat) : Int) ((31 : Nat) : Int) = 109573 by decide +kernel] at h2
    rw [h2]; decide +kernel
  rw [e] at h
  exact h
theorem ex8 (n v : Int) (w : World) (h : (if 1 ≤ n ∧ n ≤ 109573 then (n - 1) % 7 else -1) = v) : Calls Tryd.prog 19 #[.int .i64 n] w (Ret (.int .i64 v) w) := by
  rw [← h]; exact weekday_any n w
theorem ex9 (n : Int) (b : Bool) (w : World) (h : leapB n = b) : Calls Tryd.prog 12 #[.int .i64 n] w (Ret (.bool b) w) := by
  rw [← h]; exact leap_any n w

set_option maxRecDepth 20000 in
set_option maxHeartbeats 4000000 in
theorem awake_any (w : World) (hL : Laid w) : Calls Tryd.prog 14 #[] w (Ret (.bool true) w) := by
  have H := Lib.hid (Below.refl w.heap.size w)
  go_enter Tryd.func14, Tryd.ntmps14
  go_wp2_with fail
  refine (ex1 _ (hL.below H.out)).mono ?_
  rintro e w1 ⟨rfl, h⟩
  replace H := Lib.hid (Below.step H.out h)
  clear h
  go_wp2_with fail
  refine (ex2 _ (hL.below H.out)).mono ?_
  rintro e w2 ⟨rfl, h⟩
  replace H := Lib.hid (Below.step H.out h)
  clear h
  go_wp2_with fail
  refine (ex3 _ (hL.below H.out)).mono ?_
  rintro e w3 ⟨rfl, h⟩
  replace H := Lib.hid (Below.step H.out h)
  clear h
  go_wp2_with fail
  refine (ex4 _ (hL.below H.out)).mono ?_
  rintro e w4 ⟨rfl, h⟩
  replace H := Lib.hid (Below.step H.out h)
  clear h
  go_wp2_with fail
  refine (ex5 _ (hL.below H.out)).mono ?_
  rintro e w5 ⟨rfl, h⟩
  replace H := Lib.hid (Below.step H.out h)
  clear h
  go_wp2_with fail
  refine (ex6 _ (hL.below H.out)).mono ?_
  rintro e w6 ⟨rfl, h⟩
  replace H := Lib.hid (Below.step H.out h)
  clear h
  go_wp2_with fail
  refine (ex7 _ (hL.below H.out)).mono ?_
  rintro e w7 ⟨rfl, h⟩
  replace H := Lib.hid (Below.step H.out h)
  clear h
  go_wp2_with fail
  refine (ex8 1 0 _ (by decide)).mono ?_
  rintro e w8 ⟨rfl, h⟩
  replace H := Lib.hid (Below.step H.out h)
  clear h
  go_wp2_with fail
  refine (ex8 7 6 _ (by decide)).mono ?_
  rintro e w9 ⟨rfl, h⟩
  replace H := Lib.hid (Below.step H.out h)
  clear h
  go_wp2_with fail
  refine (ex8 0 (-1) _ (by decide)).mono ?_
  rintro e w10 ⟨rfl, h⟩
  replace H := Lib.hid (Below.step H.out h)
  clear h
  go_wp2_with fail
  refine (ex9 2000 true _ (by decide)).mono ?_
  rintro e w11 ⟨rfl, h⟩
  replace H := Lib.hid (Below.step H.out h)
  clear h
  go_wp2_with fail
  refine (ex9 1900 false _ (by decide)).mono ?_
  rintro e w12 ⟨rfl, h⟩
  replace H := Lib.hid (Below.step H.out h)
  clear h
  go_wp2
  go_ret
  exact Ret.mk rfl H.out

set_option maxRecDepth 20000 in
set_option maxHeartbeats 4000000 in
theorem datesLeap_walk (W : World) (hL : Laid W) (y : Int) : Calls Tryd.prog 3 #[.int .i64 y] W (Ret (.bool true) W) := by
  have H := Lib.hid (Below.refl W.heap.size W)
  have k1 := fun w' => leap_any y w'
  have k2 := fun w' => rleap_any y w'
  generalize leapB y = a at *
  go_enter Tryd.func3, Tryd.ntmps3
  go_wp2_with fail
  refine (k1 _).mono ?_
  rintro e w1 ⟨rfl, h⟩
  replace H := Lib.hid (Below.step H.out h)
  clear h
  go_wp2_with fail
  refine (k2 _).mono ?_
  rintro e w2 ⟨rfl, h⟩
  replace H := Lib.hid (Below.step H.out h)
  clear h
  go_wp2_with fail
  refine (awake_any _ (hL.below H.out)).mono ?_
  rintro e w3 ⟨rfl, h⟩
  replace H := Lib.hid (Below.step H.out h)
  clear h
  go_wp2
  go_ret
  exact Ret.mk rfl H.out

set_option maxRecDepth 20000 in
set_option maxHeartbeats 4000000 in
theorem datesDay_walk (W : World) (hL : Laid W) (y m d : Int) : Calls Tryd.prog 4 #[.int .i64 y, .int .i64 m, .int .i64 d] W (Ret (.bool true) W) := by
  have H := Lib.hid (Below.refl W.heap.size W)
  have k1 := fun w' (h : Below W.heap.size W w') => day_any y m d w' (hL.below h)
  have k2 := fun w' => rday_any y m d w'
  generalize dayV y m d = a at *
  generalize dayB y m d = b at *
  go_enter Tryd.func4, Tryd.ntmps4
  go_wp2_with fail
  refine (k1 _ H.out).mono ?_
  rintro e w1 ⟨rfl, h⟩
  replace H := Lib.hid (Below.step H.out h)
  clear h
  go_wp2_with fail
  refine (k2 _).mono ?_
  rintro e w2 ⟨rfl, h⟩
  replace H := Lib.hid (Below.step H.out h)
  clear h
  go_wp2_with fail
  refine (awake_any _ (hL.below H.out)).mono ?_
  rintro e w3 ⟨rfl, h⟩
  replace H := Lib.hid (Below.step H.out h)
  clear h
  go_wp2
  go_ret
  exact Ret.mk rfl H.out

set_option maxRecDepth 20000 in
set_option maxHeartbeats 4000000 in
theorem datesCivil_walk (W : World) (hL : Laid W) (n : Int) : Calls Tryd.prog 5 #[.int .i64 n] W (Ret (.bool true) W) := by
  have H := Lib.hid (Below.refl W.heap.size W)
  have k1 := fun w' (h : Below W.heap.size W w') => civil_any n w' (hL.below h)
  have k2 := fun w' => rcivil_any n w'
  generalize civ n = a at *
  generalize isB n = b at *
  go_enter Tryd.func5, Tryd.ntmps5
  go_wp2_with fail
  refine (k1 _ H.out).mono ?_
  rintro e w1 ⟨rfl, h⟩
  replace H := Lib.hid (Below.step H.out h)
  clear h
  go_wp2_with fail
  refine (k2 _).mono ?_
  rintro e w2 ⟨rfl, h⟩
  replace H := Lib.hid (Below.step H.out h)
  clear h
  go_wp2_with fail
  refine (awake_any _ (hL.below H.out)).mono ?_
  rintro e w3 ⟨rfl, h⟩
  replace H := Lib.hid (Below.step H.out h)
  clear h
  go_wp2
  go_ret
  exact Ret.mk rfl H.out

set_option maxRecDepth 20000 in
set_option maxHeartbeats 4000000 in
theorem datesWeekday_walk (W : World) (hL : Laid W) (n : Int) : Calls Tryd.prog 6 #[.int .i64 n] W (Ret (.bool true) W) := by
  have H := Lib.hid (Below.refl W.heap.size W)
  have k1 := fun w' => weekday_any n w'
  have k2 := fun w' => rweekday_any n w'
  generalize (if 1 ≤ n ∧ n ≤ 109573 then (n - 1) % 7 else -1) = a at *
  go_enter Tryd.func6, Tryd.ntmps6
  go_wp2_with fail
  refine (k1 _).mono ?_
  rintro e w1 ⟨rfl, h⟩
  replace H := Lib.hid (Below.step H.out h)
  clear h
  go_wp2_with fail
  refine (k2 _).mono ?_
  rintro e w2 ⟨rfl, h⟩
  replace H := Lib.hid (Below.step H.out h)
  clear h
  go_wp2_with fail
  refine (awake_any _ (hL.below H.out)).mono ?_
  rintro e w3 ⟨rfl, h⟩
  replace H := Lib.hid (Below.step H.out h)
  clear h
  go_wp2
  go_ret
  exact Ret.mk rfl H.out

end Go.Proofs.YtlphgipgdgoieaaDoor
