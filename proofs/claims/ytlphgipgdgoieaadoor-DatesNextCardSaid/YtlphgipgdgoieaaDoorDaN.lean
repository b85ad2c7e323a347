/- DatesNext. -/
import Derived.Test.YtlphgipgdgoieaaDoorDaY
namespace Go.Proofs.YtlphgipgdgoieaaDoor
open Go.RowKit

set_option maxRecDepth 20000 in
set_option maxHeartbeats 4000000 in
theorem datesNext_walk (W : World) (hL : Laid W) (n : Int) : Calls Tryd.prog 9 #[.int .i64 n] W (Ret (.bool true) W) := by
  have H := Lib.hid (Below.refl W.heap.size W)
  by_cases c1 : n < 1
  · skip
    go_enter Tryd.func9, Tryd.ntmps9
    go_wp2_with fail
    refine (awake_any _ (hL.below H.out)).mono ?_
    rintro e w1 ⟨rfl, h⟩
    replace H := Lib.hid (Below.step H.out h)
    clear h
    go_wp2
    go_ret
    exact Ret.mk rfl H.out
  by_cases c2 : 109573 ≤ n
  · skip
    go_enter Tryd.func9, Tryd.ntmps9
    go_wp2_with fail
    refine (awake_any _ (hL.below H.out)).mono ?_
    rintro e w1 ⟨rfl, h⟩
    replace H := Lib.hid (Below.step H.out h)
    clear h
    go_wp2
    go_ret
    exact Ret.mk rfl H.out
  have r1 : 1 ≤ n := by omega
  have r2 : n < 109573 := by omega
  have hc := civ_ok r1 (Int.le_of_lt r2)
  have hn := isC_next hc r2
  have hw : IntKind.i64.wrap (n + 1) = n + 1 := by rw [IntKind.wrap_i64] <;> omega
  have k1 := fun w' (h : Below W.heap.size W w') => civil_any n w' (hL.below h)
  have k2 := fun w' (h : Below W.heap.size W w') => civil_any (n + 1) w' (hL.below h)
  have k3 := fun w' => weekday_any (n + 1) w'
  have k4 := fun w' => weekday_any n w'
  rw [show isB n = true from decide_eq_true ⟨r1, Int.le_of_lt r2⟩] at k1
  rw [civ_is hn, show isB (n + 1) = true from decide_eq_true ⟨by omega, by omega⟩] at k2
  rw [if_pos ⟨by omega, by omega⟩] at k3
  rw [if_pos ⟨r1, Int.le_of_lt r2⟩] at k4
  have hwk : (n + 1 - 1) % 7 = ((n - 1) % 7 + 1) % 7 := by omega
  have hwl : 0 ≤ (n - 1) % 7 ∧ (n - 1) % 7 < 7 := by omega
  rw [hwk] at k3
  generalize (n - 1) % 7 = v at *
  have hv : IntKind.i64.wrap (v + 1) = v + 1 := by rw [IntKind.wrap_i64] <;> omega
  obtain ⟨hval, _⟩ := hc
  generalize (civ n).1 = y at *
  generalize (civ n).2.1 = m at *
  generalize (civ n).2.2 = d at *
  have hvv := hval
  obtain ⟨y1, y2, m1, m2, d1, d2⟩ := hvv
  have hdp := dim_pos y m
  have hwd : IntKind.i64.wrap (d + 1) = d + 1 := by rw [IntKind.wrap_i64] <;> omega
  have hwm : IntKind.i64.wrap (m + 1) = m + 1 := by rw [IntKind.wrap_i64] <;> omega
  have hwy : IntKind.i64.wrap (y + 1) = y + 1 := by rw [IntKind.wrap_i64] <;> omega
  have k5 := fun w' (h : Below W.heap.size W w') => day_any y m (d + 1) w' (hL.below h)
  clear hwk hn
  by_cases g : d < dim y m
  · have hB := (day_yes (y := y) (m := m) (d := d + 1) ⟨y1, y2, m1, m2, by omega, by omega⟩).2
    rw [hB] at k5
    rw [show nextC y m d = (y, m, d + 1) by unfold nextC; rw [if_pos g]] at k2
    simp only at k2
    generalize dayV y m (d + 1) = z at *
    generalize dim y m = D at *
    clear hB hval
    go_enter Tryd.func9, Tryd.ntmps9
    go_wp2_with fail
    refine (k1 _ H.out).mono ?_
    rintro e w1 ⟨rfl, h⟩
    replace H := Lib.hid (Below.step H.out h)
    clear h
    go_wp2_with fail
    refine (k2 _ H.out).mono ?_
    rintro e w2 ⟨rfl, h⟩
    replace H := Lib.hid (Below.step H.out h)
    clear h
    go_wp2_with fail
    refine (k3 _).mono ?_
    rintro e w3 ⟨rfl, h⟩
    replace H := Lib.hid (Below.step H.out h)
    clear h
    go_wp2_with fail
    refine (k4 _).mono ?_
    rintro e w4 ⟨rfl, h⟩
    replace H := Lib.hid (Below.step H.out h)
    clear h
    go_wp2_with fail
    refine (k5 _ H.out).mono ?_
    rintro e w5 ⟨rfl, h⟩
    replace H := Lib.hid (Below.step H.out h)
    clear h
    go_wp2_with fail
    refine (awake_any _ (hL.below H.out)).mono ?_
    rintro e w6 ⟨rfl, h⟩
    replace H := Lib.hid (Below.step H.out h)
    clear h
    go_wp2
    go_ret
    exact Ret.mk rfl H.out
  · have hB := (day_no (y := y) (m := m) (d := d + 1) (fun h => by have := h.2.2.2.2.2; omega)).2
    rw [hB] at k5
    generalize dayV y m (d + 1) = z at *
    by_cases g2 : m < 12
    · rw [show nextC y m d = (y, m + 1, 1) by unfold nextC; rw [if_neg g, if_pos g2]] at k2
      simp only at k2
      generalize dim y m = D at *
      clear hB hval
      go_enter Tryd.func9, Tryd.ntmps9
      go_wp2_with fail
      refine (k1 _ H.out).mono ?_
      rintro e w1 ⟨rfl, h⟩
      replace H := Lib.hid (Below.step H.out h)
      clear h
      go_wp2_with fail
      refine (k2 _ H.out).mono ?_
      rintro e w2 ⟨rfl, h⟩
      replace H := Lib.hid (Below.step H.out h)
      clear h
      go_wp2_with fail
      refine (k3 _).mono ?_
      rintro e w3 ⟨rfl, h⟩
      replace H := Lib.hid (Below.step H.out h)
      clear h
      go_wp2_with fail
      refine (k4 _).mono ?_
      rintro e w4 ⟨rfl, h⟩
      replace H := Lib.hid (Below.step H.out h)
      clear h
      go_wp2_with fail
      refine (k5 _ H.out).mono ?_
      rintro e w5 ⟨rfl, h⟩
      replace H := Lib.hid (Below.step H.out h)
      clear h
      go_wp2_with fail
      refine (awake_any _ (hL.below H.out)).mono ?_
      rintro e w6 ⟨rfl, h⟩
      replace H := Lib.hid (Below.step H.out h)
      clear h
      go_wp2
      go_ret
      exact Ret.mk rfl H.out
    · obtain rfl : m = 12 := by omega
      rw [show nextC y 12 d = (y + 1, 1, 1) by unfold nextC; rw [if_neg g, if_neg (by omega)]] at k2
      simp only at k2
      have hd31 : dim y 12 = 31 := by simp [dim]
      rw [hd31] at g d2 hdp
      obtain rfl : d = 31 := by omega
      clear hB hval hd31 g hdp
      go_enter Tryd.func9, Tryd.ntmps9
      go_wp2_with fail
      refine (k1 _ H.out).mono ?_
      rintro e w1 ⟨rfl, h⟩
      replace H := Lib.hid (Below.step H.out h)
      clear h
      go_wp2_with fail
      refine (k2 _ H.out).mono ?_
      rintro e w2 ⟨rfl, h⟩
      replace H := Lib.hid (Below.step H.out h)
      clear h
      go_wp2_with fail
      refine (k3 _).mono ?_
      rintro e w3 ⟨rfl, h⟩
      replace H := Lib.hid (Below.step H.out h)
      clear h
      go_wp2_with fail
      refine (k4 _).mono ?_
      rintro e w4 ⟨rfl, h⟩
      replace H := Lib.hid (Below.step H.out h)
      clear h
      go_wp2_with fail
      refine (k5 _ H.out).mono ?_
      rintro e w5 ⟨rfl, h⟩
      replace H := Lib.hid (Below.step H.out h)
      clear h
      go_wp2_with fail
      refine (awake_any _ (hL.below H.out)).mono ?_
      rintro e w6 ⟨rfl, h⟩
      replace H := Lib.hid (Below.step H.out h)
      clear h
      go_wp2
      go_ret
      exact Ret.mk rfl H.out
end Go.Proofs.YtlphgipgdgoieaaDoor
