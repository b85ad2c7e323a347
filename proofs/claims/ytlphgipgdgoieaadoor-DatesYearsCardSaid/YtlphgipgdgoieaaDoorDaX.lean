/- DatesTexts, DatesYears. -/
import Derived.Test.YtlphgipgdgoieaaDoorDaW
import Derived.Test.YtlphgipgdgoieaaDoorDaQ
namespace Go.Proofs.YtlphgipgdgoieaaDoor
open Go.RowKit

set_option maxRecDepth 20000 in
set_option maxHeartbeats 4000000 in
theorem datesTexts_walk (W : World) (hL : Laid W) (n : Int) (l : List UInt8) : Calls Tryd.prog 7 #[.int .i64 n, .string ⟨l.toArray⟩] W (Ret (.bool true) W) := by
  have H := Lib.hid (Below.refl W.heap.size W)
  by_cases hl : 300 < l.length
  · skip
    go_enter Tryd.func7, Tryd.ntmps7
    go_wp2_with fail
    refine (awake_any _ (hL.below H.out)).mono ?_
    rintro e w1 ⟨rfl, h⟩
    replace H := Lib.hid (Below.step H.out h)
    clear h
    go_wp2
    go_ret
    exact Ret.mk rfl H.out
  · skip
    have k1 := fun w' (h : Below W.heap.size W w') => parse_any l (by omega) w' (hL.below h)
    have k2 := fun w' => rparse_any l (by omega) w'
    have k3 := fun w' (h : Below W.heap.size W w') => text_any n w' (hL.below h)
    have k4 := fun w' => rtext_any n w'
    generalize parV l = a at *
    generalize parB l = b at *
    generalize txtN n = T at *
    go_enter Tryd.func7, Tryd.ntmps7
    go_wp2_with fail
    refine (k1 _ H.out).mono ?_
    rintro e w1 ⟨rfl, h⟩
    replace H := Lib.hid (Below.step H.out h)
    clear h
    go_wp2_with fail
    refine (k2 _).mono ?_
    rintro e w2 ⟨rfl, h⟩
    replace H := Lib.hid (Below.step H.out h)
    clear h
    go_wp2_with fail
    refine (k3 _ H.out).mono ?_
    rintro e w3 ⟨rfl, h⟩
    replace H := Lib.hid (Below.step H.out h)
    clear h
    go_wp2_with fail
    refine (k4 _).mono ?_
    rintro e w4 ⟨rfl, h⟩
    replace H := Lib.hid (Below.step H.out h)
    clear h
    go_wp2_with fail
    refine (awake_any _ (hL.below H.out)).mono ?_
    rintro e w5 ⟨rfl, h⟩
    replace H := Lib.hid (Below.step H.out h)
    clear h
    go_wp2
    go_ret
    exact Ret.mk rfl H.out

theorem years_yes {y : Int} (h : 1900 ≤ y ∧ y ≤ 2199) : dayB y 1 1 = true ∧ dayB y 12 31 = true ∧ dayB y 2 29 = leapB y ∧ dayB y 2 28 = true ∧ dayV y 12 31 - dayV y 1 1 = (if leapB y then 365 else 364) ∧ 0 ≤ dayV y 1 1 ∧ dayV y 1 1 ≤ 200000 ∧ 0 ≤ dayV y 12 31 ∧ dayV y 12 31 ≤ 200000 := by
  have d1 : dim y 1 = 31 := by simp [dim]
  have d12 : dim y 12 = 31 := by simp [dim]
  have d2 : dim y 2 = if leapB y then 29 else 28 := rfl
  have v1 : Valid y 1 1 := ⟨h.1, h.2, by omega, by omega, by omega, by omega⟩
  have v12 : Valid y 12 31 := ⟨h.1, h.2, by omega, by omega, by omega, by omega⟩
  have v28 : Valid y 2 28 := ⟨h.1, h.2, by omega, by omega, by omega, (dim_pos y 2).1⟩
  have r1 := valid_range (n := dayN y 1 1) ⟨v1, rfl⟩
  have r12 := valid_range (n := dayN y 12 31) ⟨v12, rfl⟩
  have e : dayN y 12 31 - dayN y 1 1 = diy y - 1 := by
    unfold dayN
    rw [show ((12 : Int) - 1).toNat = 11 from rfl, show ((1 : Int) - 1).toNat = 0 from rfl]
    have h1 := cumM_all y
    have h2 : cumM y 12 = cumM y 11 + dim y 12 := rfl
    have h3 : cumM y 0 = 0 := rfl
    omega
  rw [(day_yes v1).1, (day_yes v1).2, (day_yes v12).1, (day_yes v12).2, (day_yes v28).2]
  refine ⟨rfl, rfl, ?_, rfl, ?_, by omega, by omega, by omega, by omega⟩
  · cases hl : leapB y with
    | true => rw [hl] at d2; exact (day_yes (y := y) (m := 2) (d := 29) ⟨h.1, h.2, by omega, by omega, by omega, by rw [d2]; decide⟩).2
    | false => rw [hl] at d2; exact (day_no (y := y) (m := 2) (d := 29) fun hv => by have := hv.2.2.2.2.2; rw [d2] at this; exact absurd this (by decide)).2
  · rw [e]; unfold diy; split <;> rfl
theorem years_no {y : Int} (h : ¬ (1900 ≤ y ∧ y ≤ 2199)) (m d : Int) : dayV y m d = 0 ∧ dayB y m d = false := day_no fun hv => h ⟨hv.1, hv.2.1⟩

set_option maxRecDepth 20000 in
set_option maxHeartbeats 4000000 in
theorem datesYears_walk (W : World) (hL : Laid W) (y : Int) : Calls Tryd.prog 10 #[.int .i64 y] W (Ret (.bool true) W) := by
  have H := Lib.hid (Below.refl W.heap.size W)
  have k1 := fun w' (h : Below W.heap.size W w') => day_any y 1 1 w' (hL.below h)
  have k2 := fun w' (h : Below W.heap.size W w') => day_any y 12 31 w' (hL.below h)
  have k3 := fun w' (h : Below W.heap.size W w') => day_any y 2 29 w' (hL.below h)
  have k4 := fun w' (h : Below W.heap.size W w') => day_any y 2 28 w' (hL.below h)
  have kl := fun w' => leap_any y w'
  by_cases hr : 1900 ≤ y ∧ y ≤ 2199
  · rcases hl : leapB y with _ | _
    · skip
      obtain ⟨e1, e2, e3, e4, e5, b1, b2, b3, b4⟩ := years_yes hr
      rw [hl] at e3 e5 kl
      simp only [Bool.false_eq_true, if_false] at e5
      rw [e1] at k1
      rw [e2] at k2
      rw [e3] at k3
      rw [e4] at k4
      clear e1 e2 e3 e4 hl
      obtain ⟨r1, r2⟩ := hr
      generalize dayV y 2 29 = z1 at *
      generalize dayV y 2 28 = z2 at *
      generalize dayV y 1 1 = a at *
      generalize dayV y 12 31 = b at *
      have hw : IntKind.i64.wrap (b - a) = 364 := by rw [e5]; rfl
      clear e5
      go_enter Tryd.func10, Tryd.ntmps10
      go_wp2_with fail
      refine (k1 _ H.out).mono ?_
      rintro e w1 ⟨rfl, h⟩
      replace H := Lib.hid (Below.step H.out h)
      clear h
      go_wp2_with fail
      refine (k2 _ H.out).mono ?_
      rintro e w2 ⟨rfl, h⟩
      replace H := Lib.hid (Below.step H.out h)
      clear h
      go_wp2_with fail
      refine (k3 _ H.out).mono ?_
      rintro e w3 ⟨rfl, h⟩
      replace H := Lib.hid (Below.step H.out h)
      clear h
      go_wp2_with fail
      refine (k4 _ H.out).mono ?_
      rintro e w4 ⟨rfl, h⟩
      replace H := Lib.hid (Below.step H.out h)
      clear h
      go_wp2_with fail
      refine (kl _).mono ?_
      rintro e w5 ⟨rfl, h⟩
      replace H := Lib.hid (Below.step H.out h)
      clear h
      go_wp2_with fail
      refine (kl _).mono ?_
      rintro e w6 ⟨rfl, h⟩
      replace H := Lib.hid (Below.step H.out h)
      clear h
      go_wp2_with fail
      refine (awake_any _ (hL.below H.out)).mono ?_
      rintro e w7 ⟨rfl, h⟩
      replace H := Lib.hid (Below.step H.out h)
      clear h
      go_wp2
      go_ret
      exact Ret.mk rfl H.out
    · skip
      obtain ⟨e1, e2, e3, e4, e5, b1, b2, b3, b4⟩ := years_yes hr
      rw [hl] at e3 e5 kl
      simp only [if_true] at e5
      rw [e1] at k1
      rw [e2] at k2
      rw [e3] at k3
      rw [e4] at k4
      clear e1 e2 e3 e4 hl
      obtain ⟨r1, r2⟩ := hr
      generalize dayV y 2 29 = z1 at *
      generalize dayV y 2 28 = z2 at *
      generalize dayV y 1 1 = a at *
      generalize dayV y 12 31 = b at *
      have hw : IntKind.i64.wrap (b - a) = 365 := by rw [e5]; rfl
      clear e5
      go_enter Tryd.func10, Tryd.ntmps10
      go_wp2_with fail
      refine (k1 _ H.out).mono ?_
      rintro e w1 ⟨rfl, h⟩
      replace H := Lib.hid (Below.step H.out h)
      clear h
      go_wp2_with fail
      refine (k2 _ H.out).mono ?_
      rintro e w2 ⟨rfl, h⟩
      replace H := Lib.hid (Below.step H.out h)
      clear h
      go_wp2_with fail
      refine (k3 _ H.out).mono ?_
      rintro e w3 ⟨rfl, h⟩
      replace H := Lib.hid (Below.step H.out h)
      clear h
      go_wp2_with fail
      refine (k4 _ H.out).mono ?_
      rintro e w4 ⟨rfl, h⟩
      replace H := Lib.hid (Below.step H.out h)
      clear h
      go_wp2_with fail
      refine (kl _).mono ?_
      rintro e w5 ⟨rfl, h⟩
      replace H := Lib.hid (Below.step H.out h)
      clear h
      go_wp2_with fail
      refine (kl _).mono ?_
      rintro e w6 ⟨rfl, h⟩
      replace H := Lib.hid (Below.step H.out h)
      clear h
      go_wp2_with fail
      refine (awake_any _ (hL.below H.out)).mono ?_
      rintro e w7 ⟨rfl, h⟩
      replace H := Lib.hid (Below.step H.out h)
      clear h
      go_wp2
      go_ret
      exact Ret.mk rfl H.out
  · have e1 := years_no hr 1 1
    have e2 := years_no hr 12 31
    have e3 := years_no hr 2 29
    have e4 := years_no hr 2 28
    rw [e1.1, e1.2] at k1
    rw [e2.1, e2.2] at k2
    rw [e3.1, e3.2] at k3
    rw [e4.1, e4.2] at k4
    clear e1 e2 e3 e4
    by_cases c1 : 1900 ≤ y
    · have c2 : ¬ y ≤ 2199 := fun h => hr ⟨c1, h⟩
      clear hr
      go_enter Tryd.func10, Tryd.ntmps10
      go_wp2_with fail
      refine (k1 _ H.out).mono ?_
      rintro e w1 ⟨rfl, h⟩
      replace H := Lib.hid (Below.step H.out h)
      clear h
      go_wp2_with fail
      refine (k2 _ H.out).mono ?_
      rintro e w2 ⟨rfl, h⟩
      replace H := Lib.hid (Below.step H.out h)
      clear h
      go_wp2_with fail
      refine (k3 _ H.out).mono ?_
      rintro e w3 ⟨rfl, h⟩
      replace H := Lib.hid (Below.step H.out h)
      clear h
      go_wp2_with fail
      refine (k4 _ H.out).mono ?_
      rintro e w4 ⟨rfl, h⟩
      replace H := Lib.hid (Below.step H.out h)
      clear h
      go_wp2_with fail
      refine (awake_any _ (hL.below H.out)).mono ?_
      rintro e w5 ⟨rfl, h⟩
      replace H := Lib.hid (Below.step H.out h)
      clear h
      go_wp2
      go_ret
      exact Ret.mk rfl H.out
    · clear hr
      go_enter Tryd.func10, Tryd.ntmps10
      go_wp2_with fail
      refine (k1 _ H.out).mono ?_
      rintro e w1 ⟨rfl, h⟩
      replace H := Lib.hid (Below.step H.out h)
      clear h
      go_wp2_with fail
      refine (k2 _ H.out).mono ?_
      rintro e w2 ⟨rfl, h⟩
      replace H := Lib.hid (Below.step H.out h)
      clear h
      go_wp2_with fail
      refine (k3 _ H.out).mono ?_
      rintro e w3 ⟨rfl, h⟩
      replace H := Lib.hid (Below.step H.out h)
      clear h
      go_wp2_with fail
      refine (k4 _ H.out).mono ?_
      rintro e w4 ⟨rfl, h⟩
      replace H := Lib.hid (Below.step H.out h)
      clear h
      go_wp2_with fail
      refine (awake_any _ (hL.below H.out)).mono ?_
      rintro e w5 ⟨rfl, h⟩
      replace H := Lib.hid (Below.step H.out h)
      clear h
      go_wp2
      go_ret
      exact Ret.mk rfl H.out

end Go.Proofs.YtlphgipgdgoieaaDoor
