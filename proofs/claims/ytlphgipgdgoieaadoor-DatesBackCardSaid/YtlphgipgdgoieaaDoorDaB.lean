/- DatesBack. -/
import Derived.Test.YtlphgipgdgoieaaDoorDaY
namespace Go.Proofs.YtlphgipgdgoieaaDoor
open Go.RowKit

theorem par_back {l : List UInt8} (h : parB l = true) : txtN (parV l) = l := by
  cases hp : parR l with
  | none => rw [(par_none hp).2] at h; cases h
  | some n => rw [(par_some hp).1]; exact (parR_iff.1 hp).2.2
set_option maxRecDepth 20000 in
set_option maxHeartbeats 4000000 in
theorem datesBack_walk (W : World) (hL : Laid W) (n : Int) (l : List UInt8) : Calls Tryd.prog 8 #[.int .i64 n, .string ⟨l.toArray⟩] W (Ret (.bool true) W) := by
  have H := Lib.hid (Below.refl W.heap.size W)
  by_cases hl : 300 < l.length
  · skip
    go_enter Tryd.func8, Tryd.ntmps8
    go_wp2_with fail
    refine (awake_any _ (hL.below H.out)).mono ?_
    rintro e w1 ⟨rfl, h⟩
    replace H := Lib.hid (Below.step H.out h)
    clear h
    go_wp2
    go_ret
    exact Ret.mk rfl H.out
  · have k1 := fun w' (h : Below W.heap.size W w') => civil_any n w' (hL.below h)
    have k2 := fun w' (h : Below W.heap.size W w') => day_any (civ n).1 (civ n).2.1 (civ n).2.2 w' (hL.below h)
    have k3 := fun w' (h : Below W.heap.size W w') => text_any n w' (hL.below h)
    have k4 := fun w' (hh : (txtN n).length ≤ 300) (h : Below W.heap.size W w') => parse_any (txtN n) hh w' (hL.below h)
    have k5 := fun w' (h : Below W.heap.size W w') => parse_any l (by omega) w' (hL.below h)
    have k6 := fun w' (h : Below W.heap.size W w') => text_any (parV l) w' (hL.below h)
    have hP := fun h => par_back (l := l) h
    have hl' : l.length ≤ 300 := by omega
    by_cases hr : 1 ≤ n ∧ n ≤ 109573
    · have hc := civ_ok hr.1 hr.2
      have hd := day_yes hc.1
      rw [hc.2] at hd
      rw [show isB n = true from decide_eq_true hr] at k1
      rw [hd.1, hd.2] at k2
      have h10 := txtN_some hr
      have hp := par_some (parR_txtN hr.1 hr.2)
      rw [hp.1, hp.2] at k4
      replace k4 := fun w' => k4 w' (by omega)
      clear hc hd hp
      generalize (civ n).1 = y at *
      generalize (civ n).2.1 = m at *
      generalize (civ n).2.2 = d at *
      generalize txtN n = T at *
      obtain ⟨r1, r2⟩ := hr
      clear h10
      rcases hb : parB l with _ | _
      · rw [hb] at k5
        clear hb hP k6
        generalize parV l = v at *
        go_enter Tryd.func8, Tryd.ntmps8
        go_wp2_with fail
        refine (k1 _ H.out).mono ?_
        rintro e w1 ⟨rfl, h⟩
        replace H := Lib.hid (Below.step H.out h)
        clear h
        go_wp2_with fail
        refine (k2 _ H.out).mono ?_
        rintro e w2 ⟨rfl, h⟩
        replace H := Lib.hid (Below.step H.out h)
        clear h
        go_wp2_with fail
        refine (k3 _ H.out).mono ?_
        rintro e w3 ⟨rfl, h⟩
        replace H := Lib.hid (Below.step H.out h)
        clear h
        go_wp2_with fail
        refine (k4 _ H.out).mono ?_
        rintro e w4 ⟨rfl, h⟩
        replace H := Lib.hid (Below.step H.out h)
        clear h
        go_wp2_with fail
        refine (k5 _ H.out).mono ?_
        rintro e w5 ⟨rfl, h⟩
        replace H := Lib.hid (Below.step H.out h)
        clear h
        go_wp2_with fail
        refine (awake_any _ (hL.below H.out)).mono ?_
        rintro e w6 ⟨rfl, h⟩
        replace H := Lib.hid (Below.step H.out h)
        clear h
        go_wp2
        go_ret
        exact Ret.mk rfl H.out
      · rw [hb] at k5
        rw [hP hb] at k6
        clear hb hP
        generalize parV l = v at *
        go_enter Tryd.func8, Tryd.ntmps8
        go_wp2_with fail
        refine (k1 _ H.out).mono ?_
        rintro e w1 ⟨rfl, h⟩
        replace H := Lib.hid (Below.step H.out h)
        clear h
        go_wp2_with fail
        refine (k2 _ H.out).mono ?_
        rintro e w2 ⟨rfl, h⟩
        replace H := Lib.hid (Below.step H.out h)
        clear h
        go_wp2_with fail
        refine (k3 _ H.out).mono ?_
        rintro e w3 ⟨rfl, h⟩
        replace H := Lib.hid (Below.step H.out h)
        clear h
        go_wp2_with fail
        refine (k4 _ H.out).mono ?_
        rintro e w4 ⟨rfl, h⟩
        replace H := Lib.hid (Below.step H.out h)
        clear h
        go_wp2_with fail
        refine (k5 _ H.out).mono ?_
        rintro e w5 ⟨rfl, h⟩
        replace H := Lib.hid (Below.step H.out h)
        clear h
        go_wp2_with fail
        refine (k6 _ H.out).mono ?_
        rintro e w6 ⟨rfl, h⟩
        replace H := Lib.hid (Below.step H.out h)
        clear h
        go_wp2_with fail
        refine (awake_any _ (hL.below H.out)).mono ?_
        rintro e w7 ⟨rfl, h⟩
        replace H := Lib.hid (Below.step H.out h)
        clear h
        go_wp2
        go_ret
        exact Ret.mk rfl H.out
    · rw [civ_no hr, show isB n = false from decide_eq_false hr] at k1
      rw [civ_no hr] at k2
      have hd := day_no (y := 0) (m := 0) (d := 0) (fun h => by have := h.1; omega)
      simp only at k1 k2
      rw [hd.1, hd.2] at k2
      rw [txtN_none hr] at k3 k4
      have hp := par_none (l := []) rfl
      rw [hp.1, hp.2] at k4
      replace k4 := fun w' => k4 w' (by simp)
      clear hd hp
      by_cases c1 : 1 ≤ n
      · have c2 : ¬ n ≤ 109573 := fun h => hr ⟨c1, h⟩
        clear hr
        rcases hb : parB l with _ | _
        · rw [hb] at k5
          clear hb hP k6
          generalize parV l = v at *
          go_enter Tryd.func8, Tryd.ntmps8
          go_wp2_with fail
          refine (k1 _ H.out).mono ?_
          rintro e w1 ⟨rfl, h⟩
          replace H := Lib.hid (Below.step H.out h)
          clear h
          go_wp2_with fail
          refine (k2 _ H.out).mono ?_
          rintro e w2 ⟨rfl, h⟩
          replace H := Lib.hid (Below.step H.out h)
          clear h
          go_wp2_with fail
          refine (k3 _ H.out).mono ?_
          rintro e w3 ⟨rfl, h⟩
          replace H := Lib.hid (Below.step H.out h)
          clear h
          go_wp2_with fail
          refine (k4 _ H.out).mono ?_
          rintro e w4 ⟨rfl, h⟩
          replace H := Lib.hid (Below.step H.out h)
          clear h
          go_wp2_with fail
          refine (k5 _ H.out).mono ?_
          rintro e w5 ⟨rfl, h⟩
          replace H := Lib.hid (Below.step H.out h)
          clear h
          go_wp2_with fail
          refine (awake_any _ (hL.below H.out)).mono ?_
          rintro e w6 ⟨rfl, h⟩
          replace H := Lib.hid (Below.step H.out h)
          clear h
          go_wp2
          go_ret
          exact Ret.mk rfl H.out
        · rw [hb] at k5
          rw [hP hb] at k6
          clear hb hP
          generalize parV l = v at *
          go_enter Tryd.func8, Tryd.ntmps8
          go_wp2_with fail
          refine (k1 _ H.out).mono ?_
          rintro e w1 ⟨rfl, h⟩
          replace H := Lib.hid (Below.step H.out h)
          clear h
          go_wp2_with fail
          refine (k2 _ H.out).mono ?_
          rintro e w2 ⟨rfl, h⟩
          replace H := Lib.hid (Below.step H.out h)
          clear h
          go_wp2_with fail
          refine (k3 _ H.out).mono ?_
          rintro e w3 ⟨rfl, h⟩
          replace H := Lib.hid (Below.step H.out h)
          clear h
          go_wp2_with fail
          refine (k4 _ H.out).mono ?_
          rintro e w4 ⟨rfl, h⟩
          replace H := Lib.hid (Below.step H.out h)
          clear h
          go_wp2_with fail
          refine (k5 _ H.out).mono ?_
          rintro e w5 ⟨rfl, h⟩
          replace H := Lib.hid (Below.step H.out h)
          clear h
          go_wp2_with fail
          refine (k6 _ H.out).mono ?_
          rintro e w6 ⟨rfl, h⟩
          replace H := Lib.hid (Below.step H.out h)
          clear h
          go_wp2_with fail
          refine (awake_any _ (hL.below H.out)).mono ?_
          rintro e w7 ⟨rfl, h⟩
          replace H := Lib.hid (Below.step H.out h)
          clear h
          go_wp2
          go_ret
          exact Ret.mk rfl H.out
      · clear hr
        rcases hb : parB l with _ | _
        · rw [hb] at k5
          clear hb hP k6
          generalize parV l = v at *
          go_enter Tryd.func8, Tryd.ntmps8
          go_wp2_with fail
          refine (k1 _ H.out).mono ?_
          rintro e w1 ⟨rfl, h⟩
          replace H := Lib.hid (Below.step H.out h)
          clear h
          go_wp2_with fail
          refine (k2 _ H.out).mono ?_
          rintro e w2 ⟨rfl, h⟩
          replace H := Lib.hid (Below.step H.out h)
          clear h
          go_wp2_with fail
          refine (k3 _ H.out).mono ?_
          rintro e w3 ⟨rfl, h⟩
          replace H := Lib.hid (Below.step H.out h)
          clear h
          go_wp2_with fail
          refine (k4 _ H.out).mono ?_
          rintro e w4 ⟨rfl, h⟩
          replace H := Lib.hid (Below.step H.out h)
          clear h
          go_wp2_with fail
          refine (k5 _ H.out).mono ?_
          rintro e w5 ⟨rfl, h⟩
          replace H := Lib.hid (Below.step H.out h)
          clear h
          go_wp2_with fail
          refine (awake_any _ (hL.below H.out)).mono ?_
          rintro e w6 ⟨rfl, h⟩
          replace H := Lib.hid (Below.step H.out h)
          clear h
          go_wp2
          go_ret
          exact Ret.mk rfl H.out
        · rw [hb] at k5
          rw [hP hb] at k6
          clear hb hP
          generalize parV l = v at *
          go_enter Tryd.func8, Tryd.ntmps8
          go_wp2_with fail
          refine (k1 _ H.out).mono ?_
          rintro e w1 ⟨rfl, h⟩
          replace H := Lib.hid (Below.step H.out h)
          clear h
          go_wp2_with fail
          refine (k2 _ H.out).mono ?_
          rintro e w2 ⟨rfl, h⟩
          replace H := Lib.hid (Below.step H.out h)
          clear h
          go_wp2_with fail
          refine (k3 _ H.out).mono ?_
          rintro e w3 ⟨rfl, h⟩
          replace H := Lib.hid (Below.step H.out h)
          clear h
          go_wp2_with fail
          refine (k4 _ H.out).mono ?_
          rintro e w4 ⟨rfl, h⟩
          replace H := Lib.hid (Below.step H.out h)
          clear h
          go_wp2_with fail
          refine (k5 _ H.out).mono ?_
          rintro e w5 ⟨rfl, h⟩
          replace H := Lib.hid (Below.step H.out h)
          clear h
          go_wp2_with fail
          refine (k6 _ H.out).mono ?_
          rintro e w6 ⟨rfl, h⟩
          replace H := Lib.hid (Below.step H.out h)
          clear h
          go_wp2_with fail
          refine (awake_any _ (hL.below H.out)).mono ?_
          rintro e w7 ⟨rfl, h⟩
          replace H := Lib.hid (Below.step H.out h)
          clear h
          go_wp2
          go_ret
          exact Ret.mk rfl H.out
end Go.Proofs.YtlphgipgdgoieaaDoor
