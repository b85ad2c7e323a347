/- Leap, the lengths of years and months, Day, Civil, Weekday: a draft that was never built (slots are guessed: with p parameters the results lie from slot 2p on, then the locals in order). -/
import Derived.Test.YtlphgipgdgoieaaDoorDaK
import Derived.Test.YtlphgipgdgoieaaDoorDaM
namespace Go.Proofs.YtlphgipgdgoieaaDoor
open Go.RowKit

theorem leap_any (y : Int) (w : World) : Calls Tryd.prog 12 #[.int .i64 y] w (Ret (.bool (leapB y)) w) := by
  go_enter Tryd.func12, Tryd.ntmps12
  go_wp2
  all_goals
    go_ret
    refine Ret.mk ?_ (Below.refl _ _)
    simp_all [leapB]
theorem rleap_any (y : Int) (w : World) : Calls Tryd.prog 13 #[.int .i64 y] w (Ret (.bool (leapB y)) w) := by
  go_enter Tryd.func13, Tryd.ntmps13
  go_wp2
  all_goals
    go_ret
    refine Ret.mk ?_ (Below.refl _ _)
    simp_all [leapB]

theorem doy_any (y : Int) (w : World) : Calls Tryd.prog 26 #[.int .i64 y] w (Ret (.int .i64 (diy y)) w) := by
  have k := leap_any y w
  have hR := Lib.hid (show diy y = if leapB y then 366 else 365 from rfl)
  generalize leapB y = b at *
  rcases b with _ | _
  all_goals
    go_enter Tryd.func26, Tryd.ntmps26
    go_wp2_with fail
    refine k.mono ?_
    rintro e w1 ⟨rfl, h⟩
    go_wp2
    go_ret
    exact Ret.mk (by rw [hR.out]; rfl) h

theorem dom_any (y m : Int) (h1 : 1 ≤ m) (h2 : m ≤ 12) (w : World) (hL : Laid w) : Calls Tryd.prog 25 #[.int .i64 y, .int .i64 m] w (Ret (.int .i64 (dim y m)) w) := by
  by_cases hm : m = 2
  · subst hm
    have k := leap_any y w
    have hR := Lib.hid (show dim y 2 = if leapB y then 29 else 28 from rfl)
    generalize leapB y = b at *
    rcases b with _ | _
    all_goals
      go_enter Tryd.func25, Tryd.ntmps25
      go_wp2_with fail
      refine k.mono ?_
      rintro e w1 ⟨rfl, h⟩
      obtain ⟨c0, c1, c2, c3, c4, c5, c6, c7, c8, c9, c10, c11⟩ := mday_cells (hL.below h)
      go_wp2
      go_ret
      exact Ret.mk (by rw [hR.out]; rfl) h
  · obtain ⟨c0, c1, c2, c3, c4, c5, c6, c7, c8, c9, c10, c11⟩ := mday_cells hL
    have hc : m = 1 ∨ m = 3 ∨ m = 4 ∨ m = 5 ∨ m = 6 ∨ m = 7 ∨ m = 8 ∨ m = 9 ∨ m = 10 ∨ m = 11 ∨ m = 12 := by omega
    rcases hc with rfl | rfl | rfl | rfl | rfl | rfl | rfl | rfl | rfl | rfl | rfl
    all_goals
      go_enter Tryd.func25, Tryd.ntmps25
      go_wp2
      go_ret
      exact Ret.mk (by simp [dim]) (Below.refl _ _)
theorem rlength_any (y m : Int) (w : World) : Calls Tryd.prog 27 #[.int .i64 y, .int .i64 m] w (Ret (.int .i64 (dim y m)) w) := by
  by_cases hm : m = 2
  · subst hm
    have k := rleap_any y w
    have hR := Lib.hid (show dim y 2 = if leapB y then 29 else 28 from rfl)
    generalize leapB y = b at *
    rcases b with _ | _
    all_goals
      go_enter Tryd.func27, Tryd.ntmps27
      go_wp2_with fail
      refine k.mono ?_
      rintro e w1 ⟨rfl, h⟩
      go_wp2
      go_ret
      exact Ret.mk (by rw [hR.out]; rfl) h
  · by_cases h30 : m = 4 ∨ m = 6 ∨ m = 9 ∨ m = 11
    · rcases h30 with rfl | rfl | rfl | rfl
      all_goals
        go_enter Tryd.func27, Tryd.ntmps27
        go_wp2
        go_ret
        exact Ret.mk (by simp [dim]) (Below.refl _ _)
    · have hV := Lib.hid (show dim y m = 31 by unfold dim; rw [if_neg hm, if_neg h30])
      have b2 : (m == 2) = false := by simpa using hm
      have b4 : (m == 4) = false := by simp; omega
      have b6 : (m == 6) = false := by simp; omega
      have b9 : (m == 9) = false := by simp; omega
      have b11 : (m == 11) = false := by simp; omega
      clear hm h30
      go_enter Tryd.func27, Tryd.ntmps27
      go_wp2
      go_ret
      exact Ret.mk (by rw [hV.out]; rfl) (Below.refl _ _)

/-- What Day returns. -/
def dayV (y m d : Int) : Int := if Valid y m d then dayN y m d else 0
def dayB (y m d : Int) : Bool := decide (Valid y m d)
theorem day_no {y m d : Int} (h : ¬ Valid y m d) : dayV y m d = 0 ∧ dayB y m d = false := ⟨if_neg h, decide_eq_false h⟩
theorem day_yes {y m d : Int} (h : Valid y m d) : dayV y m d = dayN y m d ∧ dayB y m d = true := ⟨if_pos h, decide_eq_true h⟩
theorem cumY_small : ∀ k : Nat, 0 ≤ cumY k ∧ cumY k ≤ 366 * (k : Int)
  | 0 => by simp [cumY]
  | k + 1 => by
    have := cumY_small k
    have := diy_pos (1900 + (k : Int))
    show 0 ≤ cumY k + diy (1900 + (k : Int)) ∧ cumY k + diy (1900 + (k : Int)) ≤ _
    omega
theorem cumM_small (y : Int) : ∀ k : Nat, 0 ≤ cumM y k ∧ cumM y k ≤ 31 * (k : Int)
  | 0 => by simp [cumM]
  | k + 1 => by
    have := cumM_small y k
    have := dim_pos y ((k : Int) + 1)
    show 0 ≤ cumM y k + dim y ((k : Int) + 1) ∧ cumM y k + dim y ((k : Int) + 1) ≤ _
    omega

set_option maxRecDepth 20000 in
set_option maxHeartbeats 2000000 in
theorem day_any (y m d : Int) (w : World) (hL : Laid w) : Calls Tryd.prog 15 #[.int .i64 y, .int .i64 m, .int .i64 d] w (Ret (.tuple #[.int .i64 (dayV y m d), .bool (dayB y m d)]) w) := by
  by_cases hr : 1900 ≤ y ∧ y ≤ 2199 ∧ 1 ≤ m ∧ m ≤ 12
  rotate_left
  · have hV := Lib.hid (day_no (y := y) (m := m) (d := d) fun h => hr ⟨h.1, h.2.1, h.2.2.1, h.2.2.2.1⟩)
    by_cases c1 : y < 1900
    · go_enter Tryd.func15, Tryd.ntmps15
      go_wp2
      go_ret2
      exact Ret.mk (by rw [hV.out.1, hV.out.2]; rfl) (Below.refl _ _)
    · by_cases c2 : 2199 < y
      · go_enter Tryd.func15, Tryd.ntmps15
        go_wp2
        go_ret2
        exact Ret.mk (by rw [hV.out.1, hV.out.2]; rfl) (Below.refl _ _)
      · by_cases c3 : m < 1
        · go_enter Tryd.func15, Tryd.ntmps15
          go_wp2
          go_ret2
          exact Ret.mk (by rw [hV.out.1, hV.out.2]; rfl) (Below.refl _ _)
        · have c4 : 12 < m := by omega
          clear hr
          go_enter Tryd.func15, Tryd.ntmps15
          go_wp2
          go_ret2
          exact Ret.mk (by rw [hV.out.1, hV.out.2]; rfl) (Below.refl _ _)
  · obtain ⟨r1, r2, r3, r4⟩ := hr
    have km := fun j w' (h1 : 1 ≤ j) (h2 : j ≤ 12) (h : Below w.heap.size w w') => dom_any y j h1 h2 w' (hL.below h)
    by_cases c5 : d < 1
    · have hV := Lib.hid (day_no (y := y) (m := m) (d := d) fun h => by have := h.2.2.2.2.1; omega)
      go_enter Tryd.func15, Tryd.ntmps15
      go_wp2
      go_ret2
      exact Ret.mk (by rw [hV.out.1, hV.out.2]; rfl) (Below.refl _ _)
    · by_cases c6 : dim y m < d
      · have hV := Lib.hid (day_no (y := y) (m := m) (d := d) fun h => by have := h.2.2.2.2.2; omega)
        have k1 := km m w r3 r4 (Below.refl _ _)
        generalize dim y m = D at *
        go_enter Tryd.func15, Tryd.ntmps15
        go_wp2_with fail
        refine k1.mono ?_
        rintro e w1 ⟨rfl, h⟩
        clear k1 km
        go_wp2
        go_ret2
        exact Ret.mk (by rw [hV.out.1, hV.out.2]; rfl) h
      · have hval : Valid y m d := ⟨r1, r2, r3, r4, by omega, by omega⟩
        have hV := Lib.hid (day_yes hval)
        have k1 := km m w r3 r4 (Below.refl _ _)
        have hdp := dim_pos y m
        generalize dim y m = D at *
        obtain ⟨K, rfl⟩ : ∃ K : Nat, y = 1900 + (K : Int) := ⟨(y - 1900).toNat, by omega⟩
        obtain ⟨J, rfl⟩ : ∃ J : Nat, m = (J : Int) + 1 := ⟨(m - 1).toNat, by omega⟩
        have hN := Lib.hid (show dayN (1900 + (K : Int)) ((J : Int) + 1) d = cumY K + cumM (1900 + (K : Int)) J + d by
          unfold dayN; rw [show ((1900 + (K : Int)) - 1900).toNat = K by omega, show ((J : Int) + 1 - 1).toNat = J by omega])
        generalize dayN (1900 + (K : Int)) ((J : Int) + 1) d = N at *
        clear hval
        go_enter Tryd.func15, Tryd.ntmps15
        go_wp2_with fail
        refine k1.mono ?_
        rintro e w1 ⟨rfl, h1⟩
        clear k1
        go_wp2
        go_loopw [8, 9] (fun n v wr => ∃ k : Nat, k ≤ K ∧ v = .int .i64 (1900 + (k : Int)) ∧ n = .int .i64 (d + cumY k) ∧ Below w.heap.size w wr) (fun _ v _ => 2200 - (intOf v).toNat)
        case atStart => exact ⟨0, by omega, by simp, by simp [cumY], h1⟩
        case round =>
          clear h1
          obtain ⟨k, hk, rfl, rfl, hbw⟩ := hrel
          by_cases hlt : k < K
          · have hs := cumY_small k
            have hd := diy_pos (1900 + (k : Int))
            have hc := Lib.hid (show cumY (k + 1) = cumY k + diy (1900 + (k : Int)) from rfl)
            have ky := fun w' => doy_any (1900 + (k : Int)) w'
            generalize diy (1900 + (k : Int)) = D2 at *
            generalize cumY k = c at *
            have hw : IntKind.i64.wrap (d + c + D2) = d + c + D2 := by rw [IntKind.wrap_i64] <;> omega
            go_wp2_with fail
            refine (ky _).mono ?_
            rintro e w2 ⟨rfl, h2⟩
            have hb2 := Below.step hbw h2
            clear h2 ky
            go_wp2
            go_roundw
            case rel => exact ⟨k + 1, by omega, by go_num, by rw [hc.out]; congr 1; omega, hb2⟩
            case measure => simp [intOf]; omega
          · obtain rfl : k = K := by omega
            have hs := cumY_small k
            generalize cumY k = c at *
            go_wp2
            go_loopw [8, 10] (fun n v wr => ∃ j : Nat, j ≤ J ∧ v = .int .i64 ((j : Int) + 1) ∧ n = .int .i64 (d + c + cumM (1900 + (k : Int)) j) ∧ Below w.heap.size w wr) (fun _ v _ => 13 - (intOf v).toNat)
            case atStart => exact ⟨0, by omega, by simp, by simp [cumM], hbw⟩
            case round =>
              clear hbw
              obtain ⟨j, hj, rfl, rfl, hbw⟩ := hrel
              by_cases hlt2 : j < J
              · have hs2 := cumM_small (1900 + (k : Int)) j
                have hd := dim_pos (1900 + (k : Int)) ((j : Int) + 1)
                have hc := Lib.hid (show cumM (1900 + (k : Int)) (j + 1) = cumM (1900 + (k : Int)) j + dim (1900 + (k : Int)) ((j : Int) + 1) from rfl)
                have kj := fun w' h => km ((j : Int) + 1) w' (by omega) (by omega) h
                generalize dim (1900 + (k : Int)) ((j : Int) + 1) = D2 at *
                generalize cumM (1900 + (k : Int)) j = c2 at *
                have hw : IntKind.i64.wrap (d + c + c2 + D2) = d + c + c2 + D2 := by rw [IntKind.wrap_i64] <;> omega
                go_wp2_with fail
                refine (kj _ hbw).mono ?_
                rintro e w2 ⟨rfl, h2⟩
                have hb2 := Below.step hbw h2
                clear h2 kj
                go_wp2
                go_roundw
                case rel => exact ⟨j + 1, by omega, by go_num, by rw [hc.out]; congr 1; omega, hb2⟩
                case measure => simp [intOf]; omega
              · obtain rfl : j = J := by omega
                go_wp2
                go_ret2
                exact Ret.mk (by rw [hV.out.1, hV.out.2, hN.out, show c + cumM (1900 + (k : Int)) j + d = d + c + cumM (1900 + (k : Int)) j by omega]; rfl) hbw

/-- Civil: what the two loops come to. -/
theorem civ_end {n : Int} {K J : Nat} (hK : K ≤ 299) (hJ : J ≤ 11) (h1 : 1 ≤ n - cumY K - cumM (1900 + (K : Int)) J) (h2 : n - cumY K - cumM (1900 + (K : Int)) J ≤ dim (1900 + (K : Int)) ((J : Int) + 1)) :
    civ n = (1900 + (K : Int), (J : Int) + 1, n - cumY K - cumM (1900 + (K : Int)) J) :=
  civ_is ⟨⟨by omega, by omega, by omega, by omega, h1, h2⟩, by
    unfold dayN
    rw [show ((1900 + (K : Int)) - 1900).toNat = K by omega, show ((J : Int) + 1 - 1).toNat = J by omega]
    omega⟩
/-- Between years and months there is always a next one. -/
theorem year_more {n : Int} {K : Nat} (hn : n ≤ 109573) (hK : K ≤ 299) (h : diy (1900 + (K : Int)) < n - cumY K) : K + 1 ≤ 299 := by
  rcases Nat.lt_or_ge K 299 with h1 | h1
  · exact h1
  · obtain rfl : K = 299 := by omega
    have e : cumY 300 = cumY 299 + diy (1900 + ((299 : Nat) : Int)) := rfl
    rw [cumY_all] at e
    omega
theorem month_more {x y : Int} {J : Nat} (hJ : J ≤ 11) (hx : x ≤ diy y) (h : dim y ((J : Int) + 1) < x - cumM y J) : J + 1 ≤ 11 := by
  rcases Nat.lt_or_ge J 11 with h1 | h1
  · exact h1
  · obtain rfl : J = 11 := by omega
    have e : cumM y 12 = cumM y 11 + dim y (((11 : Nat) : Int) + 1) := rfl
    rw [cumM_all] at e
    omega
end Go.Proofs.YtlphgipgdgoieaaDoor
