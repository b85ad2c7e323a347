/- Text of the code. -/
import Derived.Test.YtlphgipgdgoieaaDoorDaG
import Derived.Test.YtlphgipgdgoieaaDoorShelf
namespace Go.Proofs.YtlphgipgdgoieaaDoor
open Go.RowKit Go.Sort Go.Lib

theorem below_grow (w : World) (os : Array Obj) : Below w.heap.size w (Sort.grow w os) := ⟨rfl, rfl, rfl, by simp, fun k hk => heap_grow_old w os hk⟩

theorem itoa_ret (n : Nat) (hn : n ≤ 100000) (w : World) (hL : Laid w) : Calls Tryd.prog 32 #[.int .i64 (n : Int)] w (Ret (.string ⟨(Lib.decDigits n).toArray⟩) w) := by
  have h := Tryd.strconv_Itoa (n : Int) (by omega) (by omega) w hL.pow
  rw [itoa_pos] at h
  refine h.mono ?_
  rintro e w1 ⟨rfl, k, os, hw⟩
  exact ⟨rfl, by rw [hw]; exact (Below.drewN_ (Below.refl _ _) k).trans (below_grow (w.drewN k) os)⟩

set_option maxRecDepth 20000 in
set_option maxHeartbeats 2000000 in
theorem two_any (n : Nat) (hn : n < 100) (w : World) (hL : Laid w) : Calls Tryd.prog 33 #[.int .i64 (n : Int)] w (Ret (.string ⟨(d2 n).toArray⟩) w) := by
  have k := itoa_ret n (by omega) w hL
  by_cases h : n < 10
  · have hV := Lib.hid (dec_d1 h)
    have hl : (Lib.decDigits n).length ≤ 1 := by rw [dec_small h]; exact Nat.le_refl _
    generalize Lib.decDigits n = a at *
    go_enter Tryd.func33, Tryd.ntmps33
    go_wp2_with fail
    refine k.mono ?_
    rintro e w1 ⟨rfl, h1⟩
    clear k
    go_wp2
    go_ret
    exact Ret.mk (by rw [← hV.out]; simp [go_sem]; try rfl) h1
  · have hV := Lib.hid (dec_d2 (n := n) (by omega) hn)
    generalize Lib.decDigits n = a at *
    go_enter Tryd.func33, Tryd.ntmps33
    go_wp2_with fail
    refine k.mono ?_
    rintro e w1 ⟨rfl, h1⟩
    clear k
    go_wp2
    go_ret
    exact Ret.mk (by rw [← hV.out]; rfl) h1

set_option maxRecDepth 20000 in
set_option maxHeartbeats 2000000 in
theorem text_any (n : Int) (w : World) (hL : Laid w) : Calls Tryd.prog 23 #[.int .i64 n] w (Ret (.string ⟨(txtN n).toArray⟩) w) := by
  have k := civil_any n w hL
  by_cases hr : 1 ≤ n ∧ n ≤ 109573
  · obtain ⟨Y, M, D, hc, y1, y2, m1, m2, d1, d2', ht⟩ := civ_nat hr
    rw [hc, show isB n = true from decide_eq_true hr] at k
    have hT := Lib.hid (show txtN n = Lib.decDigits Y ++ 45 :: (d2 M ++ 45 :: d2 D) by rw [ht, dec_d4 (by omega) (by omega)]; rfl)
    have ky := fun w' (h : Below w.heap.size w w') => itoa_ret Y (by omega) w' (hL.below h)
    have km := fun w' (h : Below w.heap.size w w') => two_any M (by omega) w' (hL.below h)
    have kd := fun w' (h : Below w.heap.size w w') => two_any D (by omega) w' (hL.below h)
    have l1 : (Lib.decDigits Y).length ≤ 4 := by rw [dec_d4 (by omega) (by omega)]; exact Nat.le_refl _
    have l2 : (d2 M).length ≤ 2 := Nat.le_refl _
    have l3 : (d2 D).length ≤ 2 := Nat.le_refl _
    clear hc ht hr
    generalize Lib.decDigits Y = a at *
    generalize d2 M = b at *
    generalize d2 D = c at *
    generalize txtN n = R at *
    go_enter Tryd.func23, Tryd.ntmps23
    go_wp2_with fail
    refine k.mono ?_
    rintro e w1 ⟨rfl, h1⟩
    clear k
    go_wp2_with fail
    refine (ky _ h1).mono ?_
    rintro e w2 ⟨rfl, h2⟩
    have hb2 := Below.step h1 h2
    clear h1 h2 ky
    go_wp2_with fail
    refine (km _ hb2).mono ?_
    rintro e w3 ⟨rfl, h3⟩
    have hb3 := Below.step hb2 h3
    clear h3 km hb2
    go_wp2_with fail
    refine (kd _ hb3).mono ?_
    rintro e w4 ⟨rfl, h4⟩
    have hb4 := Below.step hb3 h4
    clear h4 kd hb3
    go_wp2
    go_ret
    exact Ret.mk (by rw [hT.out, ← str_text]; rfl) hb4
  · rw [civ_no hr, show isB n = false from decide_eq_false hr] at k
    have hV := Lib.hid (show txtN n = [] by unfold txtN; rw [if_neg hr])
    clear hr
    go_enter Tryd.func23, Tryd.ntmps23
    go_wp2_with fail
    refine k.mono ?_
    rintro e w1 ⟨rfl, h1⟩
    clear k
    go_wp2
    go_ret
    exact Ret.mk (by rw [hV.out]; rfl) h1
end Go.Proofs.YtlphgipgdgoieaaDoor
