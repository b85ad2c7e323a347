/- DatesOrder. -/
import Derived.Test.YtlphgipgdgoieaaDoorDaW
import Derived.Sort.Walk0
namespace Go.Proofs.YtlphgipgdgoieaaDoor
open Go.RowKit

theorem txtN_none {n : Int} (h : ¬ (1 ≤ n ∧ n ≤ 109573)) : txtN n = [] := by unfold txtN; rw [if_neg h]
theorem txtN_some {n : Int} (h : 1 ≤ n ∧ n ≤ 109573) : (txtN n).length = 10 := by unfold txtN; rw [if_pos h]; rfl
set_option maxRecDepth 20000 in
set_option maxHeartbeats 4000000 in
theorem datesOrder_walk (W : World) (hL : Laid W) (a b : Int) : Calls Tryd.prog 11 #[.int .i64 a, .int .i64 b] W (Ret (.bool true) W) := by
  have H := Lib.hid (Below.refl W.heap.size W)
  have k1 := fun w' (h : Below W.heap.size W w') => text_any a w' (hL.below h)
  have k2 := fun w' (h : Below W.heap.size W w') => text_any b w' (hL.below h)
  by_cases ha : 1 ≤ a ∧ a ≤ 109573
  · by_cases hb : 1 ≤ b ∧ b ≤ 109573
    · have hl := txtN_lt ha hb
      have he := txtN_inj ha hb
      have l1 := txtN_some ha
      have l2 := txtN_some hb
      generalize txtN a = T at *
      generalize txtN b = U at *
      have n1 : (T == []) = false := by cases T <;> simp_all
      have n2 : (U == []) = false := by cases U <;> simp_all
      have hlt : Op.bytesLess T U = decide (a < b) := by rw [Go.Proofs.bytesLess_eq]; exact decide_eq_decide.2 hl
      have heq : (T == U) = (a == b) := by rw [Bool.eq_iff_iff, beq_iff_eq, beq_iff_eq]; exact he
      clear hl he l1 l2
      go_enter Tryd.func11, Tryd.ntmps11
      go_wp2_with fail
      refine (k1 _ H.out).mono ?_
      rintro e w1 ⟨rfl, h⟩
      replace H := Lib.hid (Below.step H.out h)
      clear h
      go_wp2_with fail
      refine (k2 _ H.out).mono ?_
      rintro e w2 ⟨rfl, h⟩
      replace H := Lib.hid (Below.step H.out h)
      clear h
      go_wp2_with fail
      refine (awake_any _ (hL.below H.out)).mono ?_
      rintro e w3 ⟨rfl, h⟩
      replace H := Lib.hid (Below.step H.out h)
      clear h
      go_wp2
      go_ret
      exact Ret.mk rfl H.out
    · rw [txtN_none hb] at k2
      have l1 := txtN_some ha
      generalize txtN a = T at *
      have n1 : (T == []) = false := by cases T <;> simp_all
      have g1 : decide (a < 1) = false := by simp; omega
      have g2 : decide (109573 < a) = false := by simp; omega
      clear l1 ha
      by_cases c1 : b < 1
      · clear hb
        go_enter Tryd.func11, Tryd.ntmps11
        go_wp2_with fail
        refine (k1 _ H.out).mono ?_
        rintro e w1 ⟨rfl, h⟩
        replace H := Lib.hid (Below.step H.out h)
        clear h
        go_wp2_with fail
        refine (k2 _ H.out).mono ?_
        rintro e w2 ⟨rfl, h⟩
        replace H := Lib.hid (Below.step H.out h)
        clear h
        go_wp2_with fail
        refine (awake_any _ (hL.below H.out)).mono ?_
        rintro e w3 ⟨rfl, h⟩
        replace H := Lib.hid (Below.step H.out h)
        clear h
        go_wp2
        go_ret
        exact Ret.mk rfl H.out
      · have c2 : 109573 < b := by omega
        clear hb
        go_enter Tryd.func11, Tryd.ntmps11
        go_wp2_with fail
        refine (k1 _ H.out).mono ?_
        rintro e w1 ⟨rfl, h⟩
        replace H := Lib.hid (Below.step H.out h)
        clear h
        go_wp2_with fail
        refine (k2 _ H.out).mono ?_
        rintro e w2 ⟨rfl, h⟩
        replace H := Lib.hid (Below.step H.out h)
        clear h
        go_wp2_with fail
        refine (awake_any _ (hL.below H.out)).mono ?_
        rintro e w3 ⟨rfl, h⟩
        replace H := Lib.hid (Below.step H.out h)
        clear h
        go_wp2
        go_ret
        exact Ret.mk rfl H.out
  · rw [txtN_none ha] at k1
    by_cases hb : 1 ≤ b ∧ b ≤ 109573
    · have l1 := txtN_some hb
      generalize txtN b = U at *
      have n1 : (U == []) = false := by cases U <;> simp_all
      have g1 : decide (b < 1) = false := by simp; omega
      have g2 : decide (109573 < b) = false := by simp; omega
      clear l1 hb
      by_cases c1 : a < 1
      · clear ha
        go_enter Tryd.func11, Tryd.ntmps11
        go_wp2_with fail
        refine (k1 _ H.out).mono ?_
        rintro e w1 ⟨rfl, h⟩
        replace H := Lib.hid (Below.step H.out h)
        clear h
        go_wp2_with fail
        refine (k2 _ H.out).mono ?_
        rintro e w2 ⟨rfl, h⟩
        replace H := Lib.hid (Below.step H.out h)
        clear h
        go_wp2_with fail
        refine (awake_any _ (hL.below H.out)).mono ?_
        rintro e w3 ⟨rfl, h⟩
        replace H := Lib.hid (Below.step H.out h)
        clear h
        go_wp2
        go_ret
        exact Ret.mk rfl H.out
      · have c2 : 109573 < a := by omega
        clear ha
        go_enter Tryd.func11, Tryd.ntmps11
        go_wp2_with fail
        refine (k1 _ H.out).mono ?_
        rintro e w1 ⟨rfl, h⟩
        replace H := Lib.hid (Below.step H.out h)
        clear h
        go_wp2_with fail
        refine (k2 _ H.out).mono ?_
        rintro e w2 ⟨rfl, h⟩
        replace H := Lib.hid (Below.step H.out h)
        clear h
        go_wp2_with fail
        refine (awake_any _ (hL.below H.out)).mono ?_
        rintro e w3 ⟨rfl, h⟩
        replace H := Lib.hid (Below.step H.out h)
        clear h
        go_wp2
        go_ret
        exact Ret.mk rfl H.out
    · rw [txtN_none hb] at k2
      by_cases c1 : a < 1
      · clear ha
        by_cases d1 : b < 1
        · clear hb
          go_enter Tryd.func11, Tryd.ntmps11
          go_wp2_with fail
          refine (k1 _ H.out).mono ?_
          rintro e w1 ⟨rfl, h⟩
          replace H := Lib.hid (Below.step H.out h)
          clear h
          go_wp2_with fail
          refine (k2 _ H.out).mono ?_
          rintro e w2 ⟨rfl, h⟩
          replace H := Lib.hid (Below.step H.out h)
          clear h
          go_wp2_with fail
          refine (awake_any _ (hL.below H.out)).mono ?_
          rintro e w3 ⟨rfl, h⟩
          replace H := Lib.hid (Below.step H.out h)
          clear h
          go_wp2
          go_ret
          exact Ret.mk rfl H.out
        · have d2 : 109573 < b := by omega
          clear hb
          go_enter Tryd.func11, Tryd.ntmps11
          go_wp2_with fail
          refine (k1 _ H.out).mono ?_
          rintro e w1 ⟨rfl, h⟩
          replace H := Lib.hid (Below.step H.out h)
          clear h
          go_wp2_with fail
          refine (k2 _ H.out).mono ?_
          rintro e w2 ⟨rfl, h⟩
          replace H := Lib.hid (Below.step H.out h)
          clear h
          go_wp2_with fail
          refine (awake_any _ (hL.below H.out)).mono ?_
          rintro e w3 ⟨rfl, h⟩
          replace H := Lib.hid (Below.step H.out h)
          clear h
          go_wp2
          go_ret
          exact Ret.mk rfl H.out
      · have c2 : 109573 < a := by omega
        clear ha
        by_cases d1 : b < 1
        · clear hb
          go_enter Tryd.func11, Tryd.ntmps11
          go_wp2_with fail
          refine (k1 _ H.out).mono ?_
          rintro e w1 ⟨rfl, h⟩
          replace H := Lib.hid (Below.step H.out h)
          clear h
          go_wp2_with fail
          refine (k2 _ H.out).mono ?_
          rintro e w2 ⟨rfl, h⟩
          replace H := Lib.hid (Below.step H.out h)
          clear h
          go_wp2_with fail
          refine (awake_any _ (hL.below H.out)).mono ?_
          rintro e w3 ⟨rfl, h⟩
          replace H := Lib.hid (Below.step H.out h)
          clear h
          go_wp2
          go_ret
          exact Ret.mk rfl H.out
        · have d2 : 109573 < b := by omega
          clear hb
          go_enter Tryd.func11, Tryd.ntmps11
          go_wp2_with fail
          refine (k1 _ H.out).mono ?_
          rintro e w1 ⟨rfl, h⟩
          replace H := Lib.hid (Below.step H.out h)
          clear h
          go_wp2_with fail
          refine (k2 _ H.out).mono ?_
          rintro e w2 ⟨rfl, h⟩
          replace H := Lib.hid (Below.step H.out h)
          clear h
          go_wp2_with fail
          refine (awake_any _ (hL.below H.out)).mono ?_
          rintro e w3 ⟨rfl, h⟩
          replace H := Lib.hid (Below.step H.out h)
          clear h
          go_wp2
          go_ret
          exact Ret.mk rfl H.out
end Go.Proofs.YtlphgipgdgoieaaDoor
