/- The examples of the chapter. -/
import Derived.Test.YtmgdeckooiblaaaDoorRuP
import Derived.Test.YtmgdeckooiblaaaDoorSame
namespace Go.Proofs.YtmgdeckooiblaaaDoor
open Go.RowKit

theorem same_any (a b : List UInt8) (x y : List UInt8) (w : World) (k1 : ∀ w', Below w.heap.size w w' → Calls Tryd.prog 24 #[.string ⟨a.toArray⟩] w' (Ret (.string ⟨x.toArray⟩) w')) (k2 : ∀ w', Below w.heap.size w w' → Calls Tryd.prog 24 #[.string ⟨b.toArray⟩] w' (Ret (.string ⟨y.toArray⟩) w')) :
    Calls Tryd.prog 26 #[.string ⟨a.toArray⟩, .string ⟨b.toArray⟩] w (Ret (.bool (x == y)) w) := by
  obtain ⟨c, hc⟩ : ∃ c, (x == y) = c := ⟨_, rfl⟩
  rw [hc]
  go_enter Tryd.func26, Tryd.ntmps26
  go_wp2_with fail
  refine (k1 _ (by repeat (first | assumption | exact Below.refl _ _ | refine Below.alloc ?_ (by first | omega | (simp; done) | (simp; omega)) _ | refine Below.setCell ?_ (by first | omega | (simp; done) | (simp; omega)) _ | refine Below.drew ?_ | refine Below.drewN_ ?_ _ | refine Below.step ?_ (by assumption)))).mono ?_
  rintro e w1 ⟨rfl, hb1⟩
  have HB := Lib.hid hb1
  clear hb1
  go_wp2_with fail
  refine (k2 _ HB.out).mono ?_
  rintro e w2 ⟨rfl, hb2⟩
  replace HB := Lib.hid (Below.step HB.out hb2)
  clear hb2
  go_wp2
  go_ret
  exact Ret.mk rfl HB.out

theorem order_ex (s v : List UInt8) (L : List (List UInt8)) (h1 : clV s = L) (h2 : ordL L = v) (h3 : ∀ c ∈ L, 1 ≤ (ptV c).length ∧ (ptV c).length ≤ 19 ∧ c.length ≤ 4000) (h4 : ptB s = true) (h5 : s.length ≤ 100) (h6 : L.length ≤ 100) (w : World) (hL : Laid w) : Calls Tryd.prog 24 #[.string ⟨s.toArray⟩] w (Ret (.string ⟨v.toArray⟩) w) := by
  subst h1 h2
  exact order_any s (by omega) h4 (by omega) h3 w hL
theorem points_ex (s : List UInt8) (v : List Int) (b : Bool) (h1 : ptV s = v) (h2 : ptB s = b) (h5 : s.length ≤ 100) (w : World) (hL : Laid w) : Calls Tryd.prog 14 #[.string ⟨s.toArray⟩] w (RetIB v b w) := by
  subst h1 h2
  exact points_any s (by omega) w hL
theorem clusters_ex (s : List UInt8) (v : List (List UInt8)) (h1 : clV s = v) (h5 : s.length ≤ 100) (w : World) (hL : Laid w) : Calls Tryd.prog 22 #[.string ⟨s.toArray⟩] w (RetS v w) := by
  subst h1
  exact clusters_any s (by omega) w hL
theorem of_ex (l : List Int) (v : List UInt8) (b : Bool) (h1 : ofV l = v) (h2 : ofB l = b) (n : Nat) (hn : n = l.length) (h5 : l.length ≤ 100) (w : World) (vs : Array Value) (hv : (l.map (Value.int .i64)).toArray = vs) : Calls Tryd.prog 17 #[.slice (some ⟨w.heap.size, 0, none⟩) n n] (w.alloc (.cells vs 3)) (Ret (.tuple #[.string ⟨v.toArray⟩, .bool b]) (w.alloc (.cells vs 3))) := by
  subst h1 h2 hv hn
  exact of_any l _ _ _ (Ints.new w l 3) (by omega)
theorem class_ex (p v : Int) (h : cls p = v) (w : World) : Calls Tryd.prog 19 #[.int .i64 p] w (Ret (.int .i64 v) w) := by
  subst h; exact RetW.ret (class_any p w)
theorem sameI_ex (A : Option Addr) (cap : Nat) (w : World) (h : Ints w A [97, 769, 98]) : Calls Tryd.prog 16 #[.slice A 3 cap, .slice (some ⟨w.heap.size, 0, none⟩) 3 3] (w.alloc (.cells #[.int .i64 97, .int .i64 769, .int .i64 98] 3)) (Ret (.bool true) (w.alloc (.cells #[.int .i64 97, .int .i64 769, .int .i64 98] 3))) :=
  same_yes [97, 769, 98] A (some ⟨w.heap.size, 0, none⟩) cap 3 _ (h.alloc _) (Ints.new w [97, 769, 98] 3) (by decide)
theorem equal_ex (A : Option Addr) (cap : Nat) (w : World) (h : Strs w A [[97, 204, 129], [98]]) : Calls Tryd.prog 21 #[.slice A 2 cap, .slice (some ⟨w.heap.size, 0, none⟩) 2 2] (w.alloc (.cells #[.string ⟨#[97, 204, 129]⟩, .string ⟨#[98]⟩] 9)) (Ret (.bool true) (w.alloc (.cells #[.string ⟨#[97, 204, 129]⟩, .string ⟨#[98]⟩] 9))) :=
  requal_yes [[97, 204, 129], [98]] A (some ⟨w.heap.size, 0, none⟩) cap 2 _ (h.alloc _) (Strs.new w [[97, 204, 129], [98]] 9) (by decide)

theorem ord1 (w : World) (hL : Laid w) : Calls Tryd.prog 24 #[.string ⟨[97, 204, 129, 204, 163].toArray⟩] w (Ret (.string ⟨[97, 204, 163, 204, 129].toArray⟩) w) := order_ex [97, 204, 129, 204, 163] [97, 204, 163, 204, 129] [[97, 204, 129, 204, 163]] (by decide +kernel) (by decide +kernel) (by decide +kernel) (by decide +kernel) (by decide) (by decide) w hL
theorem ord2 (w : World) (hL : Laid w) : Calls Tryd.prog 24 #[.string ⟨[97, 204, 163, 204, 129].toArray⟩] w (Ret (.string ⟨[97, 204, 163, 204, 129].toArray⟩) w) := order_ex [97, 204, 163, 204, 129] [97, 204, 163, 204, 129] [[97, 204, 163, 204, 129]] (by decide +kernel) (by decide +kernel) (by decide +kernel) (by decide +kernel) (by decide) (by decide) w hL
theorem ord3 (w : World) (hL : Laid w) : Calls Tryd.prog 24 #[.string ⟨[97].toArray⟩] w (Ret (.string ⟨[97].toArray⟩) w) := order_ex [97] [97] [[97]] (by decide +kernel) (by decide +kernel) (by decide +kernel) (by decide +kernel) (by decide) (by decide) w hL
theorem ord4 (w : World) (hL : Laid w) : Calls Tryd.prog 24 #[.string ⟨[98].toArray⟩] w (Ret (.string ⟨[98].toArray⟩) w) := order_ex [98] [98] [[98]] (by decide +kernel) (by decide +kernel) (by decide +kernel) (by decide +kernel) (by decide) (by decide) w hL
theorem sam1 (w : World) (hL : Laid w) : Calls Tryd.prog 26 #[.string ⟨[97, 204, 129, 204, 163].toArray⟩, .string ⟨[97, 204, 163, 204, 129].toArray⟩] w (Ret (.bool true) w) := same_any [97, 204, 129, 204, 163] [97, 204, 163, 204, 129] [97, 204, 163, 204, 129] [97, 204, 163, 204, 129] w (fun w' h => ord1 w' (hL.below h)) (fun w' h => ord2 w' (hL.below h))
theorem sam2 (w : World) (hL : Laid w) : Calls Tryd.prog 26 #[.string ⟨[97].toArray⟩, .string ⟨[98].toArray⟩] w (Ret (.bool false) w) := same_any [97] [98] [97] [98] w (fun w' h => ord3 w' (hL.below h)) (fun w' h => ord4 w' (hL.below h))

set_option maxRecDepth 20000 in
set_option maxHeartbeats 8000000 in
theorem awake_any (w : World) (hL : Laid w) : Calls Tryd.prog 13 #[] w (Ret (.bool true) w) := by
  have H := Lib.hid (Below.refl w.heap.size w)
  have HLL := Lib.hid hL
  clear hL
  go_enter Tryd.func13, Tryd.ntmps13
  go_wp2_with fail
  refine (of_ex [97, 769, 803] [97, 204, 129, 204, 163] true (by decide +kernel) (by decide +kernel) 3 rfl (by decide) _ _ rfl).mono ?_
  rintro e w1 ⟨rfl, h⟩
  replace h := Lib.hid ((((Below.refl _ w).alloc (Nat.le_refl _) (.cells #[.int .i64 97, .int .i64 769, .int .i64 803] 3))).trans (h.mono (by simp)))
  replace h := h.out
  replace H := Lib.hid (Below.step H.out h)
  clear h
  go_wp2_with fail
  refine (points_ex [97, 204, 129, 98] [97, 769, 98] true (by decide +kernel) (by decide +kernel) (by decide) _ (HLL.out.below H.out)).mono ?_
  rintro e w2 ⟨A2, c2, rfl, -, hI2, h⟩
  replace H := Lib.hid (Below.step H.out h)
  replace hI2 := Lib.hid hI2
  clear h
  go_wp2_with fail
  refine (points_ex [255] [] false (by decide +kernel) (by decide +kernel) (by decide) _ (HLL.out.below H.out)).mono ?_
  rintro e w3 ⟨A3, c3, rfl, -, -, h⟩
  replace H := Lib.hid (Below.step H.out h)
  replace hI2 := Lib.hid (hI2.out.below h)
  clear h
  go_wp2_with fail
  refine (points_ex [192, 128] [] false (by decide +kernel) (by decide +kernel) (by decide) _ (HLL.out.below H.out)).mono ?_
  rintro e w4 ⟨A4, c4, rfl, -, -, h⟩
  replace H := Lib.hid (Below.step H.out h)
  replace hI2 := Lib.hid (hI2.out.below h)
  clear h
  go_wp2_with fail
  refine (of_ex [55296] [] false (by decide +kernel) (by decide +kernel) 1 rfl (by decide) _ _ rfl).mono ?_
  rintro e w5 ⟨rfl, h⟩
  replace h := Lib.hid ((((Below.refl _ w4).alloc (Nat.le_refl _) (.cells #[.int .i64 55296] 3))).trans (h.mono (by simp)))
  replace h := h.out
  replace H := Lib.hid (Below.step H.out h)
  replace hI2 := Lib.hid (hI2.out.below h)
  clear h
  go_wp2_with fail
  refine (sameI_ex A2 c2 _ hI2.out).mono ?_
  rintro e w6 ⟨rfl, h⟩
  replace h := Lib.hid ((((Below.refl _ w5).alloc (Nat.le_refl _) (.cells #[.int .i64 97, .int .i64 769, .int .i64 98] 3))).trans (h.mono (by simp)))
  replace h := h.out
  replace H := Lib.hid (Below.step H.out h)
  replace hI2 := Lib.hid (hI2.out.below h)
  clear h
  go_wp2_with fail
  refine (clusters_ex [97, 204, 129, 98] [[97, 204, 129], [98]] (by decide +kernel) (by decide) _ (HLL.out.below H.out)).mono ?_
  rintro e w7 ⟨A7, c7, rfl, -, hI7, h⟩
  replace H := Lib.hid (Below.step H.out h)
  replace hI2 := Lib.hid (hI2.out.below h)
  replace hI7 := Lib.hid hI7
  clear h
  go_wp2_with fail
  refine (equal_ex A7 c7 _ hI7.out).mono ?_
  rintro e w8 ⟨rfl, h⟩
  replace h := Lib.hid ((((Below.refl _ w7).alloc (Nat.le_refl _) (.cells #[.string ⟨#[97, 204, 129]⟩, .string ⟨#[98]⟩] 9))).trans (h.mono (by simp)))
  replace h := h.out
  replace H := Lib.hid (Below.step H.out h)
  replace hI2 := Lib.hid (hI2.out.below h)
  replace hI7 := Lib.hid (hI7.out.below h)
  clear h
  go_wp2_with fail
  refine (ord1 _ (HLL.out.below H.out)).mono ?_
  rintro e w9 ⟨rfl, h⟩
  replace H := Lib.hid (Below.step H.out h)
  replace hI2 := Lib.hid (hI2.out.below h)
  replace hI7 := Lib.hid (hI7.out.below h)
  clear h
  go_wp2_with fail
  refine (ord2 _ (HLL.out.below H.out)).mono ?_
  rintro e w10 ⟨rfl, h⟩
  replace H := Lib.hid (Below.step H.out h)
  replace hI2 := Lib.hid (hI2.out.below h)
  replace hI7 := Lib.hid (hI7.out.below h)
  clear h
  go_wp2_with fail
  refine (sam1 _ (HLL.out.below H.out)).mono ?_
  rintro e w11 ⟨rfl, h⟩
  replace H := Lib.hid (Below.step H.out h)
  replace hI2 := Lib.hid (hI2.out.below h)
  replace hI7 := Lib.hid (hI7.out.below h)
  clear h
  go_wp2_with fail
  refine (sam2 _ (HLL.out.below H.out)).mono ?_
  rintro e w12 ⟨rfl, h⟩
  replace H := Lib.hid (Below.step H.out h)
  replace hI2 := Lib.hid (hI2.out.below h)
  replace hI7 := Lib.hid (hI7.out.below h)
  clear h
  go_wp2_with fail
  refine (class_ex 803 220 (by decide +kernel) _).mono ?_
  rintro e w13 ⟨rfl, h⟩
  replace H := Lib.hid (Below.step H.out h)
  replace hI2 := Lib.hid (hI2.out.below h)
  replace hI7 := Lib.hid (hI7.out.below h)
  clear h
  go_wp2_with fail
  refine (class_ex 807 202 (by decide +kernel) _).mono ?_
  rintro e w14 ⟨rfl, h⟩
  replace H := Lib.hid (Below.step H.out h)
  replace hI2 := Lib.hid (hI2.out.below h)
  replace hI7 := Lib.hid (hI7.out.below h)
  clear h
  go_wp2_with fail
  refine (class_ex 879 230 (by decide +kernel) _).mono ?_
  rintro e w15 ⟨rfl, h⟩
  replace H := Lib.hid (Below.step H.out h)
  replace hI2 := Lib.hid (hI2.out.below h)
  replace hI7 := Lib.hid (hI7.out.below h)
  clear h
  go_wp2_with fail
  refine (class_ex 97 0 (by decide +kernel) _).mono ?_
  rintro e w16 ⟨rfl, h⟩
  replace H := Lib.hid (Below.step H.out h)
  replace hI2 := Lib.hid (hI2.out.below h)
  replace hI7 := Lib.hid (hI7.out.below h)
  clear h
  go_wp2
  go_ret
  exact Ret.mk rfl H.out
end Go.Proofs.YtmgdeckooiblaaaDoor
