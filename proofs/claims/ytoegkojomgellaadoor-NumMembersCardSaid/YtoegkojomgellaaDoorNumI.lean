/- The examples of the chapter; few. -/
import Derived.Test.YtoegkojomgellaaDoorNumH
namespace Go.Proofs.YtoegkojomgellaaDoor
open Go.RowKit

theorem parse_is {l : List UInt8} {v : Int} {b : Bool} (hv : pz l = v) (hb : pb l = b) (hl : l.length ≤ 300) (w : World) (hL : Laid w) : Calls Tryd.prog 14 #[.string ⟨l.toArray⟩] w (Ret (.tuple #[.int .i64 v, .bool b]) w) := by
  rw [← hv, ← hb]; exact parse_any l hl w hL
theorem x1 (w : World) (hL : Laid w) : Calls Tryd.prog 14 #[.string ⟨#[45, 49, 50, 48]⟩] w (Ret (.tuple #[.int .i64 (-120), .bool true]) w) := parse_is (l := [45, 49, 50, 48]) (by decide +kernel) (by decide +kernel) (by decide) w hL
theorem x2 (w : World) (hL : Laid w) : Calls Tryd.prog 14 #[.string ⟨#[48, 48, 55]⟩] w (Ret (.tuple #[.int .i64 0, .bool false]) w) := parse_is (l := [48, 48, 55]) (by decide +kernel) (by decide +kernel) (by decide) w hL
theorem x3 (w : World) (hL : Laid w) : Calls Tryd.prog 14 #[.string ⟨#[]⟩] w (Ret (.tuple #[.int .i64 0, .bool false]) w) := parse_is (l := []) (by decide +kernel) (by decide +kernel) (by decide) w hL
theorem x4 (w : World) (hL : Laid w) : Calls Tryd.prog 16 #[.int .i64 (-120)] w (Ret (.string ⟨#[45, 49, 50, 48]⟩) w) := by
  have h := text_any (-120) ⟨by omega, by omega⟩ w hL
  rw [show Lib.itoa (-120) = [45, 49, 50, 48] by decide +kernel] at h
  exact h
theorem x5 (w : World) : Calls Tryd.prog 11 #[.int .i64 7, .int .i64 1, .int .i64 5] w (Ret (.int .i64 5) w) := clip_any 7 1 5 w
theorem x6 (w : World) : Calls Tryd.prog 11 #[.int .i64 7, .int .i64 9, .int .i64 5] w (Ret (.int .i64 9) w) := clip_any 7 9 5 w
theorem x7 (w : World) (g g' : Nat) (hg : g = w.heap.size) (hg' : g' = w.heap.size + 1) : Calls Tryd.prog 26 #[.slice (some ⟨g, 0, none⟩) 4 4, .slice (some ⟨g', 0, none⟩) 1 1]
    ((w.alloc (.cells #[.int .i64 4, .int .i64 2, .int .i64 2, .int .i64 9] 3)).alloc (.cells #[.int .i64 9] 3))
    (RetInts 3 [2, 4] ((w.alloc (.cells #[.int .i64 4, .int .i64 2, .int .i64 2, .int .i64 9] 3)).alloc (.cells #[.int .i64 9] 3))) := by
  subst hg hg'
  have h := minus_any [4, 2, 2, 9] [9] (some ⟨w.heap.size, 0, none⟩) (some ⟨w.heap.size + 1, 0, none⟩) 4 1 ((w.alloc (.cells #[.int .i64 4, .int .i64 2, .int .i64 2, .int .i64 9] 3)).alloc (.cells #[.int .i64 9] 3))
    ((Ints.new w [4, 2, 2, 9] 3).alloc _) (by simpa using Ints.new (w.alloc (.cells #[.int .i64 4, .int .i64 2, .int .i64 2, .int .i64 9] 3)) [9] 3) (by decide) (by decide)
  rw [show minus [4, 2, 2, 9] [9] = [2, 4] by decide +kernel] at h
  exact h
theorem x8 (w : World) (A : Option Addr) (c g : Nat) (hg : g = w.heap.size) (h : Ints w A [2, 4]) : Calls Tryd.prog 19 #[.slice A 2 c, .slice (some ⟨g, 0, none⟩) 2 2] (w.alloc (.cells #[.int .i64 2, .int .i64 4] 3)) (Ret (.bool true) (w.alloc (.cells #[.int .i64 2, .int .i64 4] 3))) := by
  subst hg
  exact same_yes [2, 4] A _ c 2 _ (h.alloc _) (Ints.new w [2, 4] 3) (by decide)
theorem x9 (w : World) (g : Nat) (hg : g = w.heap.size) : Calls Tryd.prog 22 #[.slice (some ⟨g, 0, none⟩) 2 2, .int .i64 2] (w.alloc (.cells #[.int .i64 4, .int .i64 2] 3)) (Ret (.bool true) (w.alloc (.cells #[.int .i64 4, .int .i64 2] 3))) := by
  subst hg
  exact has_any [4, 2] _ 2 2 _ (Ints.new w [4, 2] 3) (by decide)

set_option maxRecDepth 20000 in
set_option maxHeartbeats 2000000 in
theorem awake_any (w : World) (hL : Laid w) : Calls Tryd.prog 13 #[] w (Ret (.bool true) w) := by
  go_enter Tryd.func13, Tryd.ntmps13
  go_wp2_with fail
  refine (x1 _ hL).mono ?_
  rintro e w1 ⟨rfl, h1⟩
  go_wp2_with fail
  refine (x2 _ (hL.below h1)).mono ?_
  rintro e w2 ⟨rfl, h2⟩
  have H2 := Below.step h1 h2
  go_wp2_with fail
  refine (x3 _ (hL.below H2)).mono ?_
  rintro e w3 ⟨rfl, h3⟩
  have H3 := Below.step H2 h3
  go_wp2_with fail
  refine (x5 _).mono ?_
  rintro e w4 ⟨rfl, h4⟩
  have H4 := Below.step H3 h4
  go_wp2_with fail
  refine (x6 _).mono ?_
  rintro e w5 ⟨rfl, h5⟩
  have H5 := Below.step H4 h5
  go_wp2_with fail
  refine (x4 _ (hL.below H5)).mono ?_
  rintro e w6 ⟨rfl, h6⟩
  have H6 := Below.step H5 h6
  have Z6 := H6.size
  clear h1 h2 h3 h4 h5 h6 H2 H3 H4 H5
  go_wp2_with fail
  refine (x7 w6 _ _ (by simp) (by simp)).mono ?_
  rintro e w7 ⟨A7, c7, rfl, o7, h7⟩
  have H7 : Below w.heap.size w w7 := (by repeat (first | assumption | exact Below.refl _ _ | refine Below.alloc ?_ (by first | omega | (simp; done) | (simp; omega)) _ | refine Below.setCell ?_ (by first | omega | (simp; done) | (simp; omega)) _ | refine Below.drew ?_ | refine Below.drewN_ ?_ _ | refine Below.step ?_ (by assumption)))
  have i7 : Ints w7 A7 [2, 4] := Ints.of_own o7
  have Z7 := H7.size
  clear o7 h7
  go_wp2_with fail
  refine (x8 w7 A7 c7 _ (by simp) i7).mono ?_
  rintro e w8 ⟨rfl, h8⟩
  have H8 : Below w.heap.size w w8 := (by repeat (first | assumption | exact Below.refl _ _ | refine Below.alloc ?_ (by first | omega | (simp; done) | (simp; omega)) _ | refine Below.setCell ?_ (by first | omega | (simp; done) | (simp; omega)) _ | refine Below.drew ?_ | refine Below.drewN_ ?_ _ | refine Below.step ?_ (by assumption)))
  have Z8 := H8.size
  clear h8
  go_wp2_with fail
  refine (x9 w8 _ (by simp)).mono ?_
  rintro e w9 ⟨rfl, h9⟩
  have H9 : Below w.heap.size w w9 := (by repeat (first | assumption | exact Below.refl _ _ | refine Below.alloc ?_ (by first | omega | (simp; done) | (simp; omega)) _ | refine Below.setCell ?_ (by first | omega | (simp; done) | (simp; omega)) _ | refine Below.drew ?_ | refine Below.drewN_ ?_ _ | refine Below.step ?_ (by assumption)))
  go_wp2
  go_ret
  exact Ret.mk rfl H9

theorem few_any (a b : List Int) (A B : Option Addr) (ca cb : Nat) (w : World) (x : Bool) (h : (decide (a.length ≤ 200) && decide (b.length ≤ 200)) = x) : Calls Tryd.prog 18 #[.slice A a.length ca, .slice B b.length cb] w (Ret (.bool x) w) := by
  by_cases h1 : a.length ≤ 200
  · by_cases h2 : b.length ≤ 200
    · have hx : Hid (x = true) := Lib.hid (by rw [← h]; simp [h1, h2])
      have h1' : (a.length : Int) ≤ 200 := by omega
      have h2' : (b.length : Int) ≤ 200 := by omega
      clear h
      go_enter Tryd.func18, Tryd.ntmps18
      go_wp2
      go_ret
      exact Ret.mk (by rw [hx.out]; rfl) (Below.refl _ _)
    · have hx : Hid (x = false) := Lib.hid (by rw [← h]; simp [h2])
      have h1' : (a.length : Int) ≤ 200 := by omega
      have h2' : ¬ (b.length : Int) ≤ 200 := by omega
      clear h
      go_enter Tryd.func18, Tryd.ntmps18
      go_wp2
      go_ret
      exact Ret.mk (by rw [hx.out]; rfl) (Below.refl _ _)
  · have hx : Hid (x = false) := Lib.hid (by rw [← h]; simp [h1])
    have h1' : ¬ (a.length : Int) ≤ 200 := by omega
    clear h
    go_enter Tryd.func18, Tryd.ntmps18
    go_wp2
    go_ret
    exact Ret.mk (by rw [hx.out]; rfl) (Below.refl _ _)
end Go.Proofs.YtoegkojomgellaaDoor
