/- The examples of the chapter. -/
import Derived.Test.YtpannehdgmcmkaaClockE
namespace Go.Proofs.Ytpannehdgmcmkaa
open Go.RowKit

theorem of_32 (w : World) : Calls Try.prog 11 #[.int .i64 32] w (Ret (.tuple #[.agg #[.int .i64 0, .int .i64 0], .bool false]) w) := of_any 32 w (by omega)
theorem of_35 (w : World) : Calls Try.prog 11 #[.int .i64 35] w (Ret (.tuple #[.agg #[.int .i64 2, .int .i64 3], .bool true]) w) := of_any 35 w (by omega)
theorem next_49 (w : World) (g : Nat) (hg : g = w.heap.size) : Calls Try.prog 30 #[.slice (some ⟨g, 0, none⟩) 2 2, .int .i64 1] (w.alloc (.cells #[.int .i64 4, .int .i64 9] 3)) (Ret (.tuple #[.agg #[.int .i64 10, .int .i64 1], .bool true]) (w.alloc (.cells #[.int .i64 4, .int .i64 9] 3))) :=
  next_any [4, 9] (some ⟨g, 0, none⟩) 2 1 _ (by subst hg; simpa using Ints.new w [4, 9] 3) (by intro x hx; simp at hx; exact ⟨by omega, by omega⟩)
theorem id_23 (w : World) : Calls Try.prog 17 #[.agg #[.int .i64 2, .int .i64 3]] w (Ret (.int .i64 35) w) := id_any 2 3 w
/-- Leq of two new lists. -/
theorem leq_new (a b : List Int) (w : World) (g g' : Nat) (hg : g = w.heap.size) (hg' : g' = w.heap.size + 1) : Calls Try.prog 23 #[.slice (some ⟨g, 0, none⟩) a.length a.length, .slice (some ⟨g', 0, none⟩) b.length b.length]
    ((w.alloc (.cells (a.map (Value.int .i64)).toArray 3)).alloc (.cells (b.map (Value.int .i64)).toArray 3))
    (Ret (.bool (leqTo a b 15)) ((w.alloc (.cells (a.map (Value.int .i64)).toArray 3)).alloc (.cells (b.map (Value.int .i64)).toArray 3))) :=
  leq_any a b _ _ _ _ _ (by subst hg; exact (Ints.new w a 3).alloc _) (by subst hg'; simpa using Ints.new (w.alloc (.cells (a.map (Value.int .i64)).toArray 3)) b 3)
theorem leq_1_10 (w : World) (g g' : Nat) (hg : g = w.heap.size) (hg' : g' = w.heap.size + 1) : Calls Try.prog 23 #[.slice (some ⟨g, 0, none⟩) 1 1, .slice (some ⟨g', 0, none⟩) 2 2]
    ((w.alloc (.cells #[.int .i64 1] 3)).alloc (.cells #[.int .i64 1, .int .i64 0] 3)) (Ret (.bool true) ((w.alloc (.cells #[.int .i64 1] 3)).alloc (.cells #[.int .i64 1, .int .i64 0] 3))) := leq_new [1] [1, 0] w g g' hg hg'
theorem leq_10_1 (w : World) (g g' : Nat) (hg : g = w.heap.size) (hg' : g' = w.heap.size + 1) : Calls Try.prog 23 #[.slice (some ⟨g, 0, none⟩) 2 2, .slice (some ⟨g', 0, none⟩) 1 1]
    ((w.alloc (.cells #[.int .i64 1, .int .i64 0] 3)).alloc (.cells #[.int .i64 1] 3)) (Ret (.bool true) ((w.alloc (.cells #[.int .i64 1, .int .i64 0] 3)).alloc (.cells #[.int .i64 1] 3))) := leq_new [1, 0] [1] w g g' hg hg'
theorem leq_02_1 (w : World) (g g' : Nat) (hg : g = w.heap.size) (hg' : g' = w.heap.size + 1) : Calls Try.prog 23 #[.slice (some ⟨g, 0, none⟩) 2 2, .slice (some ⟨g', 0, none⟩) 1 1]
    ((w.alloc (.cells #[.int .i64 0, .int .i64 2] 3)).alloc (.cells #[.int .i64 1] 3)) (Ret (.bool false) ((w.alloc (.cells #[.int .i64 0, .int .i64 2] 3)).alloc (.cells #[.int .i64 1] 3))) := leq_new [0, 2] [1] w g g' hg hg'
theorem covers_49 (w : World) (g : Nat) (hg : g = w.heap.size) : Calls Try.prog 21 #[.slice (some ⟨g, 0, none⟩) 2 2, .agg #[.int .i64 9, .int .i64 2]] (w.alloc (.cells #[.int .i64 4, .int .i64 9] 3)) (Ret (.bool true) (w.alloc (.cells #[.int .i64 4, .int .i64 9] 3))) :=
  covers_any [4, 9] (some ⟨g, 0, none⟩) 2 9 2 _ (by subst hg; simpa using Ints.new w [4, 9] 3)
theorem join_nils (w : World) : Calls Try.prog 26 #[.slice none 0 0, .slice none 0 0] w (RetRow (joinL [] []) w) := join_nil [] none 0 w (Ints.nil_ _ _)

set_option maxHeartbeats 400000 in
theorem awake_any (w : World) : Calls Try.prog 19 #[] w (Ret (.bool true) w) := by
  have hq := eql_st
  go_enter Try.func19, Try.ntmps19
  go_wp2_with fail
  refine (of_32 _).mono ?_
  rintro e w1 ⟨rfl, h1⟩
  go_wp2_with fail
  refine (of_35 _).mono ?_
  rintro e w2 ⟨rfl, h2⟩
  have z1 := h1.size
  have z2 := h2.size
  simp at z2
  go_wp2_with fail
  refine (next_49 _ _ (by simp)).mono ?_
  rintro e w3 ⟨rfl, h3⟩
  have c3 := (bcell h3).1
  have z3 := h3.size
  simp at z3
  go_wp2_with fail
  refine (id_23 _).mono ?_
  rintro e w4 ⟨rfl, h4⟩
  have c4 := (bcell h4).1
  have z4 := h4.size
  simp at z4
  have s0 : w4.cell? ⟨w2.heap.size, 0, none⟩ = some (.int .i64 2) := (c4 _ _ (by simp; omega)).trans ((World.cell?_alloc_past _ _ _ (by omega)).trans ((c3 _ _ (by simp; omega)).trans (by simp [go_sem])))
  have s1 : w4.cell? ⟨w2.heap.size, 1, none⟩ = some (.int .i64 3) := (c4 _ _ (by simp; omega)).trans ((World.cell?_alloc_past _ _ _ (by omega)).trans ((c3 _ _ (by simp; omega)).trans (by simp [go_sem])))
  have n0 : w4.cell? ⟨w3.heap.size, 0, none⟩ = some (.int .i64 10) := (c4 _ _ (by simp)).trans (by simp [go_sem])
  have n1 : w4.cell? ⟨w3.heap.size, 1, none⟩ = some (.int .i64 1) := (c4 _ _ (by simp)).trans (by simp [go_sem])
  have H : Below w.heap.size w w4 := (by repeat (first | assumption | exact Below.refl _ _ | refine Below.alloc ?_ (by first | omega | (simp; done) | (simp; omega)) _ | refine Below.setCell ?_ (by first | omega | (simp; done) | (simp; omega)) _ | refine Below.drew ?_ | refine Below.drewN_ ?_ _ | refine Below.step ?_ (by assumption)))
  clear c3 c4
  go_wp2_with fail
  refine (leq_1_10 _ _ _ (by simp) (by simp)).mono ?_
  rintro e w5 ⟨rfl, h5⟩
  have H5 : Below w.heap.size w w5 := (by repeat (first | assumption | exact Below.refl _ _ | refine Below.alloc ?_ (by first | omega | (simp; done) | (simp; omega)) _ | refine Below.setCell ?_ (by first | omega | (simp; done) | (simp; omega)) _ | refine Below.drew ?_ | refine Below.drewN_ ?_ _ | refine Below.step ?_ (by assumption)))
  have Z5 := H5.size
  go_wp2_with fail
  refine (leq_10_1 _ _ _ (by simp) (by simp)).mono ?_
  rintro e w6 ⟨rfl, h6⟩
  have H6 : Below w.heap.size w w6 := (by repeat (first | assumption | exact Below.refl _ _ | refine Below.alloc ?_ (by first | omega | (simp; done) | (simp; omega)) _ | refine Below.setCell ?_ (by first | omega | (simp; done) | (simp; omega)) _ | refine Below.drew ?_ | refine Below.drewN_ ?_ _ | refine Below.step ?_ (by assumption)))
  have Z6 := H6.size
  go_wp2_with fail
  refine (leq_02_1 _ _ _ (by simp) (by simp)).mono ?_
  rintro e w7 ⟨rfl, h7⟩
  have H7 : Below w.heap.size w w7 := (by repeat (first | assumption | exact Below.refl _ _ | refine Below.alloc ?_ (by first | omega | (simp; done) | (simp; omega)) _ | refine Below.setCell ?_ (by first | omega | (simp; done) | (simp; omega)) _ | refine Below.drew ?_ | refine Below.drewN_ ?_ _ | refine Below.step ?_ (by assumption)))
  have Z7 := H7.size
  go_wp2_with fail
  refine (covers_49 _ _ (by simp)).mono ?_
  rintro e w8 ⟨rfl, h8⟩
  have H8 : Below w.heap.size w w8 := (by repeat (first | assumption | exact Below.refl _ _ | refine Below.alloc ?_ (by first | omega | (simp; done) | (simp; omega)) _ | refine Below.setCell ?_ (by first | omega | (simp; done) | (simp; omega)) _ | refine Below.drew ?_ | refine Below.drewN_ ?_ _ | refine Below.step ?_ (by assumption)))
  have Z8 := H8.size
  go_wp2_with fail
  refine (join_nils _).mono ?_
  rintro e w9 ⟨g, cap, rfl, _, _, h9⟩
  go_wp2
  go_ret
  exact Ret.mk rfl (by repeat (first | assumption | exact Below.refl _ _ | refine Below.alloc ?_ (by first | omega | (simp; done) | (simp; omega)) _ | refine Below.setCell ?_ (by first | omega | (simp; done) | (simp; omega)) _ | refine Below.drew ?_ | refine Below.drewN_ ?_ _ | refine Below.step ?_ (by assumption)))
end Go.Proofs.Ytpannehdgmcmkaa
