/- At of the code: a loop over the iterator. -/
import Derived.Test.YthbagggcfdgnfaaCnG
namespace Go.Proofs.Ythbagggcfdgnfaa
open Go.RowKit Go.Shelf
attribute [local go_sem] Oper.semAt_some

/-- What a given consent makes of the kind. -/
def stepD (d k : Int) (c : Cn) : Int := if c.d ≤ d then c.k else k
theorem at_given (l : List Cn) (p r d : Int) : (givenL l p r l.length).foldl (stepD d) 0 = atK l p r d := by
  unfold givenL atK
  rw [List.take_length, List.foldl_filter]
  have : (fun (x : Int) (y : Cn) => if fits y p r = true then stepD d x y else x) = stepK p r d := by
    funext x y
    unfold stepD stepK
    cases fits y p r <;> simp
  rw [this]

set_option maxRecDepth 100000 in
set_option maxHeartbeats 2000000 in
theorem at_in (F : Fence) (n : Nat) (hf : F.fn 15) (hg : F.fn 29) (hg1 : F.fn 35) (hro : F.round = none) (hn : 3 ≤ n) (l : List Cn) (A : Option Addr) (cap : Nat) (p r d : Int) (w : World) (ha : Cons w A l) (hl : l.length ≤ 100000) :
    CallsIn F n Try.prog 15 #[.slice A l.length cap, .int .i64 p, .int .i64 r, .int .i64 d] w (Ret (.int .i64 (atK l p r d)) w) := by
  have h1 : 1 ≤ n := by omega
  have HK := Lib.hid (at_given l p r d)
  refine callsIn_of_wp_marks Try.func15 rfl hf ?_ hro
  simp only [Try.ntmps15, List.size_toArray, List.length_cons, List.length_nil, Nat.reduceAdd, Nat.reduceSub, Array.replicate_succ, Array.replicate_zero, List.push_toArray, List.append_toArray, List.nil_append, List.cons_append]
  gi_wp2_with (gi_at_call 29; refine (given_in F (n - 1) hg hro _ _ _ _ _ _).mono ?_; rintro e w' ⟨rfl, rfl⟩)
  obtain ⟨W0, hW0⟩ : ∃ W0, ((((w.alloc (.cells #[.int .i64 d] 3)).alloc (.cells #[.int .i64 0] 3)).alloc (.cells #[.slice A l.length cap] 23)).alloc (.cells #[.int .i64 p] 3)).alloc (.cells #[.int .i64 r] 3) = W0 := ⟨_, rfl⟩
  have hs0 : W0.heap.size = w.heap.size + 5 := by rw [← hW0]; simp
  have hB0 : Below w.heap.size w W0 := by rw [← hW0]; exact (by repeat (first | assumption | exact Below.refl _ _ | refine Below.alloc ?_ (by first | omega | (simp; done) | (simp; omega)) _ | refine Below.setCell ?_ (by first | omega | (simp; done) | (simp; omega)) _ | refine Below.drew ?_ | refine Below.drewN_ ?_ _ | refine Below.step ?_ (by assumption)))
  have c0 : W0.cell? ⟨w.heap.size, 0, none⟩ = some (.int .i64 d) := by rw [← hW0]; simp [go_sem]
  have c1 : W0.cell? ⟨w.heap.size + 1, 0, none⟩ = some (.int .i64 0) := by rw [← hW0]; simp [go_sem]
  have f1 : W0.frozen? ⟨w.heap.size + 1, 0, none⟩ = false := by rw [← hW0]; simp [go_sem]
  have c2 : W0.cell? ⟨w.heap.size + 2, 0, none⟩ = some (.slice A l.length cap) := by rw [← hW0]; simp [go_sem]
  have c3 : W0.cell? ⟨w.heap.size + 3, 0, none⟩ = some (.int .i64 p) := by rw [← hW0]; simp [go_sem]
  have c4 : W0.cell? ⟨w.heap.size + 4, 0, none⟩ = some (.int .i64 r) := by rw [← hW0]; simp [go_sem]
  rw [hW0]
  refine wpIn_rangeFunc_ownH hro h1 (gf := 35) (lb := #[.pointer (some ⟨w.heap.size + 2, 0, none⟩), .pointer (some ⟨w.heap.size + 2 + 1, 0, none⟩), .pointer (some ⟨w.heap.size + 2 + 2, 0, none⟩)]) rfl hg1 (enters_of Try.func35 (by kernel_rfl) rfl)
    (given_stops F (n - 1) hg1 hro (by omega) (w.heap.size + 2) A cap p r l w ha hl W0 hB0 (by omega) c2 c3 c4) KpG.trans (KpG.putObj (by omega) (by omega)) (Below.refl _ _) (fun _ => rfl)
    (fun pre W => (W.cell? ⟨w.heap.size, 0, none⟩ = some (.int .i64 d) ∧ W.cell? ⟨w.heap.size + 1, 0, none⟩ = some (.int .i64 (pre.foldl (stepD d) 0)) ∧ W.frozen? ⟨w.heap.size + 1, 0, none⟩ = false ∧ w.heap.size + 5 ≤ W.heap.size) ∧ Below w.heap.size w W)
    (fun _ _ _ => False)
    (OwnFrom.and (Own.from (fun s A B row hs hg hr => ⟨cell_kept hs.1 hg hr, cell_kept hs.2.1 hg hr, (frozen_kept hs.2.1 hg hr).trans hs.2.2.1, Nat.le_trans hs.2.2.2 hg.size⟩) _) (ownFrom_below (Nat.le_refl _) (by omega)))
    (fun _ _ _ _ _ hs _ _ => hs)
    ⟨⟨c0, c1, f1, by omega⟩, hB0⟩
    (fun x a' W => ∃ Bx, w.heap.size + 5 ≤ Bx ∧ (W.cell? ⟨Bx, 2, none⟩ = some (.int .i64 x.d) ∧ W.cell? ⟨Bx, 3, none⟩ = some (.int .i64 x.k)) ∧ a' = { tmps := #[.slice A l.length cap, .int .i64 p, .int .i64 r, .int .i64 d, undef, undef, undef, .pointer (some ⟨w.heap.size, 0, none⟩), .int .i64 0, .pointer (some ⟨w.heap.size + 1, 0, none⟩),
      .pointer (some ⟨Bx, 0, none⟩), .slice A l.length cap, .int .i64 p, .int .i64 r, .func (.func 35) #[] #[.pointer (some ⟨w.heap.size + 1 + 1, 0, none⟩), .pointer (some ⟨w.heap.size + 1 + 1 + 1, 0, none⟩), .pointer (some ⟨w.heap.size + 1 + 1 + 2, 0, none⟩)], .agg #[.int .i64 x.p, .int .i64 x.r, .int .i64 x.d, .int .i64 x.k], undef, undef, undef, undef, undef, undef, undef], defers := [] })
    (fun x a' => Own.from (fun _ A B row hs hg hr => by
      obtain ⟨Bx, h1, h2, h3⟩ := hs
      exact ⟨Bx, h1, ⟨cell_kept h2.1 hg hr, cell_kept h2.2 hg hr⟩, h3⟩) _) ?assign ?body ?done ?stop
  case assign =>
    rintro lp pre x W K ⟨⟨b0, b1, g1, hz⟩, hB⟩ hK
    gi_wp2
    exact hK _ _ ((KeepsOthers.alloc _ _).from _) ⟨(Below.refl _ W).alloc (by omega) _, fun b _ h2 => World.cell?_alloc_lt _ _ _ (by show b < _; omega)⟩
      ⟨⟨cell_kept b0 (World.grownBy_alloc W _ none) (fun r e => by cases e), cell_kept b1 (World.grownBy_alloc W _ none) (fun r e => by cases e), (frozen_kept b1 (World.grownBy_alloc W _ none) (fun r e => by cases e)).trans g1, by simp; omega⟩, hB.alloc (by omega) _⟩
      ⟨W.heap.size, hz, ⟨by simp [go_sem], by simp [go_sem]⟩, rfl⟩
  case body =>
    rintro lp pre x a' W _ _ ⟨⟨b0, b1, g1, hz⟩, hB⟩ ⟨Bx, hBx, ⟨x2, x3⟩, rfl⟩ _
    have HS : Hid ((pre ++ [x]).foldl (stepD d) 0 = stepD d (pre.foldl (stepD d) 0) x) := Lib.hid (by rw [List.foldl_append]; rfl)
    have hx1 := lt_of_cell x2
    by_cases hd : x.d ≤ d
    · have HV := Lib.hid (show stepD d (pre.foldl (stepD d) 0) x = x.k by unfold stepD; rw [if_pos hd])
      gi_wp2
      refine ⟨(KeepsOthers.setCell _ _ _).from _, ⟨(Below.refl w.heap.size W).setCell (p := ⟨w.heap.size + 1, 0, none⟩) (by simp) _, fun b h1 h2 => World.cell?_setCell_other _ _ _ _ (by first | (simp; done) | (simp; omega))⟩,
        ⟨(World.cell?_setCell_other _ _ _ _ (by simp)).trans b0, by rw [HS.out, HV.out]; exact World.cell?_setCell_same' _ _ _ (by rw [b1]; rfl), by rw [World.frozen?_setCell]; exact g1, by first | (simp; done) | (simp; omega)⟩, hB.setCell (p := ⟨w.heap.size + 1, 0, none⟩) (by simp) _⟩
    · have HV := Lib.hid (show stepD d (pre.foldl (stepD d) 0) x = pre.foldl (stepD d) 0 by unfold stepD; rw [if_neg hd])
      gi_wp2
      refine ⟨KeepsFrom.refl _ _, ⟨Below.refl _ _, fun b h1 h2 => rfl⟩, ⟨b0, by rw [HS.out, HV.out]; exact b1, g1, hz⟩, hB⟩
  case done =>
    rintro D ys W hD rfl ⟨⟨_, b1, g1, _⟩, hB⟩ hK
    gi_wp2
    refine ⟨by simp, .inl ⟨_, _, rfl, run_takeDeferred hK, ?_⟩⟩
    exact ⟨_, results_tmp rfl _ _ _, (by rw [HK.out]; rfl), hB.trans (belowK_b (w := w) (Nat.le_refl _) W D _ _ (by omega) hK rfl rfl)⟩
  case stop =>
    rintro D c pre W _ _ h _
    exact h.elim

theorem at_any (l : List Cn) (A : Option Addr) (cap : Nat) (p r d : Int) (w : World) (ha : Cons w A l) (hl : l.length ≤ 100000) :
    Calls Try.prog 15 #[.slice A l.length cap, .int .i64 p, .int .i64 r, .int .i64 d] w (Ret (.int .i64 (atK l p r d)) w) :=
  callsIn_wide.1 (at_in Fence.wide 3 trivial trivial trivial rfl (Nat.le_refl _) l A cap p r d w ha hl)
end Go.Proofs.Ythbagggcfdgnfaa
