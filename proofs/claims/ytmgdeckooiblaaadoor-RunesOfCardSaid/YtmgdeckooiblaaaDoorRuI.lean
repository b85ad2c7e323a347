/- Points of the code. -/
import Derived.Test.YtmgdeckooiblaaaDoorRuK
import Derived.Maps.OwnIn
namespace Go.Proofs.YtmgdeckooiblaaaDoor
open Go.RowKit Go.Shelf
attribute [local go_sem] Oper.semAt_some

theorem own_cells {w : World} {B n : Nat} {e : TypeId} {s : Nat} {v : Value} {xs : List Value} (h : w.ownsRow B e s v n xs) : ∀ (j : Nat) (o : Obj), v.ownBlock = some j → w.heap[j]? = some o → o.isCells = true := by
  intro j o hj ho
  rcases h.2 with ⟨rfl, _⟩ | ⟨g, cap, cur, rfl, _, hg, _⟩
  · cases hj
  · injection hj with hj
    subst hj
    rw [hg] at ho
    injection ho with ho
    subst ho; rfl
theorem own_from {w w' : World} {B n : Nat} {e : TypeId} {s : Nat} {v : Value} {xs : List Value} {row : Option Nat} (h : w.ownsRow B e s v n xs) (hg : w.grownBy w' row) (hr : ∀ r, row = some r → ∃ o : Obj, w.heap[r]? = some o ∧ o.isCells = false) : w'.ownsRow B e s v n xs := by
  refine h.kept hg ?_
  by_cases he : v.ownBlock = row
  · cases hv : v.ownBlock with
    | none => exact .inl rfl
    | some j =>
      obtain ⟨o, ho, hc⟩ := hr j (by rw [← he, hv])
      rw [own_cells h j o hv ho] at hc
      cases hc
  · exact .inr he
theorem own_ge {w : World} {B n : Nat} {e : TypeId} {s : Nat} {v : Value} {xs : List Value} (h : w.ownsRow B e s v n xs) {q : Nat} (hq : q < B) : some q ≠ v.ownBlock := by
  rcases h.2 with ⟨rfl, _⟩ | ⟨g, cap, cur, rfl, hb, _⟩
  · intro e; cases e
  · intro e; injection e with e; simp at e; omega

/-- The call returns a slice of ints of its own that reads as l, and a boolean. -/
def RetIO (l : List Int) (b : Bool) (w : World) (e : Ending) (w' : World) : Prop := ∃ A cap, e = .returned (.tuple #[.slice A l.length cap, .bool b]) ∧ w'.ownsRow w.heap.size 3 1 (.slice A l.length cap) l.length (l.map iv) ∧ Below w.heap.size w w'
theorem own_base {w : World} {B B' n : Nat} {e : TypeId} {s : Nat} {v : Value} {xs : List Value} (h : w.ownsRow B e s v n xs) (hB : B' ≤ B) : w.ownsRow B' e s v n xs := by
  refine ⟨h.1, ?_⟩
  rcases h.2 with h2 | ⟨g, cap, cur, h1, h2, h3⟩
  · exact .inl h2
  · exact .inr ⟨g, cap, cur, h1, Nat.le_trans hB h2, h3⟩
/-- Between two rounds of Points. -/
def PtI (b : Nat) (w1 : World) (pre : List (Nat × Nat)) (W : World) : Prop :=
  ∃ v, Boxed W b 24 v ∧ W.ownsRow b 3 1 v pre.length (pre.map fun x => iv (x.2 : Int)) ∧ Below b w1 W ∧ b + 2 ≤ W.heap.size
theorem PtI.from (b : Nat) (w1 : World) (hb : b = w1.heap.size) : OwnFrom (b + 2) (PtI b w1) := by
  rintro pre W W' row ⟨v, h1, h2, h3, h4⟩ hg hr
  refine ⟨v, h1.kept hg ?_, own_from h2 hg (fun r e => (hr r e).2), h3.grown hg (by omega) (fun k e => by have := (hr k e).1; omega), Nat.le_trans h4 hg.size⟩
  intro e; have := (hr b e.symm).1; omega

set_option maxRecDepth 100000 in
set_option maxHeartbeats 2000000 in
theorem points_none (s : List UInt8) (w : World) (kv : CallsIn Fence.wide 2 Tryd.prog 29 #[.string ⟨s.toArray⟩] w (Ret (.bool false) w)) :
    CallsIn Fence.wide 3 Tryd.prog 14 #[.string ⟨s.toArray⟩] w (RetIO [] false w) := by
  have h1 : 1 ≤ 3 := by omega
  have hf : Fence.wide.fn 14 := trivial
  have hfv : Fence.wide.fn 29 := trivial
  have hro : Fence.wide.round = none := rfl
  refine callsIn_of_wp_marks Tryd.func14 rfl hf ?_ hro
  simp only [Tryd.ntmps14, List.size_toArray, List.length_cons, List.length_nil, Nat.reduceAdd, Nat.reduceSub, Array.replicate_succ, Array.replicate_zero, List.push_toArray, List.append_toArray, List.nil_append, List.cons_append]
  gi_wp2_with (gi_at_call 29; refine kv.mono ?_; rintro e w1 ⟨rfl, hb1⟩)
  refine ⟨.tuple #[.slice none 0 0, .bool false], by simp [results, Tryd.results14, go_sem], none, 0, rfl, World.ownsRow_nil _ _ _ _, hb1⟩
set_option maxRecDepth 100000 in
set_option maxHeartbeats 2000000 in
theorem points_some (l : List Nat) (hl : (encs l).length ≤ 4000000) (hsc : ∀ p ∈ l, scal p) (w : World) (kv : CallsIn Fence.wide 2 Tryd.prog 29 #[.string ⟨(encs l).toArray⟩] w (Ret (.bool true) w)) :
    CallsIn Fence.wide 3 Tryd.prog 14 #[.string ⟨(encs l).toArray⟩] w (RetIO (zs l) true w) := by
  have h1 : 1 ≤ 3 := by omega
  have hf : Fence.wide.fn 14 := trivial
  have hfv : Fence.wide.fn 29 := trivial
  have hfs : Fence.wide.fn 30 := trivial
  have hro : Fence.wide.round = none := rfl
  obtain ⟨i0, hi0, hz0, hz1, hz2⟩ := info_parts info_int
  refine callsIn_of_wp_marks Tryd.func14 rfl hf ?_ hro
  simp only [Tryd.ntmps14, List.size_toArray, List.length_cons, List.length_nil, Nat.reduceAdd, Nat.reduceSub, Array.replicate_succ, Array.replicate_zero, List.push_toArray, List.append_toArray, List.nil_append, List.cons_append]
  gi_wp2_with (first | (gi_at_call 29; refine kv.mono ?_; rintro e w1 ⟨rfl, hb1⟩) | (gi_at_call 30; refine (scalars_in Fence.wide 2 trivial rfl _ _).mono ?_; rintro e w2 ⟨rfl, rfl⟩))
  obtain ⟨b, hb⟩ : ∃ b, b = w1.heap.size := ⟨_, rfl⟩
  rw [← hb]
  obtain ⟨W0, hW0⟩ : ∃ W0, ((w1.alloc (.cells #[.slice none 0 0] 24)).alloc (.cells #[.string ⟨(encs l).toArray⟩] 9)) = W0 := ⟨_, rfl⟩
  have hs0 : W0.heap.size = b + 2 := by rw [← hW0]; simp; omega
  have hB0 : Below b w1 W0 := by rw [← hW0, hb]; exact ((Below.refl _ _).alloc (Nat.le_refl _) _).alloc (by simp) _
  have hx0 : Boxed W0 b 24 (.slice none 0 0) := by rw [← hW0, hb]; exact (Boxed.new _ _ _).alloc _
  have hc0 : W0.cell? ⟨b + 1, 0, none⟩ = some (.string ⟨(encs l).toArray⟩) := by rw [← hW0, hb]; simp [go_sem]
  rw [hW0]
  have HB1 := Lib.hid hb1
  have HBW := Lib.hid hb
  clear hW0 hb1 hb
  refine wpIn_rangeFunc_ownF (α := Nat × Nat) hro h1 (gf := 43) (lb := #[.pointer (some ⟨b + 1, 0, none⟩)]) rfl trivial (enters_of Tryd.func43 (by kernel_rfl) rfl)
    (scalars_stops Fence.wide 2 trivial rfl (by omega) (b + 1) l hsc W0 (by omega) hc0) walksK_t (walksK_b (w := W0)) (Below.refl _ _) (fun _ => rfl)
    (PtI b w1) (fun _ _ _ => False) (by rw [hs0]; exact PtI.from b w1 HBW.out) (fun _ _ _ _ _ hs _ _ => hs) ⟨_, hx0, World.ownsRow_nil _ _ _ _, hB0, by omega⟩
    (fun x => { tmps := #[.string ⟨(encs l).toArray⟩, undef, .slice none 0 0, .bool false, .pointer (some ⟨b, 0, none⟩), undef, .int .i64 (x.2 : Int), .string ⟨(encs l).toArray⟩, .bool true, .bool false, .string ⟨(encs l).toArray⟩, .func (.func 43) #[] #[.pointer (some ⟨b + 1, 0, none⟩)], .int .i64 (x.1 : Int), .int .i64 (x.2 : Int), undef, undef, undef, undef, undef], defers := [] }) ?assign ?body ?done ?stop
  case assign =>
    rintro lp x W K hK
    obtain ⟨x1, x2⟩ := x
    dsimp only [encY]
    gi_wp2
    exact hK
  case body =>
    rintro lp pre x W ⟨v, hv, hrow, hbel, hsz⟩ hlen
    have hc := hv.cell
    have hfz := hv.frozen
    have hll := (encs_len l).1
    obtain ⟨A3, c3, rfl⟩ := own_form hrow
    have HR := Lib.hid hrow
    have hb3 : b ≤ W.heap.size := by omega
    gi_wp2_with (gi_at_builtin; (refine wpListIn_append_own_at _ rfl _ _ 24 rfl b 3 i0 (.int .i64 0) 1 8 Tryd.underlying24 hi0 hz0 hz1 hz2 rfl (by decide) _ _ _ rfl (HR.out.alloc _) ⟨W.heap.size, 0, none⟩ 1 1 [.int .i64 (x.2 : Int)] rfl rfl (cell_one_new _ _ _) (by simp [Value.oneCell']) (by simp only [maxLen]; omega) (by omega) (by simp; omega) ?_); intro v' w4 hown4 hgrow _ hat; obtain ⟨g', cap', rfl⟩ := ownsRow_succ hown4; obtain ⟨hv1, hv2, hr2, hk2, hb2⟩ := hv.appended (by decide) hrow hb3 (by omega) hown4 hgrow; have hc1 := hv1.cell; have hf1 := hv1.frozen)
    refine ⟨hk2, hk2.walks, _, hv2, ?_, hbel.trans hb2, Nat.le_trans hsz hb2.size⟩
    rw [List.length_append, List.map_append]
    exact hr2
  case done =>
    rintro D ys W hD rfl ⟨v, hv, hrow, hbel, hsz⟩ hK
    have hc := hv.cell
    obtain ⟨A3, c3, rfl⟩ := own_form hrow
    have hlen : (prs 0 l).length = (zs l).length := by
      have : ∀ (m : List Nat) a, (prs a m).length = m.length := by
        intro m; induction m with
        | nil => intro a; rfl
        | cons q m ih => intro a; simp [prs, ih]
      rw [this]; simp [zs]
    have hmap : ((prs 0 l).map fun x => iv (x.2 : Int)) = (zs l).map iv := by
      have : ∀ (m : List Nat) a, ((prs a m).map fun x => iv (x.2 : Int)) = (zs m).map iv := by
        intro m; induction m with
        | nil => intro a; rfl
        | cons q m ih => intro a; simp [prs, zs] at ih ⊢; exact ih _
      exact this l 0
    rw [hmap, hlen] at hrow
    rw [hlen] at hc
    have HRo := Lib.hid hrow
    have HK := Lib.hid hK
    clear hmap hrow hK
    gi_wp2
    refine ⟨by simp, .inl ⟨_, _, rfl, run_takeDeferred HK.out, ?_⟩⟩
    have hrow7 : (W.putObj D (.deferred none)).ownsRow b 3 1 (.slice A3 (zs l).length c3) (zs l).length ((zs l).map iv) := ownsRow_putObj HRo.out _ HK.out rfl
    have hB7 : Below b w1 (W.putObj D (.deferred none)) := hbel.grown (grownBy_putObj' W D _) (by omega) (fun k e => by cases e; omega)
    refine ⟨.tuple #[.slice A3 (zs l).length c3, .bool true], by simp [results, Tryd.results14, go_sem], A3, c3, rfl, own_base hrow7 (by rw [HBW.out]; exact HB1.out.size), Below.step HB1.out (by rw [← HBW.out]; exact hB7)⟩
  case stop =>
    rintro D c pre W _ _ h _
    exact h.elim
theorem points_own (s : List UInt8) (hl : s.length ≤ 4000000) (w : World) (hL : Laid w) : Calls Tryd.prog 14 #[.string ⟨s.toArray⟩] w (RetIO (ptV s) (ptB s) w) := by
  have kv : CallsIn Fence.wide 2 Tryd.prog 29 #[.string ⟨s.toArray⟩] w (Ret (.bool (ptB s)) w) := callsIn_wide.2 (valid_any s hl w hL)
  cases hp : pts s with
  | none =>
    obtain ⟨e1, e2⟩ := pt_none hp
    rw [e2] at kv
    rw [e1, e2]
    exact callsIn_wide.1 (points_none s w kv)
  | some l =>
    obtain ⟨e1, e2⟩ := pt_some hp
    obtain ⟨g1, g2⟩ := pts_encs hp
    rw [e2] at kv
    rw [e1, e2]
    rw [← g1] at hl kv ⊢
    exact callsIn_wide.1 (points_some l hl g2 w kv)
theorem points_any (s : List UInt8) (hl : s.length ≤ 4000000) (w : World) (hL : Laid w) : Calls Tryd.prog 14 #[.string ⟨s.toArray⟩] w (RetIB (ptV s) (ptB s) w) :=
  (points_own s hl w hL).mono fun _ _ ⟨A, cap, e, ho, hb⟩ => ⟨A, cap, e, (own_cap ho).2, Reads.of_own ho, hb⟩
end Go.Proofs.YtmgdeckooiblaaaDoor
