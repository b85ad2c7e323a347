/- Split of the code: a loop over strings.SplitSeq. The iterator writes its own box, so the library's laws of a range over a function (which let the iterator turn nothing that lay before its call) do not serve: the loop is opened by wpIn_rangeFunc itself. -/
import Derived.Test.YtdjlfbfipkalbaaDoorWoJ
import Derived.Maps.OwnIn
namespace Go.Proofs.YtdjlfbfipkalbaaDoor
open Go.RowKit Go.Shelf
attribute [local go_sem] Oper.semAt_some

/-- Between two rounds: the block of the rounds' deferred calls, the collected strings, the results' boxes. -/
structure St (b D : Nat) (w : World) (out : List (List UInt8)) (W : World) : Prop where
  dfr : W.heap[D]? = some (.deferred (some []))
  row : ∃ v, Boxed W (b + 2) 28 v ∧ W.ownsRow b 9 1 v out.length (out.map sv) ∧ ∀ q, b ≤ q → q < D + 2 → some q ≠ v.ownBlock
  res : ∃ r0 r1, Boxed W b 28 r0 ∧ Boxed W (b + 1) 4 r1
  bel : Below b w W
  siz : D + 2 ≤ W.heap.size
/-- Once a round has returned. -/
structure StX (b D : Nat) (w : World) (W : World) : Prop where
  dfr : W.heap[D]? = some (.deferred (some []))
  r0 : Boxed W b 28 (.slice none 0 0)
  r1 : Boxed W (b + 1) 4 (.bool false)
  bel : Below b w W

theorem St.grown {b D : Nat} {w : World} {out : List (List UInt8)} {W W' : World} {row : Option Nat} (h : St b D w out W) (hD : b + 6 ≤ D) (hw : b = w.heap.size) (hg : W.grownBy W' row) (hr : ∀ r, row = some r → r = b + 3 ∨ r = D + 1) : St b D w out W' := by
  have hsz := h.siz
  have hne : ∀ q, q < D + 1 → q ≠ b + 3 → some q ≠ row := fun q h1 h2 e => by rcases hr q e.symm with h | h <;> omega
  obtain ⟨v, h1, h2, h3⟩ := h.row
  obtain ⟨r0, r1, h4, h5⟩ := h.res
  refine ⟨(hg.block D (by omega) (hne D (by omega) (by omega))).trans h.dfr, ⟨v, h1.kept hg (hne _ (by omega) (by omega)), h2.kept hg ?_, h3⟩, ⟨r0, r1, h4.kept hg (hne _ (by omega) (by omega)), h5.kept hg (hne _ (by omega) (by omega))⟩, h.bel.grown hg (by omega) (fun k e => by rcases hr k e with h | h <;> omega), Nat.le_trans h.siz hg.size⟩
  cases row with
  | none =>
    cases hv : v.ownBlock with
    | none => exact .inl rfl
    | some g => exact .inr (by simp)
  | some r =>
    right
    rcases hr r rfl with rfl | rfl
    · exact fun e => h3 (b + 3) (by omega) (by omega) e.symm
    · exact fun e => h3 (D + 1) (by omega) (by omega) e.symm
theorem St.below {b D : Nat} {w : World} {out : List (List UInt8)} {W W' : World} (h : St b D w out W) (hD : b + 6 ≤ D) (hw : b = w.heap.size) (hb : Below W.heap.size W W') : St b D w out W' :=
  h.grown hD hw (row := none) ⟨hb.os, hb.tape, hb.output, hb.size, fun k hk _ => hb.block k hk⟩ (fun r e => by cases e)

theorem Kept3.trans {B : Nat} {W1 W2 W3 : World} (h : Kept3 B W1 W2) (k : Kept3 B W2 W3) : Kept3 B W1 W3 := fun q h1 h2 => ⟨(k q h1 h2).1.trans (h q h1 h2).1, (k q h1 h2).2.trans (h q h1 h2).2⟩
theorem Kept3.of_blocks {B : Nat} {W W' : World} (h : ∀ q, B ≤ q → q < B + 3 → W'.heap[q]? = W.heap[q]?) : Kept3 B W W' := fun q h1 h2 => ⟨World.cell?_of_block (h q h1 h2), World.frozen?_of_block (h q h1 h2)⟩
theorem pcs_len (c : UInt8) : ∀ (l : List UInt8), (pcs c l).length ≤ l.length + 1 ∧ ∀ p ∈ pcs c l, p.length ≤ l.length
  | [] => ⟨by simp [pcs], by simp [pcs]⟩
  | b :: r => by
    obtain ⟨q, ps, hq⟩ := pcs_some c r
    have ih := pcs_len c r
    by_cases hb : b = c
    · subst hb
      rw [pcs_eq]
      refine ⟨by simp; exact ih.1, fun p hp => ?_⟩
      rcases List.mem_cons.1 hp with rfl | hp
      · simp
      · have := ih.2 p hp; simp; omega
    · rw [hq] at ih
      rw [pcs_other hb hq]
      refine ⟨by have := ih.1; simp at this ⊢; omega, fun p hp => ?_⟩
      rcases List.mem_cons.1 hp with rfl | hp
      · have := ih.2 q (by simp); simp; omega
      · have := ih.2 p (by simp [hp]); simp; omega
theorem boxed_at' {W : World} {b : Nat} (t : TypeId) (v : Value) (h : b = W.heap.size) : Boxed (W.alloc (.cells #[v] t)) b t v := by subst h; exact Boxed.new _ _ _

/-- The record of a loop at the outermost level. -/
def recOf (fn : FuncId) (tmps : Array Value) (ps : Array Tmp) (assign body : Code) (D : Nat) (st : LoopState) (pe : Option Code) : Loop :=
  { state := st, pending := pe, fn, tmps, params := ps, assign, body, defers := D }
/-- An outermost loop over a closure: its iterator's call, in the world with the loop's two blocks. -/
theorem range_open {F : Fence} {n : Nat} {P : Program} {g : Operand} {ps : Array Tmp} {assign body : Code} {Q : Exit → Act → World → Prop} {a : Act} {w : World} {gf : Nat} {lb : Array Value}
    (hro : F.round = none) (h1 : 1 ≤ n) (hg : a.eval g = .func (.func gf) #[] lb) (hFg : F.fn gf) (eg : ∀ args w, (callFunc gf args).run P w = .ok (.enter gf args) w)
    (h : ∀ fn, F.fn fn → ∀ rec, rec = recOf fn a.tmps ps assign body w.heap.size → CallsIn F (n - 1) P gf (#[.func (.yield (w.heap.size + 1)) #[] #[]] ++ lb) ((w.alloc (.deferred (some []))).alloc (.loop (rec .ready none)))
      (rangePost F n P (w.heap.size + 1) Q { a with defers := [{ target := .collected w.heap.size, args := #[] }] ++ a.defers })) :
    (Code.rangeFunc g ps assign body).wpIn F n P Q a w := by
  refine wpIn_rangeFunc fun fn hfn => ?_
  rw [hro]
  refine ⟨_, _, _, { target := .fn (.func gf) lb, args := #[.func (.yield (w.heap.size + 1)) #[] #[]] }, (w.alloc (.deferred (some []))).alloc (.loop (recOf fn a.tmps ps assign body w.heap.size .ready none)), gf, _, (w.alloc (.deferred (some []))).alloc (.loop (recOf fn a.tmps ps assign body w.heap.size .ready none)), run_enterLoop_outer _ _ _ _ _, ?_, ?_, ?_, fun _ => h1, h fn hfn _ rfl⟩
  · simp only [resolve, hg]
    simp [recOf, go_sem]
  · intro f' hf'
    simp [Target.leads] at hf'
    exact hf' ▸ hFg
  · simp [invoke, go_sem, eg]

/-- The pieces, one by one. -/
theorem allU_snoc (a : List (List UInt8)) (x : List UInt8) : allU (a ++ [x]) = match allU a, unquote x with | some l, some y => some (l ++ [y]) | _, _ => none := by
  induction a with
  | nil => simp only [List.nil_append, allU]; cases unquote x <;> simp
  | cons p a ih =>
    show allU (p :: (a ++ [x])) = _
    rw [allU, allU, ih]
    cases unquote p with
    | none => rfl
    | some q =>
      cases allU a with
      | none => rfl
      | some l => cases unquote x <;> rfl
theorem allU_prefix (a r : List (List UInt8)) (h : allU a = none) : allU (a ++ r) = none := by
  induction a with
  | nil => cases h
  | cons p a ih =>
    show allU (p :: (a ++ r)) = _
    rw [allU] at h ⊢
    cases hp : unquote p with
    | none => rfl
    | some q =>
      rw [hp] at h
      cases ha : allU a with
      | none => rw [ih ha]; rfl
      | some l => rw [ha] at h; cases h

set_option maxRecDepth 100000 in
set_option maxHeartbeats 4000000 in
theorem split_in (s : List UInt8) (hl : s.length ≤ 4000000) (w : World) (h0 : s ≠ []) :
    CallsIn Fence.wide 3 Tryd.prog 22 #[.string ⟨s.toArray⟩] w (RetSB (spV s) (spB s) w) := by
  have h1 : 1 ≤ 3 := by omega
  have hf : Fence.wide.fn 22 := trivial
  have hfs : Fence.wide.fn 36 := trivial
  have hfu : Fence.wide.fn 16 := trivial
  have hro : Fence.wide.round = none := rfl
  have he : s.isEmpty = false := by simpa using h0
  have HN : Hid (allU (pcs 32 s) = none → spV s = [] ∧ spB s = false) := Lib.hid (fun h => by unfold spV spB splitL; rw [if_neg h0, h]; exact ⟨rfl, rfl⟩)
  have HS : Hid (∀ m, allU (pcs 32 s) = some m → spV s = m ∧ spB s = true) := Lib.hid (fun m h => by unfold spV spB splitL; rw [if_neg h0, h]; exact ⟨rfl, rfl⟩)
  clear h0
  generalize spV s = V at *
  generalize spB s = Bo at *
  obtain ⟨i0, hi0, hz0, hz1, hz2⟩ := info_parts info_str
  refine callsIn_of_wp_marks Tryd.func22 rfl hf ?_ hro
  simp only [Tryd.ntmps22, List.size_toArray, List.length_cons, List.length_nil, Nat.reduceAdd, Nat.reduceSub, Array.replicate_succ, Array.replicate_zero, List.push_toArray, List.append_toArray, List.nil_append, List.cons_append]
  gi_wp2_with (gi_at_call 36; refine (seq_in Fence.wide 2 trivial trivial rfl (by omega) _ _ _).mono ?_; rintro e w' ⟨rfl, rfl⟩)
  obtain ⟨b, hb⟩ : ∃ b, b = w.heap.size := ⟨_, rfl⟩
  rw [← hb]
  obtain ⟨W0, hW0⟩ : ∃ W0, (((((w.alloc (.cells #[.slice none 0 0] 28)).alloc (.cells #[.bool false] 4)).alloc (.cells #[.slice none 0 0] 28)).alloc (.cells #[.string ⟨s.toArray⟩] 9)).alloc (.cells #[.string ⟨#[32]⟩] 9)).alloc (.cells #[.int .i64 0] 3) = W0 := ⟨_, rfl⟩
  have hs0 : W0.heap.size = b + 6 := by rw [← hW0]; simp; omega
  have hB0 : Below b w W0 := by rw [← hW0, hb]; exact (by repeat (first | assumption | exact Below.refl _ _ | refine Below.alloc ?_ (by first | omega | (simp; done) | (simp; omega)) _ | refine Below.setCell ?_ (by first | omega | (simp; done) | (simp; omega)) _ | refine Below.drew ?_ | refine Below.drewN_ ?_ _ | refine Below.step ?_ (by assumption)))
  have hBx : Boxes3 (b + 1 + 1 + 1) s W0 := by
    rw [← hW0, hb]
    exact ⟨by simp [go_sem], by simp [go_sem], by simp [go_sem], by simp [go_sem]⟩
  have hrow0 : Boxed W0 (b + 2) 28 (.slice none 0 0) := by rw [← hW0, hb]; exact (((boxed_at' _ _ (by simp)).alloc _).alloc _).alloc _
  have hres0 : Boxed W0 b 28 (.slice none 0 0) := by rw [← hW0, hb]; exact (((((Boxed.new _ _ _).alloc _).alloc _).alloc _).alloc _).alloc _
  have hres1 : Boxed W0 (b + 1) 4 (.bool false) := by rw [← hW0, hb]; exact ((((boxed_at' _ _ (by simp)).alloc _).alloc _).alloc _).alloc _
  rw [hW0]
  refine range_open hro h1 (gf := 49) (lb := #[.pointer (some ⟨b + 1 + 1 + 1 + 1, 0, none⟩), .pointer (some ⟨b + 1 + 1 + 1, 0, none⟩), .pointer (some ⟨b + 1 + 1 + 1 + 2, 0, none⟩)]) rfl trivial (enters_of Tryd.func49 (by kernel_rfl) rfl) ?_
  intro fn hfn rec hrec
  rw [hs0]
  obtain ⟨W1, hW1⟩ : ∃ W1, (W0.alloc (.deferred (some []))).alloc (.loop (rec .ready none)) = W1 := ⟨_, rfl⟩
  have hL1 : W1.heap[b + 6 + 1]? = some (.loop (rec .ready none)) := by
    rw [← hW1]; have := World.alloc_heap_new (W0.alloc (.deferred (some []))) (.loop (rec .ready none)); rwa [World.size_alloc, hs0] at this
  have hK1 : W1.heap[b + 6]? = some (.deferred (some [])) := by
    rw [← hW1]; have := World.alloc_heap_new W0 (.deferred (some [])); rw [hs0] at this; exact (Below.heap_alloc _ _ _ (by simp; omega)).trans this
  have hst : St b (b + 6) w [] W1 := by
    rw [← hW1]
    refine ⟨by rw [hW1]; exact hK1, ⟨.slice none 0 0, (hrow0.alloc _).alloc _, World.ownsRow_nil _ _ _ _, by simp [Value.ownBlock]⟩, ⟨_, _, (hres0.alloc _).alloc _, (hres1.alloc _).alloc _⟩, (hB0.alloc (by omega) _).alloc (by simp; omega) _, by simp; omega⟩
  have hbx1 : Boxes3 (b + 1 + 1 + 1) s W1 := by
    rw [← hW1]
    refine (hBx.kept ?_)
    intro q h1 h2
    exact ⟨(World.cell?_alloc_lt _ _ _ (by simp; omega)).trans (World.cell?_alloc_lt _ _ _ (by show q < _; omega)), (World.frozen?_of_block (Below.heap_alloc _ _ _ (by simp; omega))).trans (World.frozen?_of_block (Below.heap_alloc _ _ _ (by show q < _; omega)))⟩
  rw [hW1]
  obtain ⟨D, hD⟩ : ∃ D, D = b + 6 := ⟨_, rfl⟩
  rw [← hD] at hst hL1 hK1 hs0 ⊢
  have HST := Lib.hid hst
  have HL1 := Lib.hid hL1
  have Hs0 := Lib.hid hs0
  have Hb := Lib.hid hb
  have HD := Lib.hid hD
  have HR := Lib.hid hrec
  clear hb hD hrec hs0 hW0 hW1 hst hL1 hK1 hrow0 hres0 hres1 hBx hB0
  refine (splitseq1_in Fence.wide 2 trivial rfl trivial (by omega) (D + 1) (b + 1 + 1 + 1) s hl
    (fun pre W => (∃ out, allU pre = some out ∧ St b D w out W) ∧ W.heap[D + 1]? = some (.loop (rec .ready none)))
    (fun pre W => allU pre = none ∧ StX b D w W ∧ W.heap[D + 1]? = some (.loop (rec .done (some .ret)))) ?_ ?_ ?_ W1 hbx1 ⟨⟨[], rfl, HST.out⟩, HL1.out⟩).mono ?_
  · rintro pre W v ⟨⟨out, ho, hS⟩, hL⟩
    have hg := grownBy_setCell' W (b + 1 + 1 + 1) v
    exact ⟨⟨out, ho, hS.grown (by have := HD.out; omega) Hb.out hg (fun r e => by cases e; left; omega)⟩, (hg.block (D + 1) (by have := hS.siz; omega) (by intro e; injection e with e; have := HD.out; omega)).trans hL⟩
  · intro w' x c
    refine callsIn_wide.2 ((Tryd.strings_Index_one ⟨x⟩ c w').mono ?_)
    rintro e w'' ⟨rfl, rfl⟩
    exact ⟨rfl, rfl⟩
  · rintro pre x W ⟨⟨out, ho, hS⟩, hL⟩ ⟨r, hpr⟩
    have hy := run_yield (P := Tryd.prog) (args := #[.string ⟨x.toArray⟩]) hL (by rw [HR.out]; rfl)
    rw [HR.out] at hy
    refine ⟨fn, _, _, _, hy, roundIn_of_wpIn hfn ?_⟩
    dsimp only [recOf]
    gi_wp2
    refine ⟨_, run_beginRound hL (by rw [HR.out]; rfl), ?_⟩
    have hL2 : (W.putObj (D + 1) (.loop { rec .ready none with state := .busy })).heap[D + 1]? = some (.loop { rec .ready none with state := .busy }) := World.putObj_heap_same (by have := hS.siz; omega)
    have hS2 := hS.grown (by have := HD.out; omega) Hb.out (grownBy_putObj' W (D + 1) (.loop { rec .ready none with state := .busy })) (fun r e => by cases e; right; rfl)
    have hK2 : Kept3 (b + 1 + 1 + 1) W (W.putObj (D + 1) (.loop { rec .ready none with state := .busy })) := Kept3.of_blocks fun q h4 h5 => World.putObj_heap_other (by have := HD.out; omega)
    generalize W.putObj (D + 1) (.loop { rec .ready none with state := .busy }) = W2 at *
    have hpl := (pcs_len 32 s).1
    have hxl : x.length ≤ 4000000 := by have := (pcs_len 32 s).2 x (by rw [hpr]; simp); omega
    have hprel : pre.length ≤ s.length := by rw [hpr] at hpl; simp at hpl; omega
    have hol : out.length = pre.length := by have := congrArg List.length (quote_allU pre out ho); simpa using this
    have hob : out.length ≤ 4000000 := by omega
    clear hol
    have HO := Lib.hid ho
    have HU := Lib.hid (un_parts x)
    have HSN := Lib.hid (allU_snoc pre x)
    have HLold := Lib.hid hL
    have hkr := Lib.hid hK2
    clear hpr ho hy hpl hL hS hK2
    gi_wp2
    refine (CallsIn.inRound (D + 1) (callsIn_wide.2 (unquote_any x hxl W2))).mono ?_
    rintro e W3 ⟨rfl, h3⟩
    have hS3 := hS2.below (by have := HD.out; omega) Hb.out h3
    have hL3 := (h3.block (D + 1) (by have := hS2.siz; omega)).trans hL2
    have hK3 : Hid (Kept3 (b + 1 + 1 + 1) W2 W3) := Lib.hid (fun q h4 h5 => ⟨(bcell h3).1 q 0 (by have := hS2.siz; have := HD.out; omega), (bcell h3).2 q 0 (by have := hS2.siz; have := HD.out; omega)⟩)
    obtain ⟨v, hv, hrow, hoff⟩ := hS3.row
    obtain ⟨r0, r1, hr0, hr1⟩ := hS3.res
    have q0 := hr0.cell
    have g0 := hr0.frozen
    have q1 := hr1.cell
    have g1 := hr1.frozen
    rcases HU.out with ⟨hu, hvv, hbb⟩ | ⟨hu, hbb⟩
    · rw [hvv, hbb]
      gi_wp2
      have hz3 := hS3.siz
      have hL4 : ((W3.setCell ⟨b, 0, none⟩ (.slice none 0 0)).setCell ⟨b + 1, 0, none⟩ (.bool false)).heap[D + 1]? = some (.loop { rec .ready none with state := .busy }) :=
        ((grownBy_setCell' _ (b + 1) _).block (D + 1) (by have := (grownBy_setCell' W3 b (.slice none 0 0)).size; omega) (by intro e; injection e with e; have := HD.out; omega)).trans (((grownBy_setCell' W3 b _).block (D + 1) (by omega) (by intro e; injection e with e; have := HD.out; omega)).trans hL3)
      have hE := run_endRound (P := Tryd.prog) (some .ret) hL4
      have hrr : (.loop { ({ rec .ready none with state := .busy } : Loop) with state := if (some Code.ret).isNone then .ready else .done, pending := some Code.ret } : Obj) = .loop (rec .done (some .ret)) := by rw [HR.out]; rfl
      rw [hrr] at hE
      refine ⟨_, _, hE, .inr ⟨rfl, by rw [HSN.out, HO.out, hu], ⟨?_, ?_, ?_, ?_⟩, World.putObj_heap_same (Array.getElem?_eq_some_iff.1 hL4).1⟩⟩
      · refine (World.putObj_heap_other (by omega)).trans (((grownBy_setCell' _ (b + 1) _).block D (by have := (grownBy_setCell' W3 b (.slice none 0 0)).size; omega) (by intro e; injection e with e; have := HD.out; omega)).trans (((grownBy_setCell' W3 b _).block D (by omega) (by intro e; injection e with e; have := HD.out; omega)).trans hS3.dfr))
      · exact ((hr0.set _).kept (grownBy_setCell' _ (b + 1) _) (by simp)).kept (grownBy_putObj' _ _ _) (by have := HD.out; simp; omega)
      · exact ((hr1.kept (grownBy_setCell' W3 b _) (by simp)).set _).kept (grownBy_putObj' _ _ _) (by have := HD.out; simp; omega)
      · exact (((hS3.bel.setCell (p := ⟨b, 0, none⟩) (Nat.le_refl _) _).setCell (p := ⟨b + 1, 0, none⟩) (by simp) _)).grown (grownBy_putObj' _ _ _) (by have := (grownBy_setCell' W3 b (.slice none 0 0)).size; have := (grownBy_setCell' (W3.setCell ⟨b, 0, none⟩ (.slice none 0 0)) (b + 1) (.bool false)).size; have := HD.out; omega) (fun k e => by cases e; have := HD.out; omega)
    · rw [hbb]
      obtain ⟨y, hy⟩ : ∃ y, unV x = y := ⟨_, rfl⟩
      rw [hy] at hu ⊢
      have HUU := Lib.hid hu
      clear hy hu HU hbb
      have hc := hv.cell
      have hfz := hv.frozen
      have hz3 := hS3.siz
      have hbs := Hb.out
      have hbw := hS3.bel.size
      replace hbs := Lib.hid hbs
      have hb3 : b ≤ W3.heap.size := by have := HD.out; omega
      gi_wp2_with (gi_at_builtin; (refine wpListIn_append_own_at _ rfl _ _ 28 rfl b 9 i0 (.string ⟨#[]⟩) 1 16 Tryd.underlying28 hi0 hz0 hz1 hz2 rfl (by decide) _ _ _ rfl (hrow.alloc _) ⟨W3.heap.size, 0, none⟩ 1 1 [.string ⟨y.toArray⟩] rfl rfl (cell_one_new _ _ _) (by simp [Value.oneCell']) (by simp only [maxLen]; omega) (by omega) (by simp; omega) ?_); intro v' w1 hown' hgrow _ hat; obtain ⟨g', cap', rfl⟩ := ownsRow_succ hown'; obtain ⟨hv1, hv2, hr2, hk2, hb2⟩ := hv.appended (by decide) hrow hb3 (by omega) hown' hgrow; have hc1 := hv1.cell; have hf1 := hv1.frozen)
      have hq : ∀ q, q < W3.heap.size → q ≠ b + 2 → some q ≠ v.ownBlock → (w1.setCell ⟨b + 1 + 1, 0, none⟩ (.slice (some ⟨g', 0, none⟩) (out.length + 1) cap')).heap[q]? = W3.heap[q]? := fun q h1 h2 h3 => by
        rw [Below.heap_setCell _ _ _ _ (fun e => h2 (by simpa using e))]
        exact (hgrow.block q (by simp; omega) h3).trans (Below.heap_alloc _ _ _ h1)
      have hDb := HD.out
      have hoff' := hoff
      replace hDb := Lib.hid hDb
      generalize hW5 : w1.setCell ⟨b + 1 + 1, 0, none⟩ (.slice (some ⟨g', 0, none⟩) (out.length + 1) cap') = W5 at *
      have hL5 : W5.heap[D + 1]? = some (.loop { rec .ready none with state := .busy }) := (hq (D + 1) (by omega) (by have := hDb.out; omega) (hoff _ (by have := hDb.out; omega) (by omega))).trans hL3
      have hE := run_endRound (P := Tryd.prog) none hL5
      have hrr : (.loop { ({ rec .ready none with state := .busy } : Loop) with state := if (none : Option Code).isNone then .ready else .done, pending := none } : Obj) = .loop (rec .ready none) := by rw [HR.out]; rfl
      rw [hrr] at hE
      have hsz5 : W3.heap.size ≤ W5.heap.size := hb2.size
      have hS5 : St b D w (out ++ [y]) W5 := by
        refine ⟨(hq D (by omega) (by have := hDb.out; omega) (hoff _ (by have := hDb.out; omega) (by omega))).trans hS3.dfr, ⟨_, hv2, ?_, ?_⟩, ⟨r0, r1, (hq b (by have := hDb.out; omega) (by omega) (hoff _ (by omega) (by have := hDb.out; omega))).trans hr0, (hq (b + 1) (by have := hDb.out; omega) (by omega) (hoff _ (by omega) (by have := hDb.out; omega))).trans hr1⟩, hS3.bel.trans hb2, by omega⟩
        · rw [List.length_append, List.map_append]; exact hr2
        · intro q h4 h5 e
          rcases hat with h6 | h6
          · exact hoff q h4 h5 (e.trans h6)
          · have := e.trans h6
            simp at this
            omega
      refine ⟨_, _, hE, .inl ⟨rfl, ⟨⟨out ++ [y], by rw [HSN.out, HO.out, HUU.out], ?_⟩, World.putObj_heap_same (Array.getElem?_eq_some_iff.1 hL5).1⟩, ?_⟩⟩
      · exact hS5.grown (by have := hDb.out; omega) Hb.out (grownBy_putObj' _ _ _) (fun r e => by cases e; right; rfl)
      · refine ((hkr.out.trans hK3.out).trans (Kept3.of_blocks fun q h4 h5 => ?_)).trans (Kept3.of_blocks fun q h4 h5 => World.putObj_heap_other (by have := hDb.out; omega))
        exact hq q (by have := hDb.out; omega) (by omega) (hoff _ (by omega) (by have := hDb.out; omega))
  · rintro e W' ⟨⟨v, rfl⟩, (⟨⟨out, ho, hS⟩, hL⟩ | ⟨pre, ⟨r, hpr⟩, hn, hX, hL⟩)⟩
    · have hE : ∃ o, (Instr.endLoop (D + 1)).run Tryd.prog W' = .ok none (W'.putObj (D + 1) (.loop o)) := ⟨_, by
        have := run_endLoop (P := Tryd.prog) hL (by rw [HR.out]; simp [recOf])
        rw [show (rec .ready none).pending = none by rw [HR.out]; rfl] at this
        exact this⟩
      obtain ⟨o6, hE⟩ := hE
      refine ⟨none, _, hE, ?_⟩
      obtain ⟨rfl, rfl⟩ := HS.out out ho
      have hS6 := hS.grown (by have := HD.out; omega) Hb.out (grownBy_putObj' W' (D + 1) (.loop o6)) (fun r e => by cases e; right; rfl)
      clear hE
      generalize W'.putObj (D + 1) (.loop o6) = W6 at *
      obtain ⟨v, hv, hrow, hoff⟩ := hS6.row
      obtain ⟨r0, r1, hr0, hr1⟩ := hS6.res
      have q0 := hr0.cell
      have g0 := hr0.frozen
      have q1 := hr1.cell
      have g1 := hr1.frozen
      obtain ⟨V1, vc, rfl⟩ := own_form hrow
      have hc := hv.cell
      have hz6 := hS6.siz
      gi_wp2
      have hK6 := hS6.dfr
      refine ⟨by simp, .inl ⟨_, _, rfl, run_takeDeferred (w := (W6.setCell ⟨b, 0, none⟩ (.slice V1 V.length vc)).setCell ⟨b + 1, 0, none⟩ (.bool true)) (b := D) ?_, ?_⟩⟩
      · refine ((grownBy_setCell' _ (b + 1) _).block D (by have := (grownBy_setCell' W6 b (.slice V1 V.length vc)).size; omega) (by intro e; injection e with e; have := HD.out; omega)).trans (((grownBy_setCell' W6 b _).block D (by omega) (by intro e; injection e with e; have := HD.out; omega)).trans hK6)
      have x0 : Boxed (((W6.setCell ⟨b, 0, none⟩ (.slice V1 V.length vc)).setCell ⟨b + 1, 0, none⟩ (.bool true)).putObj D (.deferred none)) b 28 (.slice V1 V.length vc) := ((hr0.set _).kept (grownBy_setCell' _ (b + 1) _) (by simp)).kept (grownBy_putObj' _ _ _) (by have := HD.out; simp; omega)
      have x1 : Boxed (((W6.setCell ⟨b, 0, none⟩ (.slice V1 V.length vc)).setCell ⟨b + 1, 0, none⟩ (.bool true)).putObj D (.deferred none)) (b + 1) 4 (.bool true) := ((hr1.kept (grownBy_setCell' W6 b _) (by simp)).set _).kept (grownBy_putObj' _ _ _) (by have := HD.out; simp; omega)
      have hof : ∀ q, b ≤ q → q < D + 2 → (Value.slice V1 V.length vc).ownBlock ≠ some q := fun q h4 h5 e => hoff q h4 h5 e.symm
      have hrow7 : (((W6.setCell ⟨b, 0, none⟩ (.slice V1 V.length vc)).setCell ⟨b + 1, 0, none⟩ (.bool true)).putObj D (.deferred none)).ownsRow b 9 1 (.slice V1 V.length vc) V.length (V.map sv) :=
        ((hrow.kept (grownBy_setCell' W6 b _) (.inr (hof b (by omega) (by have := HD.out; omega)))).kept (grownBy_setCell' _ (b + 1) _) (.inr (hof (b + 1) (by omega) (by have := HD.out; omega)))).kept (grownBy_putObj' _ D _) (.inr (hof D (by have := HD.out; omega) (by omega)))
      have hB7 : Below b w (((W6.setCell ⟨b, 0, none⟩ (.slice V1 V.length vc)).setCell ⟨b + 1, 0, none⟩ (.bool true)).putObj D (.deferred none)) :=
        (((hS6.bel.setCell (p := ⟨b, 0, none⟩) (Nat.le_refl _) _).setCell (p := ⟨b + 1, 0, none⟩) (by simp) _)).grown (grownBy_putObj' _ _ _) (by have := (grownBy_setCell' W6 b (.slice V1 V.length vc)).size; have := (grownBy_setCell' (W6.setCell ⟨b, 0, none⟩ (.slice V1 V.length vc)) (b + 1) (.bool true)).size; have := HD.out; omega) (fun k e => by cases e; have := HD.out; omega)
      generalize ((W6.setCell ⟨b, 0, none⟩ (.slice V1 V.length vc)).setCell ⟨b + 1, 0, none⟩ (.bool true)).putObj D (.deferred none) = W7 at *
      have y0 := x0.cell
      have y1 := x1.cell
      refine ⟨.tuple #[.slice V1 V.length vc, .bool true], by simp [results, Tryd.results22, go_sem, y0, y1], ⟨V1, vc, rfl, (own_cap hrow7).2, OwnS.strs (B := b) ⟨V1, vc, rfl, hrow7⟩, by rw [← Hb.out]; exact hB7⟩⟩
    · have hE : ∃ o, (Instr.endLoop (D + 1)).run Tryd.prog W' = .ok (some .ret) (W'.putObj (D + 1) (.loop o)) := ⟨_, by
        have := run_endLoop (P := Tryd.prog) hL (by rw [HR.out]; simp [recOf])
        rw [show (rec .done (some .ret)).pending = some .ret by rw [HR.out]; rfl] at this
        exact this⟩
      obtain ⟨o6, hE⟩ := hE
      refine ⟨some .ret, _, hE, ?_⟩
      obtain ⟨rfl, rfl⟩ := HN.out (by rw [hpr]; exact allU_prefix _ _ hn)
      have hK6 : (W'.putObj (D + 1) (.loop o6)).heap[D]? = some (.deferred (some [])) := (World.putObj_heap_other (by omega)).trans hX.dfr
      gi_wp2
      refine ⟨by simp, .inl ⟨_, _, rfl, run_takeDeferred hK6, ?_⟩⟩
      have x0 : Boxed ((W'.putObj (D + 1) (.loop o6)).putObj D (.deferred none)) b 28 (.slice none 0 0) := (hX.r0.kept (grownBy_putObj' _ _ _) (by have := HD.out; simp; omega)).kept (grownBy_putObj' _ _ _) (by have := HD.out; simp; omega)
      have x1 : Boxed ((W'.putObj (D + 1) (.loop o6)).putObj D (.deferred none)) (b + 1) 4 (.bool false) := (hX.r1.kept (grownBy_putObj' _ _ _) (by have := HD.out; simp; omega)).kept (grownBy_putObj' _ _ _) (by have := HD.out; simp; omega)
      have hB7 : Below b w ((W'.putObj (D + 1) (.loop o6)).putObj D (.deferred none)) :=
        (hX.bel.grown (grownBy_putObj' _ _ _) (by have := hX.r0.lt; omega) (fun k e => by cases e; have := HD.out; omega)).grown (grownBy_putObj' _ _ _) (by have := hX.r0.lt; simp; omega) (fun k e => by cases e; have := HD.out; omega)
      generalize (W'.putObj (D + 1) (.loop o6)).putObj D (.deferred none) = W7 at *
      have y0 := x0.cell
      have y1 := x1.cell
      refine ⟨.tuple #[.slice none 0 0, .bool false], by simp [results, Tryd.results22, go_sem, y0, y1], ⟨none, 0, rfl, Nat.le_refl _, Strs.nil_ _ _, by rw [← Hb.out]; exact hB7⟩⟩

theorem split_any (s : List UInt8) (hl : s.length ≤ 4000000) (w : World) : Calls Tryd.prog 22 #[.string ⟨s.toArray⟩] w (RetSB (spV s) (spB s) w) := by
  by_cases h0 : s = []
  · subst h0
    go_enter Tryd.func22, Tryd.ntmps22
    go_wp2
    exact bodyPost_ret (v := .tuple #[.slice none 0 0, .bool true]) (by simp [results, Tryd.results22, go_sem]) rfl ⟨none, 0, rfl, Nat.le_refl _, Strs.nil_ _ _, (by repeat (first | assumption | exact Below.refl _ _ | refine Below.alloc ?_ (by first | omega | (simp; done) | (simp; omega)) _ | refine Below.setCell ?_ (by first | omega | (simp; done) | (simp; omega)) _ | refine Below.drew ?_ | refine Below.drewN_ ?_ _ | refine Below.step ?_ (by assumption)))⟩
  · exact callsIn_wide.1 (split_in s hl w h0)
end Go.Proofs.YtdjlfbfipkalbaaDoor
