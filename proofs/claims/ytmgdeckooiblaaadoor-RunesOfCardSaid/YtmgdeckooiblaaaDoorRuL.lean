/- Clusters of the code: the walk. -/
import Derived.Test.YtmgdeckooiblaaaDoorRuJ
import Derived.Stop.RegionWithIn
import Derived.BigRegionIn
namespace Go.Proofs.YtmgdeckooiblaaaDoor
open Go.RowKit Go.Shelf
attribute [local go_sem] Oper.semAt_some

theorem if_intro {c : Prop} [Decidable c] {p q : Prop} (hc : c) (h : p) : if c then p else q := by rw [if_pos hc]; exact h
/-- An append onto an own row, at the operation inside a fence. -/
theorem opIn_append_own {F : Fence} {nF : Nat} {P : Program} (w : World) {o : Oper} {a : Act} {K : Act → World → Prop} {Q : Exit → Act → World → Prop} (s x : Operand) (t : TypeId)
    (ho : o.op = .call { callee := .builtin .append, args := #[s, x], argTypes := #[t, t] })
    (base : Nat) (e : TypeId) (i : TypeInfo) (z : Value) (size bytes : Nat) (ht : P.underlying t = some (.slice e)) (hi : P.info? e = some i) (hz : i.zero = some z)
    (hsize : i.size = size) (hby : i.bytes = bytes) (hzs : z.cells.size = size) (hsz : 0 < size)
    (v : Value) (n : Nat) (xs : List Value) (hs : a.eval s = v) (hown : w.ownsRow base e size v n xs)
    (ad : Addr) (m c : Nat) (news : List Value) (hx : a.eval x = .slice (some ad) m c) (hl : news.length = m * size) (hnews : ∀ j u, news[j]? = some u → w.cell? (ad.add j) = some u) (h1 : ∀ u ∈ news, u.oneCell' = true)
    (h63 : n + m ≤ maxLen) (hbytes : (n + m) * bytes ≤ 140737488355328) (hbase : base ≤ w.heap.size)
    (h : ∀ v' w', w'.ownsRow base e size v' (n + m) (xs ++ news) → w.grownBy w' v.ownBlock → (v'.ownBlock = v.ownBlock ∨ v'.ownBlock = some w.heap.size) → K (a.put o.dst v') w') :
    o.wpIn F nF P a w K Q := by
  obtain ⟨v', w', hr, h2, h3, _, h5⟩ := run_append_own_at (P := P) w base t o.type e i z size bytes ht hi hz hsize hby hzs hsz v n xs hown ad m c news hl hnews h1 h63 hbytes hbase
  unfold Oper.wpIn
  refine ⟨by simp [Oper.about, ho, resolve, Target.leads, Sem.run_pure], ?_⟩
  rw [Oper.semAt_plain F _ _ (by rw [ho]; intro c hc'; cases hc')]
  simp [execOp, ho, resolve, invoke, builtin, hs, hx, hr, Result.andThen]
  exact h v' w' h2 h3 h5

/-- The state between two rounds. -/
def foldC (l : List Nat) (ks : List { x : Nat × Nat // x ∈ prs 0 l }) : List (List UInt8) × Nat := (ks.map (·.1)).foldl (cst (encs l)) ([], 0)
theorem foldC_snoc (l : List Nat) (ks : List { x : Nat × Nat // x ∈ prs 0 l }) (x : { x : Nat × Nat // x ∈ prs 0 l }) : foldC l (ks ++ [x]) = cst (encs l) (foldC l ks) x.1 := by unfold foldC; rw [List.map_append, List.foldl_append]; rfl
theorem foldC_bound (l : List Nat) (ks : List { x : Nat × Nat // x ∈ prs 0 l }) : (foldC l ks).2 ≤ (encs l).length ∧ (foldC l ks).1.length ≤ ks.length := by
  have := cst_bound (encs l) (encs l).length (ks.map (·.1)) ([], 0) (fun x hx => by
    obtain ⟨y, _, rfl⟩ := List.mem_map.1 hx
    have := prs_le l 0 _ y.2
    omega) (Nat.zero_le _)
  unfold foldC
  exact ⟨this.1, by have := this.2; simpa using this⟩
def ClI (l : List Nat) (b0 b : Nat) (w1 : World) (ks : List { x : Nat × Nat // x ∈ prs 0 l }) (W : World) : Prop :=
  ∃ v, Boxed W b 35 v ∧ W.ownsRow b 9 1 v (foldC l ks).1.length ((foldC l ks).1.map sv) ∧ Boxed W (b + 1) 3 (.int .i64 ((foldC l ks).2 : Int)) ∧ W.cell? ⟨b0, 0, none⟩ = some (.string ⟨(encs l).toArray⟩) ∧ Below b w1 W ∧ b + 3 ≤ W.heap.size
theorem ClI.from (l : List Nat) (b0 b : Nat) (w1 : World) (hb : b = w1.heap.size) (h0 : b0 < b) : OwnFrom (b + 3) (ClI l b0 b w1) := by
  rintro pre W W' row ⟨v, h1, h2, h3, h4, h5, h6⟩ hg hr
  refine ⟨v, h1.kept hg ?_, own_from h2 hg (fun r e => (hr r e).2), h3.kept hg ?_, (World.cell?_of_block (hg.block b0 (by omega) ?_)).trans h4, h5.grown hg (by omega) (fun k e => by have := (hr k e).1; omega), Nat.le_trans h6 hg.size⟩
  · intro e; have := (hr b e.symm).1; omega
  · intro e; have := (hr (b + 1) e.symm).1; omega
  · intro e; have := (hr b0 e.symm).1; omega

/-- The end of a round that has closed a cluster. -/
theorem cl_leaf {l : List Nat} {b0 b : Nat} {w1 W W4 : World} {pre : List { x : Nat × Nat // x ∈ prs 0 l }} {x : { x : Nat × Nat // x ∈ prs 0 l }} {out : List (List UInt8)} {pc : List UInt8} {x1 fr : Nat} {v' : Value} {a' : Act} (h0 : b0 < b)
    (hk2 : KeepsOthers W.drew W4) (hv2 : Boxed W4 b 35 v') (hr2 : W4.ownsRow b 9 1 v' (out.length + 1) (out.map sv ++ [.string ⟨pc.toArray⟩])) (h5 : Boxed W4 (b + 1) 3 (.int .i64 (fr : Int))) (hb2 : Below b W.drew W4)
    (hcs : W.cell? ⟨b0, 0, none⟩ = some (.string ⟨(encs l).toArray⟩)) (hbel : Below b w1 W) (hsz : b + 3 ≤ W.heap.size) (HE : foldC l (pre ++ [x]) = (out ++ [pc], x1)) :
    ownPostK KeepsWalks (ClI l b0 b w1) (fun _ _ _ => False) (pre ++ [x]) W .normal a' (W4.setCell ⟨b + 1, 0, none⟩ (.int .i64 (x1 : Int))) := by
  have hk : KeepsOthers W W4 := ⟨hk2.size, hk2.same⟩
  have hbw : Below b W W4 := ⟨hb2.os, hb2.tape, hb2.output, hb2.size, hb2.block⟩
  have hk3 := hk.trans (KeepsOthers.setCell W4 ⟨b + 1, 0, none⟩ (.int .i64 (x1 : Int)))
  refine ⟨hk3, hk3.walks, ?_⟩
  unfold ClI
  rw [HE]
  refine ⟨v', hv2.kept (grownBy_setCell' _ (b + 1) _) (by simp), ?_, h5.set _, ?_, (hbel.trans hbw).setCell (p := ⟨b + 1, 0, none⟩) (by simp) _, Nat.le_trans hsz hk3.size⟩
  · have := hr2.kept (grownBy_setCell' W4 (b + 1) (.int .i64 (x1 : Int))) (.inr fun e => h5.not_row (by decide) hr2 e.symm)
    simpa [sv] using this
  · have := (hbw.cell (p := ⟨b0, 0, none⟩) h0).trans hcs
    exact (World.cell?_setCell_other _ _ _ _ (by first | (simp; done) | (simp; omega))).trans this

theorem cl_ret {b D : Nat} {w w1 W W4 : World} {o : Obj} {L : List (List UInt8)} {A : Option Addr} {c n : Nat} (hb : b = w1.heap.size) (hbw1 : Below (w.alloc o).heap.size (w.alloc o) w1) (hbel : Below b w1 W) (hD : b ≤ D)
    (hb2 : Below b W W4) (hr2 : W4.ownsRow b 9 1 (.slice A n c) n (L.map sv)) (hn : n = L.length) (hd : W4.heap[D]? = some (.deferred (some []))) :
    RetS L w (.returned (.slice A n c)) (W4.putObj D (.deferred none)) := by
  subst hn
  have hrow7 := ownsRow_putObj hr2 (.deferred none) hd rfl
  have hB7 : Below b w1 (W4.putObj D (.deferred none)) := (hbel.trans hb2).grown (grownBy_putObj' W4 D _) (Nat.le_trans (by omega) (hbel.trans hb2).size) (fun k e => by cases e; omega)
  have hs := hbw1.size
  simp at hs
  exact ⟨A, c, rfl, (own_cap hrow7).2, Reads.of_own hrow7, ((Below.refl _ _).alloc (Nat.le_refl _) _).trans ((hbw1.mono (by simp)).trans (hB7.mono (by omega)))⟩
theorem cl_same {l : List Nat} {b0 b : Nat} {w1 W : World} {pre : List { x : Nat × Nat // x ∈ prs 0 l }} {x : { x : Nat × Nat // x ∈ prs 0 l }} {a' : Act} (h : ClI l b0 b w1 pre W) (HE : foldC l (pre ++ [x]) = foldC l pre) :
    ownPostK KeepsWalks (ClI l b0 b w1) (fun _ _ _ => False) (pre ++ [x]) W .normal a' W := by
  refine ⟨KeepsOthers.refl _, KeepsWalks.refl _, ?_⟩
  unfold ClI at h ⊢
  rw [HE]
  exact h

set_option maxRecDepth 100000 in
set_option maxHeartbeats 2000000 in
theorem clusters_none (s : List UInt8) (w : World) (kv : CallsIn Fence.wide 2 Tryd.prog 29 #[.string ⟨s.toArray⟩] (w.alloc (.cells #[.string ⟨s.toArray⟩] 9)) (Ret (.bool false) (w.alloc (.cells #[.string ⟨s.toArray⟩] 9)))) :
    CallsIn Fence.wide 3 Tryd.prog 22 #[.string ⟨s.toArray⟩] w (RetS [] w) := by
  have h1 : 1 ≤ 3 := by omega
  have hf : Fence.wide.fn 22 := trivial
  have hfv : Fence.wide.fn 29 := trivial
  have hro : Fence.wide.round = none := rfl
  refine callsIn_of_wp_marks Tryd.func22 rfl hf ?_ hro
  simp only [Tryd.ntmps22, List.size_toArray, List.length_cons, List.length_nil, Nat.reduceAdd, Nat.reduceSub, Array.replicate_succ, Array.replicate_zero, List.push_toArray, List.append_toArray, List.nil_append, List.cons_append]
  gi_wp2_with (gi_at_call 29; refine kv.mono ?_; rintro e w1 ⟨rfl, hb1⟩)
  refine ⟨.slice none 0 0, by simp [results, Tryd.results22, go_sem], none, 0, rfl, Nat.le_refl _, Strs.nil_ _ _, ((Below.refl _ _).alloc (Nat.le_refl _) _).trans (hb1.mono (by simp))⟩
set_option maxRecDepth 100000 in
set_option maxHeartbeats 40000000 in
theorem clusters_some (l : List Nat) (hl : (encs l).length ≤ 4000000) (hsc : ∀ p ∈ l, scal p) (w : World) (kv : CallsIn Fence.wide 2 Tryd.prog 29 #[.string ⟨(encs l).toArray⟩] (w.alloc (.cells #[.string ⟨(encs l).toArray⟩] 9)) (Ret (.bool true) (w.alloc (.cells #[.string ⟨(encs l).toArray⟩] 9)))) :
    CallsIn Fence.wide 3 Tryd.prog 22 #[.string ⟨(encs l).toArray⟩] w (RetS (clu l) w) := by
  have h1 : 1 ≤ 3 := by omega
  have hf : Fence.wide.fn 22 := trivial
  have hfv : Fence.wide.fn 29 := trivial
  have hfs : Fence.wide.fn 30 := trivial
  have hfm : Fence.wide.fn 37 := trivial
  have hro : Fence.wide.round = none := rfl
  obtain ⟨i0, hi0, hz0, hz1, hz2⟩ := info_parts info_str
  refine callsIn_of_wp_marks Tryd.func22 rfl hf ?_ hro
  simp only [Tryd.ntmps22, List.size_toArray, List.length_cons, List.length_nil, Nat.reduceAdd, Nat.reduceSub, Array.replicate_succ, Array.replicate_zero, List.push_toArray, List.append_toArray, List.nil_append, List.cons_append]
  gi_wp2_with (first | (gi_at_call 29; refine kv.mono ?_; rintro e w1 ⟨rfl, hb1⟩; have hz1' := hb1.size; have hlt1 : w.heap.size < w1.heap.size := (by simp at hz1'; omega); have hcs : w1.cell? ⟨w.heap.size, 0, none⟩ = some (.string ⟨(encs l).toArray⟩) := ((hb1.cell (p := ⟨w.heap.size, 0, none⟩) (by simp)).trans (by simp [go_sem])); clear hz1') | (gi_at_call 30; refine (scalars_in Fence.wide 2 trivial rfl _ _).mono ?_; rintro e w2 ⟨rfl, rfl⟩))
  obtain ⟨b, hb⟩ : ∃ b, b = w1.heap.size := ⟨_, rfl⟩
  obtain ⟨b0, hb0⟩ : ∃ b0, b0 = w.heap.size := ⟨_, rfl⟩
  rw [← hb0] at hcs hlt1
  rw [← hb] at hlt1
  rw [← hb, ← hb0]
  obtain ⟨W0, hW0⟩ : ∃ W0, (((w1.alloc (.cells #[.slice none 0 0] 35)).alloc (.cells #[.int .i64 0] 3)).alloc (.cells #[.string ⟨(encs l).toArray⟩] 9)) = W0 := ⟨_, rfl⟩
  have hs0 : W0.heap.size = b + 3 := by rw [← hW0]; simp; omega
  have hB0 : Below b w1 W0 := by rw [← hW0, hb]; exact (((Below.refl _ _).alloc (Nat.le_refl _) _).alloc (by simp) _).alloc (by simp; omega) _
  have hx0 : Boxed W0 b 35 (.slice none 0 0) := by rw [← hW0, hb]; exact ((Boxed.new _ _ _).alloc _).alloc _
  have hx1 : Boxed W0 (b + 1) 3 (.int .i64 0) := by rw [← hW0, hb]; exact ((by simpa using Boxed.new (w1.alloc (.cells #[.slice none 0 0] 35)) 3 (.int .i64 0) : Boxed _ (w1.heap.size + 1) _ _)).alloc _
  have hc0 : W0.cell? ⟨b + 1 + 1, 0, none⟩ = some (.string ⟨(encs l).toArray⟩) := by rw [← hW0, hb]; simp [go_sem]
  have hcs0 : W0.cell? ⟨b0, 0, none⟩ = some (.string ⟨(encs l).toArray⟩) := (hB0.cell (p := ⟨b0, 0, none⟩) hlt1).trans hcs
  rw [hW0]
  have HB1 := Lib.hid hb1
  have HBW := Lib.hid hb
  have HB0 := Lib.hid hb0
  clear hW0 hb1 hb hb0
  refine wpIn_rangeFunc_ownF (α := { x : Nat × Nat // x ∈ prs 0 l }) hro h1 (gf := 43) (lb := #[.pointer (some ⟨b + 1 + 1, 0, none⟩)]) rfl trivial (enters_of Tryd.func43 (by kernel_rfl) rfl)
    (scalars_stopsM Fence.wide 2 trivial rfl (by omega) (b + 1 + 1) l hsc W0 (by omega) hc0) walksK_t (walksK_b (w := W0)) (Below.refl _ _) (fun _ => rfl)
    (ClI l b0 b w1) (fun _ _ _ => False) (by rw [hs0]; exact ClI.from l b0 b w1 HBW.out hlt1) (fun _ _ _ _ _ hs _ _ => hs) ⟨_, hx0, World.ownsRow_nil _ _ _ _, hx1, hcs0, hB0, by omega⟩
    (fun x => { tmps := #[.string ⟨(encs l).toArray⟩, .pointer (some ⟨b0, 0, none⟩), .slice none 0 0, .pointer (some ⟨b, 0, none⟩), .pointer (some ⟨b + 1, 0, none⟩), .int .i64 (x.1.1 : Int), .int .i64 (x.1.2 : Int), .string ⟨(encs l).toArray⟩, .bool true, .bool false, .string ⟨(encs l).toArray⟩, .func (.func 43) #[] #[.pointer (some ⟨b + 1 + 1, 0, none⟩)], .int .i64 (x.1.1 : Int), .int .i64 (x.1.2 : Int), undef, undef, undef, undef, undef, undef, undef, undef, undef, undef, undef, undef, undef, undef, undef, undef, undef, undef, undef, undef, undef, undef, undef, undef, undef, undef, undef], defers := [] }) ?assign ?body ?done ?stop
  case assign =>
    rintro lp ⟨⟨x1, x2⟩, hx⟩ W K hK
    dsimp only [encY]
    gi_wp2
    exact hK
  case body =>
    rintro lp pre ⟨⟨x1, x2⟩, hx⟩ W hI hlen
    have HII := Lib.hid hI
    obtain ⟨v, hv, hrow, hv1, hcs, hbel, hsz⟩ := hI
    have hxl := prs_le l 0 _ hx
    obtain ⟨hf1, hf2⟩ := foldC_bound l pre
    have HS := Lib.hid (foldC_snoc l pre ⟨⟨x1, x2⟩, hx⟩)
    have hll := (encs_len l).1
    have hpf := hv1.cell
    have hpz := hv1.frozen
    have km := fun w' => isMark_any (x2 : Int) w'
    simp only at hxl
    obtain ⟨q, hq⟩ : ∃ q, foldC l pre = q := ⟨_, rfl⟩
    rw [hq] at hf1 hf2 HS hrow hv1 hpf
    obtain ⟨out, fr⟩ := q
    simp only at hf1 hf2 hpf hrow hv1
    have HQ := Lib.hid hq
    clear hq
    obtain ⟨A3, c3, rfl⟩ := own_form hrow
    have hc := hv.cell
    have hfz := hv.frozen
    have hb3 : b ≤ W.drew.heap.size := by show b ≤ W.heap.size; omega
    have HBx : Hid (Boxed W.drew b 35 (.slice A3 out.length c3)) := Lib.hid hv
    have HRo : Hid (W.drew.ownsRow b 9 1 (.slice A3 out.length c3) out.length (out.map sv)) := Lib.hid hrow
    by_cases h1 : fr < x1
    · by_cases hm : markB (x2 : Int) = false
      · have HC : Hid (cst (encs l) (out, fr) (x1, x2) = (out ++ [piece (encs l) fr x1], x1)) := Lib.hid (by unfold cst; rw [if_pos ⟨h1, hm⟩])
        rw [hm] at km
        have hex := extract_piece (encs l) fr x1
        obtain ⟨pc, hpc⟩ : ∃ pc, pc = piece (encs l) fr x1 := ⟨_, rfl⟩
        rw [← hpc] at hex HC
        clear hpc
        have HAo : Hid ((W.alloc (.cells #[.string ⟨pc.toArray⟩] 9)).drew.ownsRow b 9 1 (.slice A3 out.length c3) out.length (out.map sv)) := Lib.hid (World.ownsRow.alloc HRo.out _)
        have HE : Hid (foldC l (pre ++ [⟨(x1, x2), hx⟩]) = (out ++ [pc], x1)) := Lib.hid (by rw [HS.out]; exact HC.out)
        have H1x : Hid (Boxed W.drew (b + 1) 3 (.int .i64 (fr : Int))) := Lib.hid hv1
        have HNR := Lib.hid (hv1.not_row (by decide) hrow)
        gi_wp2_with (gi_at_call 37; refine (CallsIn.inRound lp (callsIn_wide.2 (km _))).mono ?_; rintro e w' ⟨rfl, hww⟩; rw [hww]; clear hww)
        have j1 : (fr : Int) ≤ (x1 : Int) := by omega
        have j2 : (x1 : Int) ≤ ((encs l).length : Int) := by omega
        have j3 : fr ≤ x1 := by omega
        have j4 : x1 ≤ (encs l).length := by omega
        have hblt : b < W.heap.size := by omega
        refine wpIn_region_any (by kernel_rfl) ?_
        change wpAnyIn _ _ _ _ _ _ _ _ _ (World.drew _)
        refine wpAnyIn_ready (rs := [0, 1, 2, 3]) (by kernel_rfl) (by simp) ?_
        refine AllReadyIn.cons rfl (fun K hK => ?_) ?_
        · go_simp
          refine hK _ _ ?_
          clear hK K
          refine wpAnyIn_ready (rs := [1, 2, 3]) (by kernel_rfl) (by simp) ?_
          refine AllReadyIn.cons rfl (fun K hK => ?_) ?_
          · go_simp
            refine hK _ _ ?_
            clear hK K
            refine wpAnyIn_ready (rs := [2, 3]) (by kernel_rfl) (by simp) ?_
            refine AllReadyIn.cons rfl (fun K hK => ?_) ?_
            · go_simp
              refine hK _ _ ?_
              clear hK K
              refine wpAnyIn_ready (rs := [3]) (by kernel_rfl) (by simp) ?_
              refine AllReadyIn.cons rfl (fun K hK => ?_) ?_
              · go_simp
                refine hK _ _ ?_
                clear hK K
                refine wpAnyIn_ready (rs := [4]) (by kernel_rfl) (by simp) ?_
                refine AllReadyIn.cons rfl (fun K hK => ?_) ?_
                · go_simp
                  gi_wp2
                  refine wpAnyIn_ready (rs := [5]) (by kernel_rfl) (by simp) ?_
                  refine AllReadyIn.cons rfl (fun K hK => ?_) ?_
                  · go_simp
                    refine hK _ _ ?_
                    clear hK K
                    refine wpAnyIn_ready (rs := [6]) (by kernel_rfl) (by simp) ?_
                    refine AllReadyIn.cons rfl (fun K hK => ?_) ?_
                    · refine if_intro rfl ?_
                      refine opIn_append_own _ (.tmp 22) (.tmp 27) 35 rfl b 9 i0 (.string ⟨#[]⟩) 1 16 Tryd.underlying35 hi0 hz0 hz1 hz2 rfl (by decide) _ _ _ rfl HAo.out ⟨W.heap.size, 0, none⟩ 1 1 [.string ⟨pc.toArray⟩] rfl rfl (cell_one_new _ _ _) (by simp [Value.oneCell']) (by simp only [maxLen]; omega) (by omega) (by simp; omega) ?_
                      intro v' w4 hown4 hgrow hat
                      obtain ⟨g', cap', rfl⟩ := ownsRow_succ hown4
                      obtain ⟨hv1', hv2, hr2, hk2, hb2⟩ := HBx.out.appended (by decide) HRo.out hb3 (by omega) hown4 (show (W.drew.alloc (.cells #[.string ⟨pc.toArray⟩] 9)).grownBy w4 _ from hgrow)
                      have h4 := (H1x.out.alloc (.cells #[.string ⟨pc.toArray⟩] 9)).kept (show (W.drew.alloc (.cells #[.string ⟨pc.toArray⟩] 9)).grownBy w4 _ from hgrow) HNR.out
                      have h5 := h4.kept (grownBy_setCell' w4 b (.slice (some ⟨g', 0, none⟩) (out.length + 1) cap')) (by simp)
                      have hc4 := h4.cell
                      have hf4 := h4.frozen
                      have hc1 := hv1'.cell
                      have hf1 := hv1'.frozen
                      clear hown4 hgrow hat
                      refine hK _ _ ?_
                      clear hK K
                      refine wpAnyIn_ready (rs := [7]) (by kernel_rfl) (by simp) ?_
                      refine AllReadyIn.cons rfl (fun K hK => ?_) ?_
                      · go_simp
                        refine hK _ _ ?_
                        clear hK K
                        refine wpAnyIn_done (by kernel_rfl) ?_ _
                        gi_wp2
                        exact cl_leaf hlt1 hk2 hv2 hr2 h5 hb2 hcs hbel hsz HE.out
                      exact AllReadyIn.nil
                    exact AllReadyIn.nil
                  exact AllReadyIn.nil
                exact AllReadyIn.nil
              exact AllReadyIn.nil
            refine AllReadyIn.cons rfl (fun K hK => ?_) ?_
            · go_simp
              refine hK _ _ ?_
              clear hK K
              refine wpAnyIn_ready (rs := [2]) (by kernel_rfl) (by simp) ?_
              refine AllReadyIn.cons rfl (fun K hK => ?_) ?_
              · go_simp
                refine hK _ _ ?_
                clear hK K
                refine wpAnyIn_ready (rs := [4]) (by kernel_rfl) (by simp) ?_
                refine AllReadyIn.cons rfl (fun K hK => ?_) ?_
                · go_simp
                  gi_wp2
                  refine wpAnyIn_ready (rs := [5]) (by kernel_rfl) (by simp) ?_
                  refine AllReadyIn.cons rfl (fun K hK => ?_) ?_
                  · go_simp
                    refine hK _ _ ?_
                    clear hK K
                    refine wpAnyIn_ready (rs := [6]) (by kernel_rfl) (by simp) ?_
                    refine AllReadyIn.cons rfl (fun K hK => ?_) ?_
                    · refine if_intro rfl ?_
                      refine opIn_append_own _ (.tmp 22) (.tmp 27) 35 rfl b 9 i0 (.string ⟨#[]⟩) 1 16 Tryd.underlying35 hi0 hz0 hz1 hz2 rfl (by decide) _ _ _ rfl HAo.out ⟨W.heap.size, 0, none⟩ 1 1 [.string ⟨pc.toArray⟩] rfl rfl (cell_one_new _ _ _) (by simp [Value.oneCell']) (by simp only [maxLen]; omega) (by omega) (by simp; omega) ?_
                      intro v' w4 hown4 hgrow hat
                      obtain ⟨g', cap', rfl⟩ := ownsRow_succ hown4
                      obtain ⟨hv1', hv2, hr2, hk2, hb2⟩ := HBx.out.appended (by decide) HRo.out hb3 (by omega) hown4 (show (W.drew.alloc (.cells #[.string ⟨pc.toArray⟩] 9)).grownBy w4 _ from hgrow)
                      have h4 := (H1x.out.alloc (.cells #[.string ⟨pc.toArray⟩] 9)).kept (show (W.drew.alloc (.cells #[.string ⟨pc.toArray⟩] 9)).grownBy w4 _ from hgrow) HNR.out
                      have h5 := h4.kept (grownBy_setCell' w4 b (.slice (some ⟨g', 0, none⟩) (out.length + 1) cap')) (by simp)
                      have hc4 := h4.cell
                      have hf4 := h4.frozen
                      have hc1 := hv1'.cell
                      have hf1 := hv1'.frozen
                      clear hown4 hgrow hat
                      refine hK _ _ ?_
                      clear hK K
                      refine wpAnyIn_ready (rs := [7]) (by kernel_rfl) (by simp) ?_
                      refine AllReadyIn.cons rfl (fun K hK => ?_) ?_
                      · go_simp
                        refine hK _ _ ?_
                        clear hK K
                        refine wpAnyIn_done (by kernel_rfl) ?_ _
                        gi_wp2
                        exact cl_leaf hlt1 hk2 hv2 hr2 h5 hb2 hcs hbel hsz HE.out
                      exact AllReadyIn.nil
                    exact AllReadyIn.nil
                  exact AllReadyIn.nil
                exact AllReadyIn.nil
              exact AllReadyIn.nil
            exact AllReadyIn.nil
          refine AllReadyIn.cons rfl (fun K hK => ?_) ?_
          · go_simp
            refine hK _ _ ?_
            clear hK K
            refine wpAnyIn_ready (rs := [1, 3]) (by kernel_rfl) (by simp) ?_
            refine AllReadyIn.cons rfl (fun K hK => ?_) ?_
            · go_simp
              refine hK _ _ ?_
              clear hK K
              refine wpAnyIn_ready (rs := [3]) (by kernel_rfl) (by simp) ?_
              refine AllReadyIn.cons rfl (fun K hK => ?_) ?_
              · go_simp
                refine hK _ _ ?_
                clear hK K
                refine wpAnyIn_ready (rs := [4]) (by kernel_rfl) (by simp) ?_
                refine AllReadyIn.cons rfl (fun K hK => ?_) ?_
                · go_simp
                  gi_wp2
                  refine wpAnyIn_ready (rs := [5]) (by kernel_rfl) (by simp) ?_
                  refine AllReadyIn.cons rfl (fun K hK => ?_) ?_
                  · go_simp
                    refine hK _ _ ?_
                    clear hK K
                    refine wpAnyIn_ready (rs := [6]) (by kernel_rfl) (by simp) ?_
                    refine AllReadyIn.cons rfl (fun K hK => ?_) ?_
                    · refine if_intro rfl ?_
                      refine opIn_append_own _ (.tmp 22) (.tmp 27) 35 rfl b 9 i0 (.string ⟨#[]⟩) 1 16 Tryd.underlying35 hi0 hz0 hz1 hz2 rfl (by decide) _ _ _ rfl HAo.out ⟨W.heap.size, 0, none⟩ 1 1 [.string ⟨pc.toArray⟩] rfl rfl (cell_one_new _ _ _) (by simp [Value.oneCell']) (by simp only [maxLen]; omega) (by omega) (by simp; omega) ?_
                      intro v' w4 hown4 hgrow hat
                      obtain ⟨g', cap', rfl⟩ := ownsRow_succ hown4
                      obtain ⟨hv1', hv2, hr2, hk2, hb2⟩ := HBx.out.appended (by decide) HRo.out hb3 (by omega) hown4 (show (W.drew.alloc (.cells #[.string ⟨pc.toArray⟩] 9)).grownBy w4 _ from hgrow)
                      have h4 := (H1x.out.alloc (.cells #[.string ⟨pc.toArray⟩] 9)).kept (show (W.drew.alloc (.cells #[.string ⟨pc.toArray⟩] 9)).grownBy w4 _ from hgrow) HNR.out
                      have h5 := h4.kept (grownBy_setCell' w4 b (.slice (some ⟨g', 0, none⟩) (out.length + 1) cap')) (by simp)
                      have hc4 := h4.cell
                      have hf4 := h4.frozen
                      have hc1 := hv1'.cell
                      have hf1 := hv1'.frozen
                      clear hown4 hgrow hat
                      refine hK _ _ ?_
                      clear hK K
                      refine wpAnyIn_ready (rs := [7]) (by kernel_rfl) (by simp) ?_
                      refine AllReadyIn.cons rfl (fun K hK => ?_) ?_
                      · go_simp
                        refine hK _ _ ?_
                        clear hK K
                        refine wpAnyIn_done (by kernel_rfl) ?_ _
                        gi_wp2
                        exact cl_leaf hlt1 hk2 hv2 hr2 h5 hb2 hcs hbel hsz HE.out
                      exact AllReadyIn.nil
                    exact AllReadyIn.nil
                  exact AllReadyIn.nil
                exact AllReadyIn.nil
              exact AllReadyIn.nil
            refine AllReadyIn.cons rfl (fun K hK => ?_) ?_
            · go_simp
              refine hK _ _ ?_
              clear hK K
              refine wpAnyIn_ready (rs := [1]) (by kernel_rfl) (by simp) ?_
              refine AllReadyIn.cons rfl (fun K hK => ?_) ?_
              · go_simp
                refine hK _ _ ?_
                clear hK K
                refine wpAnyIn_ready (rs := [4]) (by kernel_rfl) (by simp) ?_
                refine AllReadyIn.cons rfl (fun K hK => ?_) ?_
                · go_simp
                  gi_wp2
                  refine wpAnyIn_ready (rs := [5]) (by kernel_rfl) (by simp) ?_
                  refine AllReadyIn.cons rfl (fun K hK => ?_) ?_
                  · go_simp
                    refine hK _ _ ?_
                    clear hK K
                    refine wpAnyIn_ready (rs := [6]) (by kernel_rfl) (by simp) ?_
                    refine AllReadyIn.cons rfl (fun K hK => ?_) ?_
                    · refine if_intro rfl ?_
                      refine opIn_append_own _ (.tmp 22) (.tmp 27) 35 rfl b 9 i0 (.string ⟨#[]⟩) 1 16 Tryd.underlying35 hi0 hz0 hz1 hz2 rfl (by decide) _ _ _ rfl HAo.out ⟨W.heap.size, 0, none⟩ 1 1 [.string ⟨pc.toArray⟩] rfl rfl (cell_one_new _ _ _) (by simp [Value.oneCell']) (by simp only [maxLen]; omega) (by omega) (by simp; omega) ?_
                      intro v' w4 hown4 hgrow hat
                      obtain ⟨g', cap', rfl⟩ := ownsRow_succ hown4
                      obtain ⟨hv1', hv2, hr2, hk2, hb2⟩ := HBx.out.appended (by decide) HRo.out hb3 (by omega) hown4 (show (W.drew.alloc (.cells #[.string ⟨pc.toArray⟩] 9)).grownBy w4 _ from hgrow)
                      have h4 := (H1x.out.alloc (.cells #[.string ⟨pc.toArray⟩] 9)).kept (show (W.drew.alloc (.cells #[.string ⟨pc.toArray⟩] 9)).grownBy w4 _ from hgrow) HNR.out
                      have h5 := h4.kept (grownBy_setCell' w4 b (.slice (some ⟨g', 0, none⟩) (out.length + 1) cap')) (by simp)
                      have hc4 := h4.cell
                      have hf4 := h4.frozen
                      have hc1 := hv1'.cell
                      have hf1 := hv1'.frozen
                      clear hown4 hgrow hat
                      refine hK _ _ ?_
                      clear hK K
                      refine wpAnyIn_ready (rs := [7]) (by kernel_rfl) (by simp) ?_
                      refine AllReadyIn.cons rfl (fun K hK => ?_) ?_
                      · go_simp
                        refine hK _ _ ?_
                        clear hK K
                        refine wpAnyIn_done (by kernel_rfl) ?_ _
                        gi_wp2
                        exact cl_leaf hlt1 hk2 hv2 hr2 h5 hb2 hcs hbel hsz HE.out
                      exact AllReadyIn.nil
                    exact AllReadyIn.nil
                  exact AllReadyIn.nil
                exact AllReadyIn.nil
              exact AllReadyIn.nil
            exact AllReadyIn.nil
          refine AllReadyIn.cons rfl (fun K hK => ?_) ?_
          · go_simp
            refine hK _ _ ?_
            clear hK K
            refine wpAnyIn_ready (rs := [1, 2]) (by kernel_rfl) (by simp) ?_
            refine AllReadyIn.cons rfl (fun K hK => ?_) ?_
            · go_simp
              refine hK _ _ ?_
              clear hK K
              refine wpAnyIn_ready (rs := [2]) (by kernel_rfl) (by simp) ?_
              refine AllReadyIn.cons rfl (fun K hK => ?_) ?_
              · go_simp
                refine hK _ _ ?_
                clear hK K
                refine wpAnyIn_ready (rs := [4]) (by kernel_rfl) (by simp) ?_
                refine AllReadyIn.cons rfl (fun K hK => ?_) ?_
                · go_simp
                  gi_wp2
                  refine wpAnyIn_ready (rs := [5]) (by kernel_rfl) (by simp) ?_
                  refine AllReadyIn.cons rfl (fun K hK => ?_) ?_
                  · go_simp
                    refine hK _ _ ?_
                    clear hK K
                    refine wpAnyIn_ready (rs := [6]) (by kernel_rfl) (by simp) ?_
                    refine AllReadyIn.cons rfl (fun K hK => ?_) ?_
                    · refine if_intro rfl ?_
                      refine opIn_append_own _ (.tmp 22) (.tmp 27) 35 rfl b 9 i0 (.string ⟨#[]⟩) 1 16 Tryd.underlying35 hi0 hz0 hz1 hz2 rfl (by decide) _ _ _ rfl HAo.out ⟨W.heap.size, 0, none⟩ 1 1 [.string ⟨pc.toArray⟩] rfl rfl (cell_one_new _ _ _) (by simp [Value.oneCell']) (by simp only [maxLen]; omega) (by omega) (by simp; omega) ?_
                      intro v' w4 hown4 hgrow hat
                      obtain ⟨g', cap', rfl⟩ := ownsRow_succ hown4
                      obtain ⟨hv1', hv2, hr2, hk2, hb2⟩ := HBx.out.appended (by decide) HRo.out hb3 (by omega) hown4 (show (W.drew.alloc (.cells #[.string ⟨pc.toArray⟩] 9)).grownBy w4 _ from hgrow)
                      have h4 := (H1x.out.alloc (.cells #[.string ⟨pc.toArray⟩] 9)).kept (show (W.drew.alloc (.cells #[.string ⟨pc.toArray⟩] 9)).grownBy w4 _ from hgrow) HNR.out
                      have h5 := h4.kept (grownBy_setCell' w4 b (.slice (some ⟨g', 0, none⟩) (out.length + 1) cap')) (by simp)
                      have hc4 := h4.cell
                      have hf4 := h4.frozen
                      have hc1 := hv1'.cell
                      have hf1 := hv1'.frozen
                      clear hown4 hgrow hat
                      refine hK _ _ ?_
                      clear hK K
                      refine wpAnyIn_ready (rs := [7]) (by kernel_rfl) (by simp) ?_
                      refine AllReadyIn.cons rfl (fun K hK => ?_) ?_
                      · go_simp
                        refine hK _ _ ?_
                        clear hK K
                        refine wpAnyIn_done (by kernel_rfl) ?_ _
                        gi_wp2
                        exact cl_leaf hlt1 hk2 hv2 hr2 h5 hb2 hcs hbel hsz HE.out
                      exact AllReadyIn.nil
                    exact AllReadyIn.nil
                  exact AllReadyIn.nil
                exact AllReadyIn.nil
              exact AllReadyIn.nil
            refine AllReadyIn.cons rfl (fun K hK => ?_) ?_
            · go_simp
              refine hK _ _ ?_
              clear hK K
              refine wpAnyIn_ready (rs := [1]) (by kernel_rfl) (by simp) ?_
              refine AllReadyIn.cons rfl (fun K hK => ?_) ?_
              · go_simp
                refine hK _ _ ?_
                clear hK K
                refine wpAnyIn_ready (rs := [4]) (by kernel_rfl) (by simp) ?_
                refine AllReadyIn.cons rfl (fun K hK => ?_) ?_
                · go_simp
                  gi_wp2
                  refine wpAnyIn_ready (rs := [5]) (by kernel_rfl) (by simp) ?_
                  refine AllReadyIn.cons rfl (fun K hK => ?_) ?_
                  · go_simp
                    refine hK _ _ ?_
                    clear hK K
                    refine wpAnyIn_ready (rs := [6]) (by kernel_rfl) (by simp) ?_
                    refine AllReadyIn.cons rfl (fun K hK => ?_) ?_
                    · refine if_intro rfl ?_
                      refine opIn_append_own _ (.tmp 22) (.tmp 27) 35 rfl b 9 i0 (.string ⟨#[]⟩) 1 16 Tryd.underlying35 hi0 hz0 hz1 hz2 rfl (by decide) _ _ _ rfl HAo.out ⟨W.heap.size, 0, none⟩ 1 1 [.string ⟨pc.toArray⟩] rfl rfl (cell_one_new _ _ _) (by simp [Value.oneCell']) (by simp only [maxLen]; omega) (by omega) (by simp; omega) ?_
                      intro v' w4 hown4 hgrow hat
                      obtain ⟨g', cap', rfl⟩ := ownsRow_succ hown4
                      obtain ⟨hv1', hv2, hr2, hk2, hb2⟩ := HBx.out.appended (by decide) HRo.out hb3 (by omega) hown4 (show (W.drew.alloc (.cells #[.string ⟨pc.toArray⟩] 9)).grownBy w4 _ from hgrow)
                      have h4 := (H1x.out.alloc (.cells #[.string ⟨pc.toArray⟩] 9)).kept (show (W.drew.alloc (.cells #[.string ⟨pc.toArray⟩] 9)).grownBy w4 _ from hgrow) HNR.out
                      have h5 := h4.kept (grownBy_setCell' w4 b (.slice (some ⟨g', 0, none⟩) (out.length + 1) cap')) (by simp)
                      have hc4 := h4.cell
                      have hf4 := h4.frozen
                      have hc1 := hv1'.cell
                      have hf1 := hv1'.frozen
                      clear hown4 hgrow hat
                      refine hK _ _ ?_
                      clear hK K
                      refine wpAnyIn_ready (rs := [7]) (by kernel_rfl) (by simp) ?_
                      refine AllReadyIn.cons rfl (fun K hK => ?_) ?_
                      · go_simp
                        refine hK _ _ ?_
                        clear hK K
                        refine wpAnyIn_done (by kernel_rfl) ?_ _
                        gi_wp2
                        exact cl_leaf hlt1 hk2 hv2 hr2 h5 hb2 hcs hbel hsz HE.out
                      exact AllReadyIn.nil
                    exact AllReadyIn.nil
                  exact AllReadyIn.nil
                exact AllReadyIn.nil
              exact AllReadyIn.nil
            exact AllReadyIn.nil
          exact AllReadyIn.nil
        refine AllReadyIn.cons rfl (fun K hK => ?_) ?_
        · go_simp
          refine hK _ _ ?_
          clear hK K
          refine wpAnyIn_ready (rs := [0, 2, 3]) (by kernel_rfl) (by simp) ?_
          refine AllReadyIn.cons rfl (fun K hK => ?_) ?_
          · go_simp
            refine hK _ _ ?_
            clear hK K
            refine wpAnyIn_ready (rs := [2, 3]) (by kernel_rfl) (by simp) ?_
            refine AllReadyIn.cons rfl (fun K hK => ?_) ?_
            · go_simp
              refine hK _ _ ?_
              clear hK K
              refine wpAnyIn_ready (rs := [3]) (by kernel_rfl) (by simp) ?_
              refine AllReadyIn.cons rfl (fun K hK => ?_) ?_
              · go_simp
                refine hK _ _ ?_
                clear hK K
                refine wpAnyIn_ready (rs := [4]) (by kernel_rfl) (by simp) ?_
                refine AllReadyIn.cons rfl (fun K hK => ?_) ?_
                · go_simp
                  gi_wp2
                  refine wpAnyIn_ready (rs := [5]) (by kernel_rfl) (by simp) ?_
                  refine AllReadyIn.cons rfl (fun K hK => ?_) ?_
                  · go_simp
                    refine hK _ _ ?_
                    clear hK K
                    refine wpAnyIn_ready (rs := [6]) (by kernel_rfl) (by simp) ?_
                    refine AllReadyIn.cons rfl (fun K hK => ?_) ?_
                    · refine if_intro rfl ?_
                      refine opIn_append_own _ (.tmp 22) (.tmp 27) 35 rfl b 9 i0 (.string ⟨#[]⟩) 1 16 Tryd.underlying35 hi0 hz0 hz1 hz2 rfl (by decide) _ _ _ rfl HAo.out ⟨W.heap.size, 0, none⟩ 1 1 [.string ⟨pc.toArray⟩] rfl rfl (cell_one_new _ _ _) (by simp [Value.oneCell']) (by simp only [maxLen]; omega) (by omega) (by simp; omega) ?_
                      intro v' w4 hown4 hgrow hat
                      obtain ⟨g', cap', rfl⟩ := ownsRow_succ hown4
                      obtain ⟨hv1', hv2, hr2, hk2, hb2⟩ := HBx.out.appended (by decide) HRo.out hb3 (by omega) hown4 (show (W.drew.alloc (.cells #[.string ⟨pc.toArray⟩] 9)).grownBy w4 _ from hgrow)
                      have h4 := (H1x.out.alloc (.cells #[.string ⟨pc.toArray⟩] 9)).kept (show (W.drew.alloc (.cells #[.string ⟨pc.toArray⟩] 9)).grownBy w4 _ from hgrow) HNR.out
                      have h5 := h4.kept (grownBy_setCell' w4 b (.slice (some ⟨g', 0, none⟩) (out.length + 1) cap')) (by simp)
                      have hc4 := h4.cell
                      have hf4 := h4.frozen
                      have hc1 := hv1'.cell
                      have hf1 := hv1'.frozen
                      clear hown4 hgrow hat
                      refine hK _ _ ?_
                      clear hK K
                      refine wpAnyIn_ready (rs := [7]) (by kernel_rfl) (by simp) ?_
                      refine AllReadyIn.cons rfl (fun K hK => ?_) ?_
                      · go_simp
                        refine hK _ _ ?_
                        clear hK K
                        refine wpAnyIn_done (by kernel_rfl) ?_ _
                        gi_wp2
                        exact cl_leaf hlt1 hk2 hv2 hr2 h5 hb2 hcs hbel hsz HE.out
                      exact AllReadyIn.nil
                    exact AllReadyIn.nil
                  exact AllReadyIn.nil
                exact AllReadyIn.nil
              exact AllReadyIn.nil
            refine AllReadyIn.cons rfl (fun K hK => ?_) ?_
            · go_simp
              refine hK _ _ ?_
              clear hK K
              refine wpAnyIn_ready (rs := [2]) (by kernel_rfl) (by simp) ?_
              refine AllReadyIn.cons rfl (fun K hK => ?_) ?_
              · go_simp
                refine hK _ _ ?_
                clear hK K
                refine wpAnyIn_ready (rs := [4]) (by kernel_rfl) (by simp) ?_
                refine AllReadyIn.cons rfl (fun K hK => ?_) ?_
                · go_simp
                  gi_wp2
                  refine wpAnyIn_ready (rs := [5]) (by kernel_rfl) (by simp) ?_
                  refine AllReadyIn.cons rfl (fun K hK => ?_) ?_
                  · go_simp
                    refine hK _ _ ?_
                    clear hK K
                    refine wpAnyIn_ready (rs := [6]) (by kernel_rfl) (by simp) ?_
                    refine AllReadyIn.cons rfl (fun K hK => ?_) ?_
                    · refine if_intro rfl ?_
                      refine opIn_append_own _ (.tmp 22) (.tmp 27) 35 rfl b 9 i0 (.string ⟨#[]⟩) 1 16 Tryd.underlying35 hi0 hz0 hz1 hz2 rfl (by decide) _ _ _ rfl HAo.out ⟨W.heap.size, 0, none⟩ 1 1 [.string ⟨pc.toArray⟩] rfl rfl (cell_one_new _ _ _) (by simp [Value.oneCell']) (by simp only [maxLen]; omega) (by omega) (by simp; omega) ?_
                      intro v' w4 hown4 hgrow hat
                      obtain ⟨g', cap', rfl⟩ := ownsRow_succ hown4
                      obtain ⟨hv1', hv2, hr2, hk2, hb2⟩ := HBx.out.appended (by decide) HRo.out hb3 (by omega) hown4 (show (W.drew.alloc (.cells #[.string ⟨pc.toArray⟩] 9)).grownBy w4 _ from hgrow)
                      have h4 := (H1x.out.alloc (.cells #[.string ⟨pc.toArray⟩] 9)).kept (show (W.drew.alloc (.cells #[.string ⟨pc.toArray⟩] 9)).grownBy w4 _ from hgrow) HNR.out
                      have h5 := h4.kept (grownBy_setCell' w4 b (.slice (some ⟨g', 0, none⟩) (out.length + 1) cap')) (by simp)
                      have hc4 := h4.cell
                      have hf4 := h4.frozen
                      have hc1 := hv1'.cell
                      have hf1 := hv1'.frozen
                      clear hown4 hgrow hat
                      refine hK _ _ ?_
                      clear hK K
                      refine wpAnyIn_ready (rs := [7]) (by kernel_rfl) (by simp) ?_
                      refine AllReadyIn.cons rfl (fun K hK => ?_) ?_
                      · go_simp
                        refine hK _ _ ?_
                        clear hK K
                        refine wpAnyIn_done (by kernel_rfl) ?_ _
                        gi_wp2
                        exact cl_leaf hlt1 hk2 hv2 hr2 h5 hb2 hcs hbel hsz HE.out
                      exact AllReadyIn.nil
                    exact AllReadyIn.nil
                  exact AllReadyIn.nil
                exact AllReadyIn.nil
              exact AllReadyIn.nil
            exact AllReadyIn.nil
          refine AllReadyIn.cons rfl (fun K hK => ?_) ?_
          · go_simp
            refine hK _ _ ?_
            clear hK K
            refine wpAnyIn_ready (rs := [0, 3]) (by kernel_rfl) (by simp) ?_
            refine AllReadyIn.cons rfl (fun K hK => ?_) ?_
            · go_simp
              refine hK _ _ ?_
              clear hK K
              refine wpAnyIn_ready (rs := [3]) (by kernel_rfl) (by simp) ?_
              refine AllReadyIn.cons rfl (fun K hK => ?_) ?_
              · go_simp
                refine hK _ _ ?_
                clear hK K
                refine wpAnyIn_ready (rs := [4]) (by kernel_rfl) (by simp) ?_
                refine AllReadyIn.cons rfl (fun K hK => ?_) ?_
                · go_simp
                  gi_wp2
                  refine wpAnyIn_ready (rs := [5]) (by kernel_rfl) (by simp) ?_
                  refine AllReadyIn.cons rfl (fun K hK => ?_) ?_
                  · go_simp
                    refine hK _ _ ?_
                    clear hK K
                    refine wpAnyIn_ready (rs := [6]) (by kernel_rfl) (by simp) ?_
                    refine AllReadyIn.cons rfl (fun K hK => ?_) ?_
                    · refine if_intro rfl ?_
                      refine opIn_append_own _ (.tmp 22) (.tmp 27) 35 rfl b 9 i0 (.string ⟨#[]⟩) 1 16 Tryd.underlying35 hi0 hz0 hz1 hz2 rfl (by decide) _ _ _ rfl HAo.out ⟨W.heap.size, 0, none⟩ 1 1 [.string ⟨pc.toArray⟩] rfl rfl (cell_one_new _ _ _) (by simp [Value.oneCell']) (by simp only [maxLen]; omega) (by omega) (by simp; omega) ?_
                      intro v' w4 hown4 hgrow hat
                      obtain ⟨g', cap', rfl⟩ := ownsRow_succ hown4
                      obtain ⟨hv1', hv2, hr2, hk2, hb2⟩ := HBx.out.appended (by decide) HRo.out hb3 (by omega) hown4 (show (W.drew.alloc (.cells #[.string ⟨pc.toArray⟩] 9)).grownBy w4 _ from hgrow)
                      have h4 := (H1x.out.alloc (.cells #[.string ⟨pc.toArray⟩] 9)).kept (show (W.drew.alloc (.cells #[.string ⟨pc.toArray⟩] 9)).grownBy w4 _ from hgrow) HNR.out
                      have h5 := h4.kept (grownBy_setCell' w4 b (.slice (some ⟨g', 0, none⟩) (out.length + 1) cap')) (by simp)
                      have hc4 := h4.cell
                      have hf4 := h4.frozen
                      have hc1 := hv1'.cell
                      have hf1 := hv1'.frozen
                      clear hown4 hgrow hat
                      refine hK _ _ ?_
                      clear hK K
                      refine wpAnyIn_ready (rs := [7]) (by kernel_rfl) (by simp) ?_
                      refine AllReadyIn.cons rfl (fun K hK => ?_) ?_
                      · go_simp
                        refine hK _ _ ?_
                        clear hK K
                        refine wpAnyIn_done (by kernel_rfl) ?_ _
                        gi_wp2
                        exact cl_leaf hlt1 hk2 hv2 hr2 h5 hb2 hcs hbel hsz HE.out
                      exact AllReadyIn.nil
                    exact AllReadyIn.nil
                  exact AllReadyIn.nil
                exact AllReadyIn.nil
              exact AllReadyIn.nil
            refine AllReadyIn.cons rfl (fun K hK => ?_) ?_
            · go_simp
              refine hK _ _ ?_
              clear hK K
              refine wpAnyIn_ready (rs := [0, 4]) (by kernel_rfl) (by simp) ?_
              refine AllReadyIn.cons rfl (fun K hK => ?_) ?_
              · go_simp
                refine hK _ _ ?_
                clear hK K
                refine wpAnyIn_ready (rs := [4]) (by kernel_rfl) (by simp) ?_
                refine AllReadyIn.cons rfl (fun K hK => ?_) ?_
                · go_simp
                  gi_wp2
                  refine wpAnyIn_ready (rs := [5]) (by kernel_rfl) (by simp) ?_
                  refine AllReadyIn.cons rfl (fun K hK => ?_) ?_
                  · go_simp
                    refine hK _ _ ?_
                    clear hK K
                    refine wpAnyIn_ready (rs := [6]) (by kernel_rfl) (by simp) ?_
                    refine AllReadyIn.cons rfl (fun K hK => ?_) ?_
                    · refine if_intro rfl ?_
                      refine opIn_append_own _ (.tmp 22) (.tmp 27) 35 rfl b 9 i0 (.string ⟨#[]⟩) 1 16 Tryd.underlying35 hi0 hz0 hz1 hz2 rfl (by decide) _ _ _ rfl HAo.out ⟨W.heap.size, 0, none⟩ 1 1 [.string ⟨pc.toArray⟩] rfl rfl (cell_one_new _ _ _) (by simp [Value.oneCell']) (by simp only [maxLen]; omega) (by omega) (by simp; omega) ?_
                      intro v' w4 hown4 hgrow hat
                      obtain ⟨g', cap', rfl⟩ := ownsRow_succ hown4
                      obtain ⟨hv1', hv2, hr2, hk2, hb2⟩ := HBx.out.appended (by decide) HRo.out hb3 (by omega) hown4 (show (W.drew.alloc (.cells #[.string ⟨pc.toArray⟩] 9)).grownBy w4 _ from hgrow)
                      have h4 := (H1x.out.alloc (.cells #[.string ⟨pc.toArray⟩] 9)).kept (show (W.drew.alloc (.cells #[.string ⟨pc.toArray⟩] 9)).grownBy w4 _ from hgrow) HNR.out
                      have h5 := h4.kept (grownBy_setCell' w4 b (.slice (some ⟨g', 0, none⟩) (out.length + 1) cap')) (by simp)
                      have hc4 := h4.cell
                      have hf4 := h4.frozen
                      have hc1 := hv1'.cell
                      have hf1 := hv1'.frozen
                      clear hown4 hgrow hat
                      refine hK _ _ ?_
                      clear hK K
                      refine wpAnyIn_ready (rs := [7]) (by kernel_rfl) (by simp) ?_
                      refine AllReadyIn.cons rfl (fun K hK => ?_) ?_
                      · go_simp
                        refine hK _ _ ?_
                        clear hK K
                        refine wpAnyIn_done (by kernel_rfl) ?_ _
                        gi_wp2
                        exact cl_leaf hlt1 hk2 hv2 hr2 h5 hb2 hcs hbel hsz HE.out
                      exact AllReadyIn.nil
                    exact AllReadyIn.nil
                  exact AllReadyIn.nil
                exact AllReadyIn.nil
              refine AllReadyIn.cons rfl (fun K hK => ?_) ?_
              · go_simp
                gi_wp2
                refine wpAnyIn_ready (rs := [0, 5]) (by kernel_rfl) (by simp) ?_
                refine AllReadyIn.cons rfl (fun K hK => ?_) ?_
                · go_simp
                  refine hK _ _ ?_
                  clear hK K
                  refine wpAnyIn_ready (rs := [5]) (by kernel_rfl) (by simp) ?_
                  refine AllReadyIn.cons rfl (fun K hK => ?_) ?_
                  · go_simp
                    refine hK _ _ ?_
                    clear hK K
                    refine wpAnyIn_ready (rs := [6]) (by kernel_rfl) (by simp) ?_
                    refine AllReadyIn.cons rfl (fun K hK => ?_) ?_
                    · refine if_intro rfl ?_
                      refine opIn_append_own _ (.tmp 22) (.tmp 27) 35 rfl b 9 i0 (.string ⟨#[]⟩) 1 16 Tryd.underlying35 hi0 hz0 hz1 hz2 rfl (by decide) _ _ _ rfl HAo.out ⟨W.heap.size, 0, none⟩ 1 1 [.string ⟨pc.toArray⟩] rfl rfl (cell_one_new _ _ _) (by simp [Value.oneCell']) (by simp only [maxLen]; omega) (by omega) (by simp; omega) ?_
                      intro v' w4 hown4 hgrow hat
                      obtain ⟨g', cap', rfl⟩ := ownsRow_succ hown4
                      obtain ⟨hv1', hv2, hr2, hk2, hb2⟩ := HBx.out.appended (by decide) HRo.out hb3 (by omega) hown4 (show (W.drew.alloc (.cells #[.string ⟨pc.toArray⟩] 9)).grownBy w4 _ from hgrow)
                      have h4 := (H1x.out.alloc (.cells #[.string ⟨pc.toArray⟩] 9)).kept (show (W.drew.alloc (.cells #[.string ⟨pc.toArray⟩] 9)).grownBy w4 _ from hgrow) HNR.out
                      have h5 := h4.kept (grownBy_setCell' w4 b (.slice (some ⟨g', 0, none⟩) (out.length + 1) cap')) (by simp)
                      have hc4 := h4.cell
                      have hf4 := h4.frozen
                      have hc1 := hv1'.cell
                      have hf1 := hv1'.frozen
                      clear hown4 hgrow hat
                      refine hK _ _ ?_
                      clear hK K
                      refine wpAnyIn_ready (rs := [7]) (by kernel_rfl) (by simp) ?_
                      refine AllReadyIn.cons rfl (fun K hK => ?_) ?_
                      · go_simp
                        refine hK _ _ ?_
                        clear hK K
                        refine wpAnyIn_done (by kernel_rfl) ?_ _
                        gi_wp2
                        exact cl_leaf hlt1 hk2 hv2 hr2 h5 hb2 hcs hbel hsz HE.out
                      exact AllReadyIn.nil
                    exact AllReadyIn.nil
                  exact AllReadyIn.nil
                refine AllReadyIn.cons rfl (fun K hK => ?_) ?_
                · go_simp
                  refine hK _ _ ?_
                  clear hK K
                  refine wpAnyIn_ready (rs := [0]) (by kernel_rfl) (by simp) ?_
                  refine AllReadyIn.cons rfl (fun K hK => ?_) ?_
                  · go_simp
                    refine hK _ _ ?_
                    clear hK K
                    refine wpAnyIn_ready (rs := [6]) (by kernel_rfl) (by simp) ?_
                    refine AllReadyIn.cons rfl (fun K hK => ?_) ?_
                    · refine if_intro rfl ?_
                      refine opIn_append_own _ (.tmp 22) (.tmp 27) 35 rfl b 9 i0 (.string ⟨#[]⟩) 1 16 Tryd.underlying35 hi0 hz0 hz1 hz2 rfl (by decide) _ _ _ rfl HAo.out ⟨W.heap.size, 0, none⟩ 1 1 [.string ⟨pc.toArray⟩] rfl rfl (cell_one_new _ _ _) (by simp [Value.oneCell']) (by simp only [maxLen]; omega) (by omega) (by simp; omega) ?_
                      intro v' w4 hown4 hgrow hat
                      obtain ⟨g', cap', rfl⟩ := ownsRow_succ hown4
                      obtain ⟨hv1', hv2, hr2, hk2, hb2⟩ := HBx.out.appended (by decide) HRo.out hb3 (by omega) hown4 (show (W.drew.alloc (.cells #[.string ⟨pc.toArray⟩] 9)).grownBy w4 _ from hgrow)
                      have h4 := (H1x.out.alloc (.cells #[.string ⟨pc.toArray⟩] 9)).kept (show (W.drew.alloc (.cells #[.string ⟨pc.toArray⟩] 9)).grownBy w4 _ from hgrow) HNR.out
                      have h5 := h4.kept (grownBy_setCell' w4 b (.slice (some ⟨g', 0, none⟩) (out.length + 1) cap')) (by simp)
                      have hc4 := h4.cell
                      have hf4 := h4.frozen
                      have hc1 := hv1'.cell
                      have hf1 := hv1'.frozen
                      clear hown4 hgrow hat
                      refine hK _ _ ?_
                      clear hK K
                      refine wpAnyIn_ready (rs := [7]) (by kernel_rfl) (by simp) ?_
                      refine AllReadyIn.cons rfl (fun K hK => ?_) ?_
                      · go_simp
                        refine hK _ _ ?_
                        clear hK K
                        refine wpAnyIn_done (by kernel_rfl) ?_ _
                        gi_wp2
                        exact cl_leaf hlt1 hk2 hv2 hr2 h5 hb2 hcs hbel hsz HE.out
                      exact AllReadyIn.nil
                    exact AllReadyIn.nil
                  exact AllReadyIn.nil
                exact AllReadyIn.nil
              exact AllReadyIn.nil
            exact AllReadyIn.nil
          refine AllReadyIn.cons rfl (fun K hK => ?_) ?_
          · go_simp
            refine hK _ _ ?_
            clear hK K
            refine wpAnyIn_ready (rs := [0, 2]) (by kernel_rfl) (by simp) ?_
            refine AllReadyIn.cons rfl (fun K hK => ?_) ?_
            · go_simp
              refine hK _ _ ?_
              clear hK K
              refine wpAnyIn_ready (rs := [2]) (by kernel_rfl) (by simp) ?_
              refine AllReadyIn.cons rfl (fun K hK => ?_) ?_
              · go_simp
                refine hK _ _ ?_
                clear hK K
                refine wpAnyIn_ready (rs := [4]) (by kernel_rfl) (by simp) ?_
                refine AllReadyIn.cons rfl (fun K hK => ?_) ?_
                · go_simp
                  gi_wp2
                  refine wpAnyIn_ready (rs := [5]) (by kernel_rfl) (by simp) ?_
                  refine AllReadyIn.cons rfl (fun K hK => ?_) ?_
                  · go_simp
                    refine hK _ _ ?_
                    clear hK K
                    refine wpAnyIn_ready (rs := [6]) (by kernel_rfl) (by simp) ?_
                    refine AllReadyIn.cons rfl (fun K hK => ?_) ?_
                    · refine if_intro rfl ?_
                      refine opIn_append_own _ (.tmp 22) (.tmp 27) 35 rfl b 9 i0 (.string ⟨#[]⟩) 1 16 Tryd.underlying35 hi0 hz0 hz1 hz2 rfl (by decide) _ _ _ rfl HAo.out ⟨W.heap.size, 0, none⟩ 1 1 [.string ⟨pc.toArray⟩] rfl rfl (cell_one_new _ _ _) (by simp [Value.oneCell']) (by simp only [maxLen]; omega) (by omega) (by simp; omega) ?_
                      intro v' w4 hown4 hgrow hat
                      obtain ⟨g', cap', rfl⟩ := ownsRow_succ hown4
                      obtain ⟨hv1', hv2, hr2, hk2, hb2⟩ := HBx.out.appended (by decide) HRo.out hb3 (by omega) hown4 (show (W.drew.alloc (.cells #[.string ⟨pc.toArray⟩] 9)).grownBy w4 _ from hgrow)
                      have h4 := (H1x.out.alloc (.cells #[.string ⟨pc.toArray⟩] 9)).kept (show (W.drew.alloc (.cells #[.string ⟨pc.toArray⟩] 9)).grownBy w4 _ from hgrow) HNR.out
                      have h5 := h4.kept (grownBy_setCell' w4 b (.slice (some ⟨g', 0, none⟩) (out.length + 1) cap')) (by simp)
                      have hc4 := h4.cell
                      have hf4 := h4.frozen
                      have hc1 := hv1'.cell
                      have hf1 := hv1'.frozen
                      clear hown4 hgrow hat
                      refine hK _ _ ?_
                      clear hK K
                      refine wpAnyIn_ready (rs := [7]) (by kernel_rfl) (by simp) ?_
                      refine AllReadyIn.cons rfl (fun K hK => ?_) ?_
                      · go_simp
                        refine hK _ _ ?_
                        clear hK K
                        refine wpAnyIn_done (by kernel_rfl) ?_ _
                        gi_wp2
                        exact cl_leaf hlt1 hk2 hv2 hr2 h5 hb2 hcs hbel hsz HE.out
                      exact AllReadyIn.nil
                    exact AllReadyIn.nil
                  exact AllReadyIn.nil
                exact AllReadyIn.nil
              exact AllReadyIn.nil
            refine AllReadyIn.cons rfl (fun K hK => ?_) ?_
            · go_simp
              refine hK _ _ ?_
              clear hK K
              refine wpAnyIn_ready (rs := [0, 4]) (by kernel_rfl) (by simp) ?_
              refine AllReadyIn.cons rfl (fun K hK => ?_) ?_
              · go_simp
                refine hK _ _ ?_
                clear hK K
                refine wpAnyIn_ready (rs := [4]) (by kernel_rfl) (by simp) ?_
                refine AllReadyIn.cons rfl (fun K hK => ?_) ?_
                · go_simp
                  gi_wp2
                  refine wpAnyIn_ready (rs := [5]) (by kernel_rfl) (by simp) ?_
                  refine AllReadyIn.cons rfl (fun K hK => ?_) ?_
                  · go_simp
                    refine hK _ _ ?_
                    clear hK K
                    refine wpAnyIn_ready (rs := [6]) (by kernel_rfl) (by simp) ?_
                    refine AllReadyIn.cons rfl (fun K hK => ?_) ?_
                    · refine if_intro rfl ?_
                      refine opIn_append_own _ (.tmp 22) (.tmp 27) 35 rfl b 9 i0 (.string ⟨#[]⟩) 1 16 Tryd.underlying35 hi0 hz0 hz1 hz2 rfl (by decide) _ _ _ rfl HAo.out ⟨W.heap.size, 0, none⟩ 1 1 [.string ⟨pc.toArray⟩] rfl rfl (cell_one_new _ _ _) (by simp [Value.oneCell']) (by simp only [maxLen]; omega) (by omega) (by simp; omega) ?_
                      intro v' w4 hown4 hgrow hat
                      obtain ⟨g', cap', rfl⟩ := ownsRow_succ hown4
                      obtain ⟨hv1', hv2, hr2, hk2, hb2⟩ := HBx.out.appended (by decide) HRo.out hb3 (by omega) hown4 (show (W.drew.alloc (.cells #[.string ⟨pc.toArray⟩] 9)).grownBy w4 _ from hgrow)
                      have h4 := (H1x.out.alloc (.cells #[.string ⟨pc.toArray⟩] 9)).kept (show (W.drew.alloc (.cells #[.string ⟨pc.toArray⟩] 9)).grownBy w4 _ from hgrow) HNR.out
                      have h5 := h4.kept (grownBy_setCell' w4 b (.slice (some ⟨g', 0, none⟩) (out.length + 1) cap')) (by simp)
                      have hc4 := h4.cell
                      have hf4 := h4.frozen
                      have hc1 := hv1'.cell
                      have hf1 := hv1'.frozen
                      clear hown4 hgrow hat
                      refine hK _ _ ?_
                      clear hK K
                      refine wpAnyIn_ready (rs := [7]) (by kernel_rfl) (by simp) ?_
                      refine AllReadyIn.cons rfl (fun K hK => ?_) ?_
                      · go_simp
                        refine hK _ _ ?_
                        clear hK K
                        refine wpAnyIn_done (by kernel_rfl) ?_ _
                        gi_wp2
                        exact cl_leaf hlt1 hk2 hv2 hr2 h5 hb2 hcs hbel hsz HE.out
                      exact AllReadyIn.nil
                    exact AllReadyIn.nil
                  exact AllReadyIn.nil
                exact AllReadyIn.nil
              refine AllReadyIn.cons rfl (fun K hK => ?_) ?_
              · go_simp
                gi_wp2
                refine wpAnyIn_ready (rs := [0, 5]) (by kernel_rfl) (by simp) ?_
                refine AllReadyIn.cons rfl (fun K hK => ?_) ?_
                · go_simp
                  refine hK _ _ ?_
                  clear hK K
                  refine wpAnyIn_ready (rs := [5]) (by kernel_rfl) (by simp) ?_
                  refine AllReadyIn.cons rfl (fun K hK => ?_) ?_
                  · go_simp
                    refine hK _ _ ?_
                    clear hK K
                    refine wpAnyIn_ready (rs := [6]) (by kernel_rfl) (by simp) ?_
                    refine AllReadyIn.cons rfl (fun K hK => ?_) ?_
                    · refine if_intro rfl ?_
                      refine opIn_append_own _ (.tmp 22) (.tmp 27) 35 rfl b 9 i0 (.string ⟨#[]⟩) 1 16 Tryd.underlying35 hi0 hz0 hz1 hz2 rfl (by decide) _ _ _ rfl HAo.out ⟨W.heap.size, 0, none⟩ 1 1 [.string ⟨pc.toArray⟩] rfl rfl (cell_one_new _ _ _) (by simp [Value.oneCell']) (by simp only [maxLen]; omega) (by omega) (by simp; omega) ?_
                      intro v' w4 hown4 hgrow hat
                      obtain ⟨g', cap', rfl⟩ := ownsRow_succ hown4
                      obtain ⟨hv1', hv2, hr2, hk2, hb2⟩ := HBx.out.appended (by decide) HRo.out hb3 (by omega) hown4 (show (W.drew.alloc (.cells #[.string ⟨pc.toArray⟩] 9)).grownBy w4 _ from hgrow)
                      have h4 := (H1x.out.alloc (.cells #[.string ⟨pc.toArray⟩] 9)).kept (show (W.drew.alloc (.cells #[.string ⟨pc.toArray⟩] 9)).grownBy w4 _ from hgrow) HNR.out
                      have h5 := h4.kept (grownBy_setCell' w4 b (.slice (some ⟨g', 0, none⟩) (out.length + 1) cap')) (by simp)
                      have hc4 := h4.cell
                      have hf4 := h4.frozen
                      have hc1 := hv1'.cell
                      have hf1 := hv1'.frozen
                      clear hown4 hgrow hat
                      refine hK _ _ ?_
                      clear hK K
                      refine wpAnyIn_ready (rs := [7]) (by kernel_rfl) (by simp) ?_
                      refine AllReadyIn.cons rfl (fun K hK => ?_) ?_
                      · go_simp
                        refine hK _ _ ?_
                        clear hK K
                        refine wpAnyIn_done (by kernel_rfl) ?_ _
                        gi_wp2
                        exact cl_leaf hlt1 hk2 hv2 hr2 h5 hb2 hcs hbel hsz HE.out
                      exact AllReadyIn.nil
                    exact AllReadyIn.nil
                  exact AllReadyIn.nil
                refine AllReadyIn.cons rfl (fun K hK => ?_) ?_
                · go_simp
                  refine hK _ _ ?_
                  clear hK K
                  refine wpAnyIn_ready (rs := [0]) (by kernel_rfl) (by simp) ?_
                  refine AllReadyIn.cons rfl (fun K hK => ?_) ?_
                  · go_simp
                    refine hK _ _ ?_
                    clear hK K
                    refine wpAnyIn_ready (rs := [6]) (by kernel_rfl) (by simp) ?_
                    refine AllReadyIn.cons rfl (fun K hK => ?_) ?_
                    · refine if_intro rfl ?_
                      refine opIn_append_own _ (.tmp 22) (.tmp 27) 35 rfl b 9 i0 (.string ⟨#[]⟩) 1 16 Tryd.underlying35 hi0 hz0 hz1 hz2 rfl (by decide) _ _ _ rfl HAo.out ⟨W.heap.size, 0, none⟩ 1 1 [.string ⟨pc.toArray⟩] rfl rfl (cell_one_new _ _ _) (by simp [Value.oneCell']) (by simp only [maxLen]; omega) (by omega) (by simp; omega) ?_
                      intro v' w4 hown4 hgrow hat
                      obtain ⟨g', cap', rfl⟩ := ownsRow_succ hown4
                      obtain ⟨hv1', hv2, hr2, hk2, hb2⟩ := HBx.out.appended (by decide) HRo.out hb3 (by omega) hown4 (show (W.drew.alloc (.cells #[.string ⟨pc.toArray⟩] 9)).grownBy w4 _ from hgrow)
                      have h4 := (H1x.out.alloc (.cells #[.string ⟨pc.toArray⟩] 9)).kept (show (W.drew.alloc (.cells #[.string ⟨pc.toArray⟩] 9)).grownBy w4 _ from hgrow) HNR.out
                      have h5 := h4.kept (grownBy_setCell' w4 b (.slice (some ⟨g', 0, none⟩) (out.length + 1) cap')) (by simp)
                      have hc4 := h4.cell
                      have hf4 := h4.frozen
                      have hc1 := hv1'.cell
                      have hf1 := hv1'.frozen
                      clear hown4 hgrow hat
                      refine hK _ _ ?_
                      clear hK K
                      refine wpAnyIn_ready (rs := [7]) (by kernel_rfl) (by simp) ?_
                      refine AllReadyIn.cons rfl (fun K hK => ?_) ?_
                      · go_simp
                        refine hK _ _ ?_
                        clear hK K
                        refine wpAnyIn_done (by kernel_rfl) ?_ _
                        gi_wp2
                        exact cl_leaf hlt1 hk2 hv2 hr2 h5 hb2 hcs hbel hsz HE.out
                      exact AllReadyIn.nil
                    exact AllReadyIn.nil
                  exact AllReadyIn.nil
                exact AllReadyIn.nil
              exact AllReadyIn.nil
            exact AllReadyIn.nil
          exact AllReadyIn.nil
        refine AllReadyIn.cons rfl (fun K hK => ?_) ?_
        · go_simp
          refine hK _ _ ?_
          clear hK K
          refine wpAnyIn_ready (rs := [0, 1, 3]) (by kernel_rfl) (by simp) ?_
          refine AllReadyIn.cons rfl (fun K hK => ?_) ?_
          · go_simp
            refine hK _ _ ?_
            clear hK K
            refine wpAnyIn_ready (rs := [1, 3]) (by kernel_rfl) (by simp) ?_
            refine AllReadyIn.cons rfl (fun K hK => ?_) ?_
            · go_simp
              refine hK _ _ ?_
              clear hK K
              refine wpAnyIn_ready (rs := [3]) (by kernel_rfl) (by simp) ?_
              refine AllReadyIn.cons rfl (fun K hK => ?_) ?_
              · go_simp
                refine hK _ _ ?_
                clear hK K
                refine wpAnyIn_ready (rs := [4]) (by kernel_rfl) (by simp) ?_
                refine AllReadyIn.cons rfl (fun K hK => ?_) ?_
                · go_simp
                  gi_wp2
                  refine wpAnyIn_ready (rs := [5]) (by kernel_rfl) (by simp) ?_
                  refine AllReadyIn.cons rfl (fun K hK => ?_) ?_
                  · go_simp
                    refine hK _ _ ?_
                    clear hK K
                    refine wpAnyIn_ready (rs := [6]) (by kernel_rfl) (by simp) ?_
                    refine AllReadyIn.cons rfl (fun K hK => ?_) ?_
                    · refine if_intro rfl ?_
                      refine opIn_append_own _ (.tmp 22) (.tmp 27) 35 rfl b 9 i0 (.string ⟨#[]⟩) 1 16 Tryd.underlying35 hi0 hz0 hz1 hz2 rfl (by decide) _ _ _ rfl HAo.out ⟨W.heap.size, 0, none⟩ 1 1 [.string ⟨pc.toArray⟩] rfl rfl (cell_one_new _ _ _) (by simp [Value.oneCell']) (by simp only [maxLen]; omega) (by omega) (by simp; omega) ?_
                      intro v' w4 hown4 hgrow hat
                      obtain ⟨g', cap', rfl⟩ := ownsRow_succ hown4
                      obtain ⟨hv1', hv2, hr2, hk2, hb2⟩ := HBx.out.appended (by decide) HRo.out hb3 (by omega) hown4 (show (W.drew.alloc (.cells #[.string ⟨pc.toArray⟩] 9)).grownBy w4 _ from hgrow)
                      have h4 := (H1x.out.alloc (.cells #[.string ⟨pc.toArray⟩] 9)).kept (show (W.drew.alloc (.cells #[.string ⟨pc.toArray⟩] 9)).grownBy w4 _ from hgrow) HNR.out
                      have h5 := h4.kept (grownBy_setCell' w4 b (.slice (some ⟨g', 0, none⟩) (out.length + 1) cap')) (by simp)
                      have hc4 := h4.cell
                      have hf4 := h4.frozen
                      have hc1 := hv1'.cell
                      have hf1 := hv1'.frozen
                      clear hown4 hgrow hat
                      refine hK _ _ ?_
                      clear hK K
                      refine wpAnyIn_ready (rs := [7]) (by kernel_rfl) (by simp) ?_
                      refine AllReadyIn.cons rfl (fun K hK => ?_) ?_
                      · go_simp
                        refine hK _ _ ?_
                        clear hK K
                        refine wpAnyIn_done (by kernel_rfl) ?_ _
                        gi_wp2
                        exact cl_leaf hlt1 hk2 hv2 hr2 h5 hb2 hcs hbel hsz HE.out
                      exact AllReadyIn.nil
                    exact AllReadyIn.nil
                  exact AllReadyIn.nil
                exact AllReadyIn.nil
              exact AllReadyIn.nil
            refine AllReadyIn.cons rfl (fun K hK => ?_) ?_
            · go_simp
              refine hK _ _ ?_
              clear hK K
              refine wpAnyIn_ready (rs := [1]) (by kernel_rfl) (by simp) ?_
              refine AllReadyIn.cons rfl (fun K hK => ?_) ?_
              · go_simp
                refine hK _ _ ?_
                clear hK K
                refine wpAnyIn_ready (rs := [4]) (by kernel_rfl) (by simp) ?_
                refine AllReadyIn.cons rfl (fun K hK => ?_) ?_
                · go_simp
                  gi_wp2
                  refine wpAnyIn_ready (rs := [5]) (by kernel_rfl) (by simp) ?_
                  refine AllReadyIn.cons rfl (fun K hK => ?_) ?_
                  · go_simp
                    refine hK _ _ ?_
                    clear hK K
                    refine wpAnyIn_ready (rs := [6]) (by kernel_rfl) (by simp) ?_
                    refine AllReadyIn.cons rfl (fun K hK => ?_) ?_
                    · refine if_intro rfl ?_
                      refine opIn_append_own _ (.tmp 22) (.tmp 27) 35 rfl b 9 i0 (.string ⟨#[]⟩) 1 16 Tryd.underlying35 hi0 hz0 hz1 hz2 rfl (by decide) _ _ _ rfl HAo.out ⟨W.heap.size, 0, none⟩ 1 1 [.string ⟨pc.toArray⟩] rfl rfl (cell_one_new _ _ _) (by simp [Value.oneCell']) (by simp only [maxLen]; omega) (by omega) (by simp; omega) ?_
                      intro v' w4 hown4 hgrow hat
                      obtain ⟨g', cap', rfl⟩ := ownsRow_succ hown4
                      obtain ⟨hv1', hv2, hr2, hk2, hb2⟩ := HBx.out.appended (by decide) HRo.out hb3 (by omega) hown4 (show (W.drew.alloc (.cells #[.string ⟨pc.toArray⟩] 9)).grownBy w4 _ from hgrow)
                      have h4 := (H1x.out.alloc (.cells #[.string ⟨pc.toArray⟩] 9)).kept (show (W.drew.alloc (.cells #[.string ⟨pc.toArray⟩] 9)).grownBy w4 _ from hgrow) HNR.out
                      have h5 := h4.kept (grownBy_setCell' w4 b (.slice (some ⟨g', 0, none⟩) (out.length + 1) cap')) (by simp)
                      have hc4 := h4.cell
                      have hf4 := h4.frozen
                      have hc1 := hv1'.cell
                      have hf1 := hv1'.frozen
                      clear hown4 hgrow hat
                      refine hK _ _ ?_
                      clear hK K
                      refine wpAnyIn_ready (rs := [7]) (by kernel_rfl) (by simp) ?_
                      refine AllReadyIn.cons rfl (fun K hK => ?_) ?_
                      · go_simp
                        refine hK _ _ ?_
                        clear hK K
                        refine wpAnyIn_done (by kernel_rfl) ?_ _
                        gi_wp2
                        exact cl_leaf hlt1 hk2 hv2 hr2 h5 hb2 hcs hbel hsz HE.out
                      exact AllReadyIn.nil
                    exact AllReadyIn.nil
                  exact AllReadyIn.nil
                exact AllReadyIn.nil
              exact AllReadyIn.nil
            exact AllReadyIn.nil
          refine AllReadyIn.cons rfl (fun K hK => ?_) ?_
          · go_simp
            refine hK _ _ ?_
            clear hK K
            refine wpAnyIn_ready (rs := [0, 3]) (by kernel_rfl) (by simp) ?_
            refine AllReadyIn.cons rfl (fun K hK => ?_) ?_
            · go_simp
              refine hK _ _ ?_
              clear hK K
              refine wpAnyIn_ready (rs := [3]) (by kernel_rfl) (by simp) ?_
              refine AllReadyIn.cons rfl (fun K hK => ?_) ?_
              · go_simp
                refine hK _ _ ?_
                clear hK K
                refine wpAnyIn_ready (rs := [4]) (by kernel_rfl) (by simp) ?_
                refine AllReadyIn.cons rfl (fun K hK => ?_) ?_
                · go_simp
                  gi_wp2
                  refine wpAnyIn_ready (rs := [5]) (by kernel_rfl) (by simp) ?_
                  refine AllReadyIn.cons rfl (fun K hK => ?_) ?_
                  · go_simp
                    refine hK _ _ ?_
                    clear hK K
                    refine wpAnyIn_ready (rs := [6]) (by kernel_rfl) (by simp) ?_
                    refine AllReadyIn.cons rfl (fun K hK => ?_) ?_
                    · refine if_intro rfl ?_
                      refine opIn_append_own _ (.tmp 22) (.tmp 27) 35 rfl b 9 i0 (.string ⟨#[]⟩) 1 16 Tryd.underlying35 hi0 hz0 hz1 hz2 rfl (by decide) _ _ _ rfl HAo.out ⟨W.heap.size, 0, none⟩ 1 1 [.string ⟨pc.toArray⟩] rfl rfl (cell_one_new _ _ _) (by simp [Value.oneCell']) (by simp only [maxLen]; omega) (by omega) (by simp; omega) ?_
                      intro v' w4 hown4 hgrow hat
                      obtain ⟨g', cap', rfl⟩ := ownsRow_succ hown4
                      obtain ⟨hv1', hv2, hr2, hk2, hb2⟩ := HBx.out.appended (by decide) HRo.out hb3 (by omega) hown4 (show (W.drew.alloc (.cells #[.string ⟨pc.toArray⟩] 9)).grownBy w4 _ from hgrow)
                      have h4 := (H1x.out.alloc (.cells #[.string ⟨pc.toArray⟩] 9)).kept (show (W.drew.alloc (.cells #[.string ⟨pc.toArray⟩] 9)).grownBy w4 _ from hgrow) HNR.out
                      have h5 := h4.kept (grownBy_setCell' w4 b (.slice (some ⟨g', 0, none⟩) (out.length + 1) cap')) (by simp)
                      have hc4 := h4.cell
                      have hf4 := h4.frozen
                      have hc1 := hv1'.cell
                      have hf1 := hv1'.frozen
                      clear hown4 hgrow hat
                      refine hK _ _ ?_
                      clear hK K
                      refine wpAnyIn_ready (rs := [7]) (by kernel_rfl) (by simp) ?_
                      refine AllReadyIn.cons rfl (fun K hK => ?_) ?_
                      · go_simp
                        refine hK _ _ ?_
                        clear hK K
                        refine wpAnyIn_done (by kernel_rfl) ?_ _
                        gi_wp2
                        exact cl_leaf hlt1 hk2 hv2 hr2 h5 hb2 hcs hbel hsz HE.out
                      exact AllReadyIn.nil
                    exact AllReadyIn.nil
                  exact AllReadyIn.nil
                exact AllReadyIn.nil
              exact AllReadyIn.nil
            refine AllReadyIn.cons rfl (fun K hK => ?_) ?_
            · go_simp
              refine hK _ _ ?_
              clear hK K
              refine wpAnyIn_ready (rs := [0, 4]) (by kernel_rfl) (by simp) ?_
              refine AllReadyIn.cons rfl (fun K hK => ?_) ?_
              · go_simp
                refine hK _ _ ?_
                clear hK K
                refine wpAnyIn_ready (rs := [4]) (by kernel_rfl) (by simp) ?_
                refine AllReadyIn.cons rfl (fun K hK => ?_) ?_
                · go_simp
                  gi_wp2
                  refine wpAnyIn_ready (rs := [5]) (by kernel_rfl) (by simp) ?_
                  refine AllReadyIn.cons rfl (fun K hK => ?_) ?_
                  · go_simp
                    refine hK _ _ ?_
                    clear hK K
                    refine wpAnyIn_ready (rs := [6]) (by kernel_rfl) (by simp) ?_
                    refine AllReadyIn.cons rfl (fun K hK => ?_) ?_
                    · refine if_intro rfl ?_
                      refine opIn_append_own _ (.tmp 22) (.tmp 27) 35 rfl b 9 i0 (.string ⟨#[]⟩) 1 16 Tryd.underlying35 hi0 hz0 hz1 hz2 rfl (by decide) _ _ _ rfl HAo.out ⟨W.heap.size, 0, none⟩ 1 1 [.string ⟨pc.toArray⟩] rfl rfl (cell_one_new _ _ _) (by simp [Value.oneCell']) (by simp only [maxLen]; omega) (by omega) (by simp; omega) ?_
                      intro v' w4 hown4 hgrow hat
                      obtain ⟨g', cap', rfl⟩ := ownsRow_succ hown4
                      obtain ⟨hv1', hv2, hr2, hk2, hb2⟩ := HBx.out.appended (by decide) HRo.out hb3 (by omega) hown4 (show (W.drew.alloc (.cells #[.string ⟨pc.toArray⟩] 9)).grownBy w4 _ from hgrow)
                      have h4 := (H1x.out.alloc (.cells #[.string ⟨pc.toArray⟩] 9)).kept (show (W.drew.alloc (.cells #[.string ⟨pc.toArray⟩] 9)).grownBy w4 _ from hgrow) HNR.out
                      have h5 := h4.kept (grownBy_setCell' w4 b (.slice (some ⟨g', 0, none⟩) (out.length + 1) cap')) (by simp)
                      have hc4 := h4.cell
                      have hf4 := h4.frozen
                      have hc1 := hv1'.cell
                      have hf1 := hv1'.frozen
                      clear hown4 hgrow hat
                      refine hK _ _ ?_
                      clear hK K
                      refine wpAnyIn_ready (rs := [7]) (by kernel_rfl) (by simp) ?_
                      refine AllReadyIn.cons rfl (fun K hK => ?_) ?_
                      · go_simp
                        refine hK _ _ ?_
                        clear hK K
                        refine wpAnyIn_done (by kernel_rfl) ?_ _
                        gi_wp2
                        exact cl_leaf hlt1 hk2 hv2 hr2 h5 hb2 hcs hbel hsz HE.out
                      exact AllReadyIn.nil
                    exact AllReadyIn.nil
                  exact AllReadyIn.nil
                exact AllReadyIn.nil
              refine AllReadyIn.cons rfl (fun K hK => ?_) ?_
              · go_simp
                gi_wp2
                refine wpAnyIn_ready (rs := [0, 5]) (by kernel_rfl) (by simp) ?_
                refine AllReadyIn.cons rfl (fun K hK => ?_) ?_
                · go_simp
                  refine hK _ _ ?_
                  clear hK K
                  refine wpAnyIn_ready (rs := [5]) (by kernel_rfl) (by simp) ?_
                  refine AllReadyIn.cons rfl (fun K hK => ?_) ?_
                  · go_simp
                    refine hK _ _ ?_
                    clear hK K
                    refine wpAnyIn_ready (rs := [6]) (by kernel_rfl) (by simp) ?_
                    refine AllReadyIn.cons rfl (fun K hK => ?_) ?_
                    · refine if_intro rfl ?_
                      refine opIn_append_own _ (.tmp 22) (.tmp 27) 35 rfl b 9 i0 (.string ⟨#[]⟩) 1 16 Tryd.underlying35 hi0 hz0 hz1 hz2 rfl (by decide) _ _ _ rfl HAo.out ⟨W.heap.size, 0, none⟩ 1 1 [.string ⟨pc.toArray⟩] rfl rfl (cell_one_new _ _ _) (by simp [Value.oneCell']) (by simp only [maxLen]; omega) (by omega) (by simp; omega) ?_
                      intro v' w4 hown4 hgrow hat
                      obtain ⟨g', cap', rfl⟩ := ownsRow_succ hown4
                      obtain ⟨hv1', hv2, hr2, hk2, hb2⟩ := HBx.out.appended (by decide) HRo.out hb3 (by omega) hown4 (show (W.drew.alloc (.cells #[.string ⟨pc.toArray⟩] 9)).grownBy w4 _ from hgrow)
                      have h4 := (H1x.out.alloc (.cells #[.string ⟨pc.toArray⟩] 9)).kept (show (W.drew.alloc (.cells #[.string ⟨pc.toArray⟩] 9)).grownBy w4 _ from hgrow) HNR.out
                      have h5 := h4.kept (grownBy_setCell' w4 b (.slice (some ⟨g', 0, none⟩) (out.length + 1) cap')) (by simp)
                      have hc4 := h4.cell
                      have hf4 := h4.frozen
                      have hc1 := hv1'.cell
                      have hf1 := hv1'.frozen
                      clear hown4 hgrow hat
                      refine hK _ _ ?_
                      clear hK K
                      refine wpAnyIn_ready (rs := [7]) (by kernel_rfl) (by simp) ?_
                      refine AllReadyIn.cons rfl (fun K hK => ?_) ?_
                      · go_simp
                        refine hK _ _ ?_
                        clear hK K
                        refine wpAnyIn_done (by kernel_rfl) ?_ _
                        gi_wp2
                        exact cl_leaf hlt1 hk2 hv2 hr2 h5 hb2 hcs hbel hsz HE.out
                      exact AllReadyIn.nil
                    exact AllReadyIn.nil
                  exact AllReadyIn.nil
                refine AllReadyIn.cons rfl (fun K hK => ?_) ?_
                · go_simp
                  refine hK _ _ ?_
                  clear hK K
                  refine wpAnyIn_ready (rs := [0]) (by kernel_rfl) (by simp) ?_
                  refine AllReadyIn.cons rfl (fun K hK => ?_) ?_
                  · go_simp
                    refine hK _ _ ?_
                    clear hK K
                    refine wpAnyIn_ready (rs := [6]) (by kernel_rfl) (by simp) ?_
                    refine AllReadyIn.cons rfl (fun K hK => ?_) ?_
                    · refine if_intro rfl ?_
                      refine opIn_append_own _ (.tmp 22) (.tmp 27) 35 rfl b 9 i0 (.string ⟨#[]⟩) 1 16 Tryd.underlying35 hi0 hz0 hz1 hz2 rfl (by decide) _ _ _ rfl HAo.out ⟨W.heap.size, 0, none⟩ 1 1 [.string ⟨pc.toArray⟩] rfl rfl (cell_one_new _ _ _) (by simp [Value.oneCell']) (by simp only [maxLen]; omega) (by omega) (by simp; omega) ?_
                      intro v' w4 hown4 hgrow hat
                      obtain ⟨g', cap', rfl⟩ := ownsRow_succ hown4
                      obtain ⟨hv1', hv2, hr2, hk2, hb2⟩ := HBx.out.appended (by decide) HRo.out hb3 (by omega) hown4 (show (W.drew.alloc (.cells #[.string ⟨pc.toArray⟩] 9)).grownBy w4 _ from hgrow)
                      have h4 := (H1x.out.alloc (.cells #[.string ⟨pc.toArray⟩] 9)).kept (show (W.drew.alloc (.cells #[.string ⟨pc.toArray⟩] 9)).grownBy w4 _ from hgrow) HNR.out
                      have h5 := h4.kept (grownBy_setCell' w4 b (.slice (some ⟨g', 0, none⟩) (out.length + 1) cap')) (by simp)
                      have hc4 := h4.cell
                      have hf4 := h4.frozen
                      have hc1 := hv1'.cell
                      have hf1 := hv1'.frozen
                      clear hown4 hgrow hat
                      refine hK _ _ ?_
                      clear hK K
                      refine wpAnyIn_ready (rs := [7]) (by kernel_rfl) (by simp) ?_
                      refine AllReadyIn.cons rfl (fun K hK => ?_) ?_
                      · go_simp
                        refine hK _ _ ?_
                        clear hK K
                        refine wpAnyIn_done (by kernel_rfl) ?_ _
                        gi_wp2
                        exact cl_leaf hlt1 hk2 hv2 hr2 h5 hb2 hcs hbel hsz HE.out
                      exact AllReadyIn.nil
                    exact AllReadyIn.nil
                  exact AllReadyIn.nil
                exact AllReadyIn.nil
              exact AllReadyIn.nil
            exact AllReadyIn.nil
          refine AllReadyIn.cons rfl (fun K hK => ?_) ?_
          · go_simp
            refine hK _ _ ?_
            clear hK K
            refine wpAnyIn_ready (rs := [0, 1]) (by kernel_rfl) (by simp) ?_
            refine AllReadyIn.cons rfl (fun K hK => ?_) ?_
            · go_simp
              refine hK _ _ ?_
              clear hK K
              refine wpAnyIn_ready (rs := [1]) (by kernel_rfl) (by simp) ?_
              refine AllReadyIn.cons rfl (fun K hK => ?_) ?_
              · go_simp
                refine hK _ _ ?_
                clear hK K
                refine wpAnyIn_ready (rs := [4]) (by kernel_rfl) (by simp) ?_
                refine AllReadyIn.cons rfl (fun K hK => ?_) ?_
                · go_simp
                  gi_wp2
                  refine wpAnyIn_ready (rs := [5]) (by kernel_rfl) (by simp) ?_
                  refine AllReadyIn.cons rfl (fun K hK => ?_) ?_
                  · go_simp
                    refine hK _ _ ?_
                    clear hK K
                    refine wpAnyIn_ready (rs := [6]) (by kernel_rfl) (by simp) ?_
                    refine AllReadyIn.cons rfl (fun K hK => ?_) ?_
                    · refine if_intro rfl ?_
                      refine opIn_append_own _ (.tmp 22) (.tmp 27) 35 rfl b 9 i0 (.string ⟨#[]⟩) 1 16 Tryd.underlying35 hi0 hz0 hz1 hz2 rfl (by decide) _ _ _ rfl HAo.out ⟨W.heap.size, 0, none⟩ 1 1 [.string ⟨pc.toArray⟩] rfl rfl (cell_one_new _ _ _) (by simp [Value.oneCell']) (by simp only [maxLen]; omega) (by omega) (by simp; omega) ?_
                      intro v' w4 hown4 hgrow hat
                      obtain ⟨g', cap', rfl⟩ := ownsRow_succ hown4
                      obtain ⟨hv1', hv2, hr2, hk2, hb2⟩ := HBx.out.appended (by decide) HRo.out hb3 (by omega) hown4 (show (W.drew.alloc (.cells #[.string ⟨pc.toArray⟩] 9)).grownBy w4 _ from hgrow)
                      have h4 := (H1x.out.alloc (.cells #[.string ⟨pc.toArray⟩] 9)).kept (show (W.drew.alloc (.cells #[.string ⟨pc.toArray⟩] 9)).grownBy w4 _ from hgrow) HNR.out
                      have h5 := h4.kept (grownBy_setCell' w4 b (.slice (some ⟨g', 0, none⟩) (out.length + 1) cap')) (by simp)
                      have hc4 := h4.cell
                      have hf4 := h4.frozen
                      have hc1 := hv1'.cell
                      have hf1 := hv1'.frozen
                      clear hown4 hgrow hat
                      refine hK _ _ ?_
                      clear hK K
                      refine wpAnyIn_ready (rs := [7]) (by kernel_rfl) (by simp) ?_
                      refine AllReadyIn.cons rfl (fun K hK => ?_) ?_
                      · go_simp
                        refine hK _ _ ?_
                        clear hK K
                        refine wpAnyIn_done (by kernel_rfl) ?_ _
                        gi_wp2
                        exact cl_leaf hlt1 hk2 hv2 hr2 h5 hb2 hcs hbel hsz HE.out
                      exact AllReadyIn.nil
                    exact AllReadyIn.nil
                  exact AllReadyIn.nil
                exact AllReadyIn.nil
              exact AllReadyIn.nil
            refine AllReadyIn.cons rfl (fun K hK => ?_) ?_
            · go_simp
              refine hK _ _ ?_
              clear hK K
              refine wpAnyIn_ready (rs := [0, 4]) (by kernel_rfl) (by simp) ?_
              refine AllReadyIn.cons rfl (fun K hK => ?_) ?_
              · go_simp
                refine hK _ _ ?_
                clear hK K
                refine wpAnyIn_ready (rs := [4]) (by kernel_rfl) (by simp) ?_
                refine AllReadyIn.cons rfl (fun K hK => ?_) ?_
                · go_simp
                  gi_wp2
                  refine wpAnyIn_ready (rs := [5]) (by kernel_rfl) (by simp) ?_
                  refine AllReadyIn.cons rfl (fun K hK => ?_) ?_
                  · go_simp
                    refine hK _ _ ?_
                    clear hK K
                    refine wpAnyIn_ready (rs := [6]) (by kernel_rfl) (by simp) ?_
                    refine AllReadyIn.cons rfl (fun K hK => ?_) ?_
                    · refine if_intro rfl ?_
                      refine opIn_append_own _ (.tmp 22) (.tmp 27) 35 rfl b 9 i0 (.string ⟨#[]⟩) 1 16 Tryd.underlying35 hi0 hz0 hz1 hz2 rfl (by decide) _ _ _ rfl HAo.out ⟨W.heap.size, 0, none⟩ 1 1 [.string ⟨pc.toArray⟩] rfl rfl (cell_one_new _ _ _) (by simp [Value.oneCell']) (by simp only [maxLen]; omega) (by omega) (by simp; omega) ?_
                      intro v' w4 hown4 hgrow hat
                      obtain ⟨g', cap', rfl⟩ := ownsRow_succ hown4
                      obtain ⟨hv1', hv2, hr2, hk2, hb2⟩ := HBx.out.appended (by decide) HRo.out hb3 (by omega) hown4 (show (W.drew.alloc (.cells #[.string ⟨pc.toArray⟩] 9)).grownBy w4 _ from hgrow)
                      have h4 := (H1x.out.alloc (.cells #[.string ⟨pc.toArray⟩] 9)).kept (show (W.drew.alloc (.cells #[.string ⟨pc.toArray⟩] 9)).grownBy w4 _ from hgrow) HNR.out
                      have h5 := h4.kept (grownBy_setCell' w4 b (.slice (some ⟨g', 0, none⟩) (out.length + 1) cap')) (by simp)
                      have hc4 := h4.cell
                      have hf4 := h4.frozen
                      have hc1 := hv1'.cell
                      have hf1 := hv1'.frozen
                      clear hown4 hgrow hat
                      refine hK _ _ ?_
                      clear hK K
                      refine wpAnyIn_ready (rs := [7]) (by kernel_rfl) (by simp) ?_
                      refine AllReadyIn.cons rfl (fun K hK => ?_) ?_
                      · go_simp
                        refine hK _ _ ?_
                        clear hK K
                        refine wpAnyIn_done (by kernel_rfl) ?_ _
                        gi_wp2
                        exact cl_leaf hlt1 hk2 hv2 hr2 h5 hb2 hcs hbel hsz HE.out
                      exact AllReadyIn.nil
                    exact AllReadyIn.nil
                  exact AllReadyIn.nil
                exact AllReadyIn.nil
              refine AllReadyIn.cons rfl (fun K hK => ?_) ?_
              · go_simp
                gi_wp2
                refine wpAnyIn_ready (rs := [0, 5]) (by kernel_rfl) (by simp) ?_
                refine AllReadyIn.cons rfl (fun K hK => ?_) ?_
                · go_simp
                  refine hK _ _ ?_
                  clear hK K
                  refine wpAnyIn_ready (rs := [5]) (by kernel_rfl) (by simp) ?_
                  refine AllReadyIn.cons rfl (fun K hK => ?_) ?_
                  · go_simp
                    refine hK _ _ ?_
                    clear hK K
                    refine wpAnyIn_ready (rs := [6]) (by kernel_rfl) (by simp) ?_
                    refine AllReadyIn.cons rfl (fun K hK => ?_) ?_
                    · refine if_intro rfl ?_
                      refine opIn_append_own _ (.tmp 22) (.tmp 27) 35 rfl b 9 i0 (.string ⟨#[]⟩) 1 16 Tryd.underlying35 hi0 hz0 hz1 hz2 rfl (by decide) _ _ _ rfl HAo.out ⟨W.heap.size, 0, none⟩ 1 1 [.string ⟨pc.toArray⟩] rfl rfl (cell_one_new _ _ _) (by simp [Value.oneCell']) (by simp only [maxLen]; omega) (by omega) (by simp; omega) ?_
                      intro v' w4 hown4 hgrow hat
                      obtain ⟨g', cap', rfl⟩ := ownsRow_succ hown4
                      obtain ⟨hv1', hv2, hr2, hk2, hb2⟩ := HBx.out.appended (by decide) HRo.out hb3 (by omega) hown4 (show (W.drew.alloc (.cells #[.string ⟨pc.toArray⟩] 9)).grownBy w4 _ from hgrow)
                      have h4 := (H1x.out.alloc (.cells #[.string ⟨pc.toArray⟩] 9)).kept (show (W.drew.alloc (.cells #[.string ⟨pc.toArray⟩] 9)).grownBy w4 _ from hgrow) HNR.out
                      have h5 := h4.kept (grownBy_setCell' w4 b (.slice (some ⟨g', 0, none⟩) (out.length + 1) cap')) (by simp)
                      have hc4 := h4.cell
                      have hf4 := h4.frozen
                      have hc1 := hv1'.cell
                      have hf1 := hv1'.frozen
                      clear hown4 hgrow hat
                      refine hK _ _ ?_
                      clear hK K
                      refine wpAnyIn_ready (rs := [7]) (by kernel_rfl) (by simp) ?_
                      refine AllReadyIn.cons rfl (fun K hK => ?_) ?_
                      · go_simp
                        refine hK _ _ ?_
                        clear hK K
                        refine wpAnyIn_done (by kernel_rfl) ?_ _
                        gi_wp2
                        exact cl_leaf hlt1 hk2 hv2 hr2 h5 hb2 hcs hbel hsz HE.out
                      exact AllReadyIn.nil
                    exact AllReadyIn.nil
                  exact AllReadyIn.nil
                refine AllReadyIn.cons rfl (fun K hK => ?_) ?_
                · go_simp
                  refine hK _ _ ?_
                  clear hK K
                  refine wpAnyIn_ready (rs := [0]) (by kernel_rfl) (by simp) ?_
                  refine AllReadyIn.cons rfl (fun K hK => ?_) ?_
                  · go_simp
                    refine hK _ _ ?_
                    clear hK K
                    refine wpAnyIn_ready (rs := [6]) (by kernel_rfl) (by simp) ?_
                    refine AllReadyIn.cons rfl (fun K hK => ?_) ?_
                    · refine if_intro rfl ?_
                      refine opIn_append_own _ (.tmp 22) (.tmp 27) 35 rfl b 9 i0 (.string ⟨#[]⟩) 1 16 Tryd.underlying35 hi0 hz0 hz1 hz2 rfl (by decide) _ _ _ rfl HAo.out ⟨W.heap.size, 0, none⟩ 1 1 [.string ⟨pc.toArray⟩] rfl rfl (cell_one_new _ _ _) (by simp [Value.oneCell']) (by simp only [maxLen]; omega) (by omega) (by simp; omega) ?_
                      intro v' w4 hown4 hgrow hat
                      obtain ⟨g', cap', rfl⟩ := ownsRow_succ hown4
                      obtain ⟨hv1', hv2, hr2, hk2, hb2⟩ := HBx.out.appended (by decide) HRo.out hb3 (by omega) hown4 (show (W.drew.alloc (.cells #[.string ⟨pc.toArray⟩] 9)).grownBy w4 _ from hgrow)
                      have h4 := (H1x.out.alloc (.cells #[.string ⟨pc.toArray⟩] 9)).kept (show (W.drew.alloc (.cells #[.string ⟨pc.toArray⟩] 9)).grownBy w4 _ from hgrow) HNR.out
                      have h5 := h4.kept (grownBy_setCell' w4 b (.slice (some ⟨g', 0, none⟩) (out.length + 1) cap')) (by simp)
                      have hc4 := h4.cell
                      have hf4 := h4.frozen
                      have hc1 := hv1'.cell
                      have hf1 := hv1'.frozen
                      clear hown4 hgrow hat
                      refine hK _ _ ?_
                      clear hK K
                      refine wpAnyIn_ready (rs := [7]) (by kernel_rfl) (by simp) ?_
                      refine AllReadyIn.cons rfl (fun K hK => ?_) ?_
                      · go_simp
                        refine hK _ _ ?_
                        clear hK K
                        refine wpAnyIn_done (by kernel_rfl) ?_ _
                        gi_wp2
                        exact cl_leaf hlt1 hk2 hv2 hr2 h5 hb2 hcs hbel hsz HE.out
                      exact AllReadyIn.nil
                    exact AllReadyIn.nil
                  exact AllReadyIn.nil
                exact AllReadyIn.nil
              exact AllReadyIn.nil
            exact AllReadyIn.nil
          exact AllReadyIn.nil
        refine AllReadyIn.cons rfl (fun K hK => ?_) ?_
        · go_simp
          refine hK _ _ ?_
          clear hK K
          refine wpAnyIn_ready (rs := [0, 1, 2]) (by kernel_rfl) (by simp) ?_
          refine AllReadyIn.cons rfl (fun K hK => ?_) ?_
          · go_simp
            refine hK _ _ ?_
            clear hK K
            refine wpAnyIn_ready (rs := [1, 2]) (by kernel_rfl) (by simp) ?_
            refine AllReadyIn.cons rfl (fun K hK => ?_) ?_
            · go_simp
              refine hK _ _ ?_
              clear hK K
              refine wpAnyIn_ready (rs := [2]) (by kernel_rfl) (by simp) ?_
              refine AllReadyIn.cons rfl (fun K hK => ?_) ?_
              · go_simp
                refine hK _ _ ?_
                clear hK K
                refine wpAnyIn_ready (rs := [4]) (by kernel_rfl) (by simp) ?_
                refine AllReadyIn.cons rfl (fun K hK => ?_) ?_
                · go_simp
                  gi_wp2
                  refine wpAnyIn_ready (rs := [5]) (by kernel_rfl) (by simp) ?_
                  refine AllReadyIn.cons rfl (fun K hK => ?_) ?_
                  · go_simp
                    refine hK _ _ ?_
                    clear hK K
                    refine wpAnyIn_ready (rs := [6]) (by kernel_rfl) (by simp) ?_
                    refine AllReadyIn.cons rfl (fun K hK => ?_) ?_
                    · refine if_intro rfl ?_
                      refine opIn_append_own _ (.tmp 22) (.tmp 27) 35 rfl b 9 i0 (.string ⟨#[]⟩) 1 16 Tryd.underlying35 hi0 hz0 hz1 hz2 rfl (by decide) _ _ _ rfl HAo.out ⟨W.heap.size, 0, none⟩ 1 1 [.string ⟨pc.toArray⟩] rfl rfl (cell_one_new _ _ _) (by simp [Value.oneCell']) (by simp only [maxLen]; omega) (by omega) (by simp; omega) ?_
                      intro v' w4 hown4 hgrow hat
                      obtain ⟨g', cap', rfl⟩ := ownsRow_succ hown4
                      obtain ⟨hv1', hv2, hr2, hk2, hb2⟩ := HBx.out.appended (by decide) HRo.out hb3 (by omega) hown4 (show (W.drew.alloc (.cells #[.string ⟨pc.toArray⟩] 9)).grownBy w4 _ from hgrow)
                      have h4 := (H1x.out.alloc (.cells #[.string ⟨pc.toArray⟩] 9)).kept (show (W.drew.alloc (.cells #[.string ⟨pc.toArray⟩] 9)).grownBy w4 _ from hgrow) HNR.out
                      have h5 := h4.kept (grownBy_setCell' w4 b (.slice (some ⟨g', 0, none⟩) (out.length + 1) cap')) (by simp)
                      have hc4 := h4.cell
                      have hf4 := h4.frozen
                      have hc1 := hv1'.cell
                      have hf1 := hv1'.frozen
                      clear hown4 hgrow hat
                      refine hK _ _ ?_
                      clear hK K
                      refine wpAnyIn_ready (rs := [7]) (by kernel_rfl) (by simp) ?_
                      refine AllReadyIn.cons rfl (fun K hK => ?_) ?_
                      · go_simp
                        refine hK _ _ ?_
                        clear hK K
                        refine wpAnyIn_done (by kernel_rfl) ?_ _
                        gi_wp2
                        exact cl_leaf hlt1 hk2 hv2 hr2 h5 hb2 hcs hbel hsz HE.out
                      exact AllReadyIn.nil
                    exact AllReadyIn.nil
                  exact AllReadyIn.nil
                exact AllReadyIn.nil
              exact AllReadyIn.nil
            refine AllReadyIn.cons rfl (fun K hK => ?_) ?_
            · go_simp
              refine hK _ _ ?_
              clear hK K
              refine wpAnyIn_ready (rs := [1]) (by kernel_rfl) (by simp) ?_
              refine AllReadyIn.cons rfl (fun K hK => ?_) ?_
              · go_simp
                refine hK _ _ ?_
                clear hK K
                refine wpAnyIn_ready (rs := [4]) (by kernel_rfl) (by simp) ?_
                refine AllReadyIn.cons rfl (fun K hK => ?_) ?_
                · go_simp
                  gi_wp2
                  refine wpAnyIn_ready (rs := [5]) (by kernel_rfl) (by simp) ?_
                  refine AllReadyIn.cons rfl (fun K hK => ?_) ?_
                  · go_simp
                    refine hK _ _ ?_
                    clear hK K
                    refine wpAnyIn_ready (rs := [6]) (by kernel_rfl) (by simp) ?_
                    refine AllReadyIn.cons rfl (fun K hK => ?_) ?_
                    · refine if_intro rfl ?_
                      refine opIn_append_own _ (.tmp 22) (.tmp 27) 35 rfl b 9 i0 (.string ⟨#[]⟩) 1 16 Tryd.underlying35 hi0 hz0 hz1 hz2 rfl (by decide) _ _ _ rfl HAo.out ⟨W.heap.size, 0, none⟩ 1 1 [.string ⟨pc.toArray⟩] rfl rfl (cell_one_new _ _ _) (by simp [Value.oneCell']) (by simp only [maxLen]; omega) (by omega) (by simp; omega) ?_
                      intro v' w4 hown4 hgrow hat
                      obtain ⟨g', cap', rfl⟩ := ownsRow_succ hown4
                      obtain ⟨hv1', hv2, hr2, hk2, hb2⟩ := HBx.out.appended (by decide) HRo.out hb3 (by omega) hown4 (show (W.drew.alloc (.cells #[.string ⟨pc.toArray⟩] 9)).grownBy w4 _ from hgrow)
                      have h4 := (H1x.out.alloc (.cells #[.string ⟨pc.toArray⟩] 9)).kept (show (W.drew.alloc (.cells #[.string ⟨pc.toArray⟩] 9)).grownBy w4 _ from hgrow) HNR.out
                      have h5 := h4.kept (grownBy_setCell' w4 b (.slice (some ⟨g', 0, none⟩) (out.length + 1) cap')) (by simp)
                      have hc4 := h4.cell
                      have hf4 := h4.frozen
                      have hc1 := hv1'.cell
                      have hf1 := hv1'.frozen
                      clear hown4 hgrow hat
                      refine hK _ _ ?_
                      clear hK K
                      refine wpAnyIn_ready (rs := [7]) (by kernel_rfl) (by simp) ?_
                      refine AllReadyIn.cons rfl (fun K hK => ?_) ?_
                      · go_simp
                        refine hK _ _ ?_
                        clear hK K
                        refine wpAnyIn_done (by kernel_rfl) ?_ _
                        gi_wp2
                        exact cl_leaf hlt1 hk2 hv2 hr2 h5 hb2 hcs hbel hsz HE.out
                      exact AllReadyIn.nil
                    exact AllReadyIn.nil
                  exact AllReadyIn.nil
                exact AllReadyIn.nil
              exact AllReadyIn.nil
            exact AllReadyIn.nil
          refine AllReadyIn.cons rfl (fun K hK => ?_) ?_
          · go_simp
            refine hK _ _ ?_
            clear hK K
            refine wpAnyIn_ready (rs := [0, 2]) (by kernel_rfl) (by simp) ?_
            refine AllReadyIn.cons rfl (fun K hK => ?_) ?_
            · go_simp
              refine hK _ _ ?_
              clear hK K
              refine wpAnyIn_ready (rs := [2]) (by kernel_rfl) (by simp) ?_
              refine AllReadyIn.cons rfl (fun K hK => ?_) ?_
              · go_simp
                refine hK _ _ ?_
                clear hK K
                refine wpAnyIn_ready (rs := [4]) (by kernel_rfl) (by simp) ?_
                refine AllReadyIn.cons rfl (fun K hK => ?_) ?_
                · go_simp
                  gi_wp2
                  refine wpAnyIn_ready (rs := [5]) (by kernel_rfl) (by simp) ?_
                  refine AllReadyIn.cons rfl (fun K hK => ?_) ?_
                  · go_simp
                    refine hK _ _ ?_
                    clear hK K
                    refine wpAnyIn_ready (rs := [6]) (by kernel_rfl) (by simp) ?_
                    refine AllReadyIn.cons rfl (fun K hK => ?_) ?_
                    · refine if_intro rfl ?_
                      refine opIn_append_own _ (.tmp 22) (.tmp 27) 35 rfl b 9 i0 (.string ⟨#[]⟩) 1 16 Tryd.underlying35 hi0 hz0 hz1 hz2 rfl (by decide) _ _ _ rfl HAo.out ⟨W.heap.size, 0, none⟩ 1 1 [.string ⟨pc.toArray⟩] rfl rfl (cell_one_new _ _ _) (by simp [Value.oneCell']) (by simp only [maxLen]; omega) (by omega) (by simp; omega) ?_
                      intro v' w4 hown4 hgrow hat
                      obtain ⟨g', cap', rfl⟩ := ownsRow_succ hown4
                      obtain ⟨hv1', hv2, hr2, hk2, hb2⟩ := HBx.out.appended (by decide) HRo.out hb3 (by omega) hown4 (show (W.drew.alloc (.cells #[.string ⟨pc.toArray⟩] 9)).grownBy w4 _ from hgrow)
                      have h4 := (H1x.out.alloc (.cells #[.string ⟨pc.toArray⟩] 9)).kept (show (W.drew.alloc (.cells #[.string ⟨pc.toArray⟩] 9)).grownBy w4 _ from hgrow) HNR.out
                      have h5 := h4.kept (grownBy_setCell' w4 b (.slice (some ⟨g', 0, none⟩) (out.length + 1) cap')) (by simp)
                      have hc4 := h4.cell
                      have hf4 := h4.frozen
                      have hc1 := hv1'.cell
                      have hf1 := hv1'.frozen
                      clear hown4 hgrow hat
                      refine hK _ _ ?_
                      clear hK K
                      refine wpAnyIn_ready (rs := [7]) (by kernel_rfl) (by simp) ?_
                      refine AllReadyIn.cons rfl (fun K hK => ?_) ?_
                      · go_simp
                        refine hK _ _ ?_
                        clear hK K
                        refine wpAnyIn_done (by kernel_rfl) ?_ _
                        gi_wp2
                        exact cl_leaf hlt1 hk2 hv2 hr2 h5 hb2 hcs hbel hsz HE.out
                      exact AllReadyIn.nil
                    exact AllReadyIn.nil
                  exact AllReadyIn.nil
                exact AllReadyIn.nil
              exact AllReadyIn.nil
            refine AllReadyIn.cons rfl (fun K hK => ?_) ?_
            · go_simp
              refine hK _ _ ?_
              clear hK K
              refine wpAnyIn_ready (rs := [0, 4]) (by kernel_rfl) (by simp) ?_
              refine AllReadyIn.cons rfl (fun K hK => ?_) ?_
              · go_simp
                refine hK _ _ ?_
                clear hK K
                refine wpAnyIn_ready (rs := [4]) (by kernel_rfl) (by simp) ?_
                refine AllReadyIn.cons rfl (fun K hK => ?_) ?_
                · go_simp
                  gi_wp2
                  refine wpAnyIn_ready (rs := [5]) (by kernel_rfl) (by simp) ?_
                  refine AllReadyIn.cons rfl (fun K hK => ?_) ?_
                  · go_simp
                    refine hK _ _ ?_
                    clear hK K
                    refine wpAnyIn_ready (rs := [6]) (by kernel_rfl) (by simp) ?_
                    refine AllReadyIn.cons rfl (fun K hK => ?_) ?_
                    · refine if_intro rfl ?_
                      refine opIn_append_own _ (.tmp 22) (.tmp 27) 35 rfl b 9 i0 (.string ⟨#[]⟩) 1 16 Tryd.underlying35 hi0 hz0 hz1 hz2 rfl (by decide) _ _ _ rfl HAo.out ⟨W.heap.size, 0, none⟩ 1 1 [.string ⟨pc.toArray⟩] rfl rfl (cell_one_new _ _ _) (by simp [Value.oneCell']) (by simp only [maxLen]; omega) (by omega) (by simp; omega) ?_
                      intro v' w4 hown4 hgrow hat
                      obtain ⟨g', cap', rfl⟩ := ownsRow_succ hown4
                      obtain ⟨hv1', hv2, hr2, hk2, hb2⟩ := HBx.out.appended (by decide) HRo.out hb3 (by omega) hown4 (show (W.drew.alloc (.cells #[.string ⟨pc.toArray⟩] 9)).grownBy w4 _ from hgrow)
                      have h4 := (H1x.out.alloc (.cells #[.string ⟨pc.toArray⟩] 9)).kept (show (W.drew.alloc (.cells #[.string ⟨pc.toArray⟩] 9)).grownBy w4 _ from hgrow) HNR.out
                      have h5 := h4.kept (grownBy_setCell' w4 b (.slice (some ⟨g', 0, none⟩) (out.length + 1) cap')) (by simp)
                      have hc4 := h4.cell
                      have hf4 := h4.frozen
                      have hc1 := hv1'.cell
                      have hf1 := hv1'.frozen
                      clear hown4 hgrow hat
                      refine hK _ _ ?_
                      clear hK K
                      refine wpAnyIn_ready (rs := [7]) (by kernel_rfl) (by simp) ?_
                      refine AllReadyIn.cons rfl (fun K hK => ?_) ?_
                      · go_simp
                        refine hK _ _ ?_
                        clear hK K
                        refine wpAnyIn_done (by kernel_rfl) ?_ _
                        gi_wp2
                        exact cl_leaf hlt1 hk2 hv2 hr2 h5 hb2 hcs hbel hsz HE.out
                      exact AllReadyIn.nil
                    exact AllReadyIn.nil
                  exact AllReadyIn.nil
                exact AllReadyIn.nil
              refine AllReadyIn.cons rfl (fun K hK => ?_) ?_
              · go_simp
                gi_wp2
                refine wpAnyIn_ready (rs := [0, 5]) (by kernel_rfl) (by simp) ?_
                refine AllReadyIn.cons rfl (fun K hK => ?_) ?_
                · go_simp
                  refine hK _ _ ?_
                  clear hK K
                  refine wpAnyIn_ready (rs := [5]) (by kernel_rfl) (by simp) ?_
                  refine AllReadyIn.cons rfl (fun K hK => ?_) ?_
                  · go_simp
                    refine hK _ _ ?_
                    clear hK K
                    refine wpAnyIn_ready (rs := [6]) (by kernel_rfl) (by simp) ?_
                    refine AllReadyIn.cons rfl (fun K hK => ?_) ?_
                    · refine if_intro rfl ?_
                      refine opIn_append_own _ (.tmp 22) (.tmp 27) 35 rfl b 9 i0 (.string ⟨#[]⟩) 1 16 Tryd.underlying35 hi0 hz0 hz1 hz2 rfl (by decide) _ _ _ rfl HAo.out ⟨W.heap.size, 0, none⟩ 1 1 [.string ⟨pc.toArray⟩] rfl rfl (cell_one_new _ _ _) (by simp [Value.oneCell']) (by simp only [maxLen]; omega) (by omega) (by simp; omega) ?_
                      intro v' w4 hown4 hgrow hat
                      obtain ⟨g', cap', rfl⟩ := ownsRow_succ hown4
                      obtain ⟨hv1', hv2, hr2, hk2, hb2⟩ := HBx.out.appended (by decide) HRo.out hb3 (by omega) hown4 (show (W.drew.alloc (.cells #[.string ⟨pc.toArray⟩] 9)).grownBy w4 _ from hgrow)
                      have h4 := (H1x.out.alloc (.cells #[.string ⟨pc.toArray⟩] 9)).kept (show (W.drew.alloc (.cells #[.string ⟨pc.toArray⟩] 9)).grownBy w4 _ from hgrow) HNR.out
                      have h5 := h4.kept (grownBy_setCell' w4 b (.slice (some ⟨g', 0, none⟩) (out.length + 1) cap')) (by simp)
                      have hc4 := h4.cell
                      have hf4 := h4.frozen
                      have hc1 := hv1'.cell
                      have hf1 := hv1'.frozen
                      clear hown4 hgrow hat
                      refine hK _ _ ?_
                      clear hK K
                      refine wpAnyIn_ready (rs := [7]) (by kernel_rfl) (by simp) ?_
                      refine AllReadyIn.cons rfl (fun K hK => ?_) ?_
                      · go_simp
                        refine hK _ _ ?_
                        clear hK K
                        refine wpAnyIn_done (by kernel_rfl) ?_ _
                        gi_wp2
                        exact cl_leaf hlt1 hk2 hv2 hr2 h5 hb2 hcs hbel hsz HE.out
                      exact AllReadyIn.nil
                    exact AllReadyIn.nil
                  exact AllReadyIn.nil
                refine AllReadyIn.cons rfl (fun K hK => ?_) ?_
                · go_simp
                  refine hK _ _ ?_
                  clear hK K
                  refine wpAnyIn_ready (rs := [0]) (by kernel_rfl) (by simp) ?_
                  refine AllReadyIn.cons rfl (fun K hK => ?_) ?_
                  · go_simp
                    refine hK _ _ ?_
                    clear hK K
                    refine wpAnyIn_ready (rs := [6]) (by kernel_rfl) (by simp) ?_
                    refine AllReadyIn.cons rfl (fun K hK => ?_) ?_
                    · refine if_intro rfl ?_
                      refine opIn_append_own _ (.tmp 22) (.tmp 27) 35 rfl b 9 i0 (.string ⟨#[]⟩) 1 16 Tryd.underlying35 hi0 hz0 hz1 hz2 rfl (by decide) _ _ _ rfl HAo.out ⟨W.heap.size, 0, none⟩ 1 1 [.string ⟨pc.toArray⟩] rfl rfl (cell_one_new _ _ _) (by simp [Value.oneCell']) (by simp only [maxLen]; omega) (by omega) (by simp; omega) ?_
                      intro v' w4 hown4 hgrow hat
                      obtain ⟨g', cap', rfl⟩ := ownsRow_succ hown4
                      obtain ⟨hv1', hv2, hr2, hk2, hb2⟩ := HBx.out.appended (by decide) HRo.out hb3 (by omega) hown4 (show (W.drew.alloc (.cells #[.string ⟨pc.toArray⟩] 9)).grownBy w4 _ from hgrow)
                      have h4 := (H1x.out.alloc (.cells #[.string ⟨pc.toArray⟩] 9)).kept (show (W.drew.alloc (.cells #[.string ⟨pc.toArray⟩] 9)).grownBy w4 _ from hgrow) HNR.out
                      have h5 := h4.kept (grownBy_setCell' w4 b (.slice (some ⟨g', 0, none⟩) (out.length + 1) cap')) (by simp)
                      have hc4 := h4.cell
                      have hf4 := h4.frozen
                      have hc1 := hv1'.cell
                      have hf1 := hv1'.frozen
                      clear hown4 hgrow hat
                      refine hK _ _ ?_
                      clear hK K
                      refine wpAnyIn_ready (rs := [7]) (by kernel_rfl) (by simp) ?_
                      refine AllReadyIn.cons rfl (fun K hK => ?_) ?_
                      · go_simp
                        refine hK _ _ ?_
                        clear hK K
                        refine wpAnyIn_done (by kernel_rfl) ?_ _
                        gi_wp2
                        exact cl_leaf hlt1 hk2 hv2 hr2 h5 hb2 hcs hbel hsz HE.out
                      exact AllReadyIn.nil
                    exact AllReadyIn.nil
                  exact AllReadyIn.nil
                exact AllReadyIn.nil
              exact AllReadyIn.nil
            exact AllReadyIn.nil
          refine AllReadyIn.cons rfl (fun K hK => ?_) ?_
          · go_simp
            refine hK _ _ ?_
            clear hK K
            refine wpAnyIn_ready (rs := [0, 1]) (by kernel_rfl) (by simp) ?_
            refine AllReadyIn.cons rfl (fun K hK => ?_) ?_
            · go_simp
              refine hK _ _ ?_
              clear hK K
              refine wpAnyIn_ready (rs := [1]) (by kernel_rfl) (by simp) ?_
              refine AllReadyIn.cons rfl (fun K hK => ?_) ?_
              · go_simp
                refine hK _ _ ?_
                clear hK K
                refine wpAnyIn_ready (rs := [4]) (by kernel_rfl) (by simp) ?_
                refine AllReadyIn.cons rfl (fun K hK => ?_) ?_
                · go_simp
                  gi_wp2
                  refine wpAnyIn_ready (rs := [5]) (by kernel_rfl) (by simp) ?_
                  refine AllReadyIn.cons rfl (fun K hK => ?_) ?_
                  · go_simp
                    refine hK _ _ ?_
                    clear hK K
                    refine wpAnyIn_ready (rs := [6]) (by kernel_rfl) (by simp) ?_
                    refine AllReadyIn.cons rfl (fun K hK => ?_) ?_
                    · refine if_intro rfl ?_
                      refine opIn_append_own _ (.tmp 22) (.tmp 27) 35 rfl b 9 i0 (.string ⟨#[]⟩) 1 16 Tryd.underlying35 hi0 hz0 hz1 hz2 rfl (by decide) _ _ _ rfl HAo.out ⟨W.heap.size, 0, none⟩ 1 1 [.string ⟨pc.toArray⟩] rfl rfl (cell_one_new _ _ _) (by simp [Value.oneCell']) (by simp only [maxLen]; omega) (by omega) (by simp; omega) ?_
                      intro v' w4 hown4 hgrow hat
                      obtain ⟨g', cap', rfl⟩ := ownsRow_succ hown4
                      obtain ⟨hv1', hv2, hr2, hk2, hb2⟩ := HBx.out.appended (by decide) HRo.out hb3 (by omega) hown4 (show (W.drew.alloc (.cells #[.string ⟨pc.toArray⟩] 9)).grownBy w4 _ from hgrow)
                      have h4 := (H1x.out.alloc (.cells #[.string ⟨pc.toArray⟩] 9)).kept (show (W.drew.alloc (.cells #[.string ⟨pc.toArray⟩] 9)).grownBy w4 _ from hgrow) HNR.out
                      have h5 := h4.kept (grownBy_setCell' w4 b (.slice (some ⟨g', 0, none⟩) (out.length + 1) cap')) (by simp)
                      have hc4 := h4.cell
                      have hf4 := h4.frozen
                      have hc1 := hv1'.cell
                      have hf1 := hv1'.frozen
                      clear hown4 hgrow hat
                      refine hK _ _ ?_
                      clear hK K
                      refine wpAnyIn_ready (rs := [7]) (by kernel_rfl) (by simp) ?_
                      refine AllReadyIn.cons rfl (fun K hK => ?_) ?_
                      · go_simp
                        refine hK _ _ ?_
                        clear hK K
                        refine wpAnyIn_done (by kernel_rfl) ?_ _
                        gi_wp2
                        exact cl_leaf hlt1 hk2 hv2 hr2 h5 hb2 hcs hbel hsz HE.out
                      exact AllReadyIn.nil
                    exact AllReadyIn.nil
                  exact AllReadyIn.nil
                exact AllReadyIn.nil
              exact AllReadyIn.nil
            refine AllReadyIn.cons rfl (fun K hK => ?_) ?_
            · go_simp
              refine hK _ _ ?_
              clear hK K
              refine wpAnyIn_ready (rs := [0, 4]) (by kernel_rfl) (by simp) ?_
              refine AllReadyIn.cons rfl (fun K hK => ?_) ?_
              · go_simp
                refine hK _ _ ?_
                clear hK K
                refine wpAnyIn_ready (rs := [4]) (by kernel_rfl) (by simp) ?_
                refine AllReadyIn.cons rfl (fun K hK => ?_) ?_
                · go_simp
                  gi_wp2
                  refine wpAnyIn_ready (rs := [5]) (by kernel_rfl) (by simp) ?_
                  refine AllReadyIn.cons rfl (fun K hK => ?_) ?_
                  · go_simp
                    refine hK _ _ ?_
                    clear hK K
                    refine wpAnyIn_ready (rs := [6]) (by kernel_rfl) (by simp) ?_
                    refine AllReadyIn.cons rfl (fun K hK => ?_) ?_
                    · refine if_intro rfl ?_
                      refine opIn_append_own _ (.tmp 22) (.tmp 27) 35 rfl b 9 i0 (.string ⟨#[]⟩) 1 16 Tryd.underlying35 hi0 hz0 hz1 hz2 rfl (by decide) _ _ _ rfl HAo.out ⟨W.heap.size, 0, none⟩ 1 1 [.string ⟨pc.toArray⟩] rfl rfl (cell_one_new _ _ _) (by simp [Value.oneCell']) (by simp only [maxLen]; omega) (by omega) (by simp; omega) ?_
                      intro v' w4 hown4 hgrow hat
                      obtain ⟨g', cap', rfl⟩ := ownsRow_succ hown4
                      obtain ⟨hv1', hv2, hr2, hk2, hb2⟩ := HBx.out.appended (by decide) HRo.out hb3 (by omega) hown4 (show (W.drew.alloc (.cells #[.string ⟨pc.toArray⟩] 9)).grownBy w4 _ from hgrow)
                      have h4 := (H1x.out.alloc (.cells #[.string ⟨pc.toArray⟩] 9)).kept (show (W.drew.alloc (.cells #[.string ⟨pc.toArray⟩] 9)).grownBy w4 _ from hgrow) HNR.out
                      have h5 := h4.kept (grownBy_setCell' w4 b (.slice (some ⟨g', 0, none⟩) (out.length + 1) cap')) (by simp)
                      have hc4 := h4.cell
                      have hf4 := h4.frozen
                      have hc1 := hv1'.cell
                      have hf1 := hv1'.frozen
                      clear hown4 hgrow hat
                      refine hK _ _ ?_
                      clear hK K
                      refine wpAnyIn_ready (rs := [7]) (by kernel_rfl) (by simp) ?_
                      refine AllReadyIn.cons rfl (fun K hK => ?_) ?_
                      · go_simp
                        refine hK _ _ ?_
                        clear hK K
                        refine wpAnyIn_done (by kernel_rfl) ?_ _
                        gi_wp2
                        exact cl_leaf hlt1 hk2 hv2 hr2 h5 hb2 hcs hbel hsz HE.out
                      exact AllReadyIn.nil
                    exact AllReadyIn.nil
                  exact AllReadyIn.nil
                exact AllReadyIn.nil
              refine AllReadyIn.cons rfl (fun K hK => ?_) ?_
              · go_simp
                gi_wp2
                refine wpAnyIn_ready (rs := [0, 5]) (by kernel_rfl) (by simp) ?_
                refine AllReadyIn.cons rfl (fun K hK => ?_) ?_
                · go_simp
                  refine hK _ _ ?_
                  clear hK K
                  refine wpAnyIn_ready (rs := [5]) (by kernel_rfl) (by simp) ?_
                  refine AllReadyIn.cons rfl (fun K hK => ?_) ?_
                  · go_simp
                    refine hK _ _ ?_
                    clear hK K
                    refine wpAnyIn_ready (rs := [6]) (by kernel_rfl) (by simp) ?_
                    refine AllReadyIn.cons rfl (fun K hK => ?_) ?_
                    · refine if_intro rfl ?_
                      refine opIn_append_own _ (.tmp 22) (.tmp 27) 35 rfl b 9 i0 (.string ⟨#[]⟩) 1 16 Tryd.underlying35 hi0 hz0 hz1 hz2 rfl (by decide) _ _ _ rfl HAo.out ⟨W.heap.size, 0, none⟩ 1 1 [.string ⟨pc.toArray⟩] rfl rfl (cell_one_new _ _ _) (by simp [Value.oneCell']) (by simp only [maxLen]; omega) (by omega) (by simp; omega) ?_
                      intro v' w4 hown4 hgrow hat
                      obtain ⟨g', cap', rfl⟩ := ownsRow_succ hown4
                      obtain ⟨hv1', hv2, hr2, hk2, hb2⟩ := HBx.out.appended (by decide) HRo.out hb3 (by omega) hown4 (show (W.drew.alloc (.cells #[.string ⟨pc.toArray⟩] 9)).grownBy w4 _ from hgrow)
                      have h4 := (H1x.out.alloc (.cells #[.string ⟨pc.toArray⟩] 9)).kept (show (W.drew.alloc (.cells #[.string ⟨pc.toArray⟩] 9)).grownBy w4 _ from hgrow) HNR.out
                      have h5 := h4.kept (grownBy_setCell' w4 b (.slice (some ⟨g', 0, none⟩) (out.length + 1) cap')) (by simp)
                      have hc4 := h4.cell
                      have hf4 := h4.frozen
                      have hc1 := hv1'.cell
                      have hf1 := hv1'.frozen
                      clear hown4 hgrow hat
                      refine hK _ _ ?_
                      clear hK K
                      refine wpAnyIn_ready (rs := [7]) (by kernel_rfl) (by simp) ?_
                      refine AllReadyIn.cons rfl (fun K hK => ?_) ?_
                      · go_simp
                        refine hK _ _ ?_
                        clear hK K
                        refine wpAnyIn_done (by kernel_rfl) ?_ _
                        gi_wp2
                        exact cl_leaf hlt1 hk2 hv2 hr2 h5 hb2 hcs hbel hsz HE.out
                      exact AllReadyIn.nil
                    exact AllReadyIn.nil
                  exact AllReadyIn.nil
                refine AllReadyIn.cons rfl (fun K hK => ?_) ?_
                · go_simp
                  refine hK _ _ ?_
                  clear hK K
                  refine wpAnyIn_ready (rs := [0]) (by kernel_rfl) (by simp) ?_
                  refine AllReadyIn.cons rfl (fun K hK => ?_) ?_
                  · go_simp
                    refine hK _ _ ?_
                    clear hK K
                    refine wpAnyIn_ready (rs := [6]) (by kernel_rfl) (by simp) ?_
                    refine AllReadyIn.cons rfl (fun K hK => ?_) ?_
                    · refine if_intro rfl ?_
                      refine opIn_append_own _ (.tmp 22) (.tmp 27) 35 rfl b 9 i0 (.string ⟨#[]⟩) 1 16 Tryd.underlying35 hi0 hz0 hz1 hz2 rfl (by decide) _ _ _ rfl HAo.out ⟨W.heap.size, 0, none⟩ 1 1 [.string ⟨pc.toArray⟩] rfl rfl (cell_one_new _ _ _) (by simp [Value.oneCell']) (by simp only [maxLen]; omega) (by omega) (by simp; omega) ?_
                      intro v' w4 hown4 hgrow hat
                      obtain ⟨g', cap', rfl⟩ := ownsRow_succ hown4
                      obtain ⟨hv1', hv2, hr2, hk2, hb2⟩ := HBx.out.appended (by decide) HRo.out hb3 (by omega) hown4 (show (W.drew.alloc (.cells #[.string ⟨pc.toArray⟩] 9)).grownBy w4 _ from hgrow)
                      have h4 := (H1x.out.alloc (.cells #[.string ⟨pc.toArray⟩] 9)).kept (show (W.drew.alloc (.cells #[.string ⟨pc.toArray⟩] 9)).grownBy w4 _ from hgrow) HNR.out
                      have h5 := h4.kept (grownBy_setCell' w4 b (.slice (some ⟨g', 0, none⟩) (out.length + 1) cap')) (by simp)
                      have hc4 := h4.cell
                      have hf4 := h4.frozen
                      have hc1 := hv1'.cell
                      have hf1 := hv1'.frozen
                      clear hown4 hgrow hat
                      refine hK _ _ ?_
                      clear hK K
                      refine wpAnyIn_ready (rs := [7]) (by kernel_rfl) (by simp) ?_
                      refine AllReadyIn.cons rfl (fun K hK => ?_) ?_
                      · go_simp
                        refine hK _ _ ?_
                        clear hK K
                        refine wpAnyIn_done (by kernel_rfl) ?_ _
                        gi_wp2
                        exact cl_leaf hlt1 hk2 hv2 hr2 h5 hb2 hcs hbel hsz HE.out
                      exact AllReadyIn.nil
                    exact AllReadyIn.nil
                  exact AllReadyIn.nil
                exact AllReadyIn.nil
              exact AllReadyIn.nil
            exact AllReadyIn.nil
          exact AllReadyIn.nil
        exact AllReadyIn.nil
      · have HE : Hid (foldC l (pre ++ [⟨(x1, x2), hx⟩]) = foldC l pre) := Lib.hid (by rw [HS.out, HQ.out]; unfold cst; rw [if_neg (fun h => hm h.2)])
        have hmt : markB (x2 : Int) = true := by simpa using hm
        rw [hmt] at km
        gi_wp2_with (gi_at_call 37; refine (CallsIn.inRound lp (callsIn_wide.2 (km _))).mono ?_; rintro e w' ⟨rfl, hww⟩; rw [hww]; clear hww)
        exact cl_same HII.out HE.out
    · have HE : Hid (foldC l (pre ++ [⟨(x1, x2), hx⟩]) = foldC l pre) := Lib.hid (by rw [HS.out, HQ.out]; unfold cst; rw [if_neg (fun h => h1 h.1)])
      have hnl : ¬ (fr : Int) < (x1 : Int) := by omega
      gi_wp2
      exact cl_same HII.out HE.out
  case done =>
    rintro D ys W hD hys ⟨v, hv, hrow, hv1, hcs, hbel, hsz⟩ hK
    have hq : foldC l ys = (prs 0 l).foldl (cst (encs l)) ([], 0) := by unfold foldC; rw [hys]
    rw [hq] at hrow hv1
    have hbd := foldC_bound l ys
    rw [hq] at hbd
    have hyl : ys.length ≤ (encs l).length + 1 := by
      have h1 := congrArg List.length hys
      rw [List.length_map] at h1
      have h2 : (prs 0 l).length = l.length := by
        have : ∀ (m : List Nat) a, (prs a m).length = m.length := by
          intro m; induction m with
          | nil => intro a; rfl
          | cons q m ih => intro a; simp [prs, ih]
        exact this l 0
      have := (encs_len l).1
      omega
    have HCE := Lib.hid (cst_end l)
    obtain ⟨q, hqq⟩ : ∃ q, (prs 0 l).foldl (cst (encs l)) ([], 0) = q := ⟨_, rfl⟩
    rw [hqq] at hrow hv1 hbd HCE
    obtain ⟨out, fr⟩ := q
    simp only at hrow hv1 hbd HCE
    obtain ⟨A3, c3, rfl⟩ := own_form hrow
    have hc := hv.cell
    have hfz := hv.frozen
    have hpf := hv1.cell
    have HK := Lib.hid hK
    have HQQ := Lib.hid hqq
    clear hq hqq hys hK
    by_cases hnl : l = []
    · subst hnl
      have hq0 : (out, fr) = (([], 0) : List (List UInt8) × Nat) := HQQ.out.symm
      injection hq0 with e1 e2
      subst e1 e2
      have HRo := Lib.hid hrow
      clear hrow HCE HQQ
      gi_wp2
      refine ⟨by simp, .inl ⟨_, _, rfl, run_takeDeferred HK.out, ?_⟩⟩
      refine ⟨.slice A3 0 c3, by simp [results, Tryd.results22, go_sem], ?_⟩
      exact cl_ret (L := []) HBW.out HB1.out hbel (by omega) (Below.refl _ _) HRo.out rfl HK.out
    · obtain ⟨hlt, hce⟩ := HCE.out hnl
      have hltI : (fr : Int) < ((encs l).length : Int) := by omega
      have hex := extract_piece (encs l) fr (encs l).length
      obtain ⟨pc, hpc⟩ : ∃ pc, pc = piece (encs l) fr (encs l).length := ⟨_, rfl⟩
      rw [← hpc] at hex
      have HCL : Hid (clu l = out ++ [pc]) := Lib.hid (by rw [hce, hpc])
      clear hpc hce HCE HQQ
      have hol : out.length ≤ 4000001 := by omega
      have hb3 : b ≤ W.drew.heap.size := by show b ≤ W.heap.size; omega
      have HBx : Hid (Boxed W.drew b 35 (.slice A3 out.length c3)) := Lib.hid hv
      have HRo : Hid (W.drew.ownsRow b 9 1 (.slice A3 out.length c3) out.length (out.map sv)) := Lib.hid hrow
      have HAo : Hid ((W.alloc (.cells #[.string ⟨pc.toArray⟩] 9)).drew.ownsRow b 9 1 (.slice A3 out.length c3) out.length (out.map sv)) := Lib.hid (World.ownsRow.alloc HRo.out _)
      have j3 : fr ≤ (encs l).length := by omega
      have hblt : b < W.heap.size := by omega
      have j1 : (fr : Int) ≤ ((encs l).length : Int) := by omega
      clear hrow
      gi_wp2
      refine wpIn_region_any (by kernel_rfl) ?_
      change wpAnyIn _ _ _ _ _ _ _ _ _ (World.drew _)
      refine wpAnyIn_ready (rs := [0, 1, 2]) (by kernel_rfl) (by simp) ?_
      refine AllReadyIn.cons rfl (fun K hK => ?_) ?_
      · go_simp
        refine hK _ _ ?_
        clear hK K
        refine wpAnyIn_ready (rs := [1, 2]) (by kernel_rfl) (by simp) ?_
        refine AllReadyIn.cons rfl (fun K hK => ?_) ?_
        · go_simp
          refine hK _ _ ?_
          clear hK K
          refine wpAnyIn_ready (rs := [2]) (by kernel_rfl) (by simp) ?_
          refine AllReadyIn.cons rfl (fun K hK => ?_) ?_
          · go_simp
            refine hK _ _ ?_
            clear hK K
            refine wpAnyIn_ready (rs := [3]) (by kernel_rfl) (by simp) ?_
            refine AllReadyIn.cons rfl (fun K hK => ?_) ?_
            · go_simp
              gi_wp2
              refine wpAnyIn_ready (rs := [4]) (by kernel_rfl) (by simp) ?_
              refine AllReadyIn.cons rfl (fun K hK => ?_) ?_
              · go_simp
                refine hK _ _ ?_
                clear hK K
                refine wpAnyIn_ready (rs := [5]) (by kernel_rfl) (by simp) ?_
                refine AllReadyIn.cons rfl (fun K hK => ?_) ?_
                · refine if_intro rfl ?_
                  refine opIn_append_own _ (.tmp 34) (.tmp 38) 35 rfl b 9 i0 (.string ⟨#[]⟩) 1 16 Tryd.underlying35 hi0 hz0 hz1 hz2 rfl (by decide) _ _ _ rfl HAo.out ⟨W.heap.size, 0, none⟩ 1 1 [.string ⟨pc.toArray⟩] rfl rfl (cell_one_new _ _ _) (by simp [Value.oneCell']) (by simp only [maxLen]; omega) (by omega) (by simp; omega) ?_
                  intro v' w4 hown4 hgrow hat
                  obtain ⟨g', cap', rfl⟩ := ownsRow_succ hown4
                  obtain ⟨hv1', hv2, hr2, hk2, hb2⟩ := HBx.out.appended (by decide) HRo.out hb3 (by omega) hown4 (show (W.drew.alloc (.cells #[.string ⟨pc.toArray⟩] 9)).grownBy w4 _ from hgrow)
                  have hc1 := hv1'.cell
                  have hf1 := hv1'.frozen
                  clear hown4 hgrow hat
                  refine hK _ _ ?_
                  clear hK K
                  refine wpAnyIn_ready (rs := [6]) (by kernel_rfl) (by simp) ?_
                  refine AllReadyIn.cons rfl (fun K hK => ?_) ?_
                  · go_simp
                    refine hK _ _ ?_
                    clear hK K
                    refine wpAnyIn_done (by kernel_rfl) ?_ _
                    gi_wp2
                    refine ⟨by simp, .inl ⟨_, _, rfl, run_takeDeferred (hk2.same D _ HK.out rfl), ?_⟩⟩
                    refine ⟨.slice (some ⟨g', 0, none⟩) (out.length + 1) cap', by simp [results, Tryd.results22, go_sem], ?_⟩
                    rw [HCL.out]
                    exact cl_ret HBW.out HB1.out hbel (by omega) ⟨hb2.os, hb2.tape, hb2.output, hb2.size, hb2.block⟩ (by rw [List.map_append]; exact hr2) (by simp) (hk2.same D _ HK.out rfl)
                  exact AllReadyIn.nil
                exact AllReadyIn.nil
              exact AllReadyIn.nil
            exact AllReadyIn.nil
          exact AllReadyIn.nil
        refine AllReadyIn.cons rfl (fun K hK => ?_) ?_
        · go_simp
          refine hK _ _ ?_
          clear hK K
          refine wpAnyIn_ready (rs := [1]) (by kernel_rfl) (by simp) ?_
          refine AllReadyIn.cons rfl (fun K hK => ?_) ?_
          · go_simp
            refine hK _ _ ?_
            clear hK K
            refine wpAnyIn_ready (rs := [3]) (by kernel_rfl) (by simp) ?_
            refine AllReadyIn.cons rfl (fun K hK => ?_) ?_
            · go_simp
              gi_wp2
              refine wpAnyIn_ready (rs := [4]) (by kernel_rfl) (by simp) ?_
              refine AllReadyIn.cons rfl (fun K hK => ?_) ?_
              · go_simp
                refine hK _ _ ?_
                clear hK K
                refine wpAnyIn_ready (rs := [5]) (by kernel_rfl) (by simp) ?_
                refine AllReadyIn.cons rfl (fun K hK => ?_) ?_
                · refine if_intro rfl ?_
                  refine opIn_append_own _ (.tmp 34) (.tmp 38) 35 rfl b 9 i0 (.string ⟨#[]⟩) 1 16 Tryd.underlying35 hi0 hz0 hz1 hz2 rfl (by decide) _ _ _ rfl HAo.out ⟨W.heap.size, 0, none⟩ 1 1 [.string ⟨pc.toArray⟩] rfl rfl (cell_one_new _ _ _) (by simp [Value.oneCell']) (by simp only [maxLen]; omega) (by omega) (by simp; omega) ?_
                  intro v' w4 hown4 hgrow hat
                  obtain ⟨g', cap', rfl⟩ := ownsRow_succ hown4
                  obtain ⟨hv1', hv2, hr2, hk2, hb2⟩ := HBx.out.appended (by decide) HRo.out hb3 (by omega) hown4 (show (W.drew.alloc (.cells #[.string ⟨pc.toArray⟩] 9)).grownBy w4 _ from hgrow)
                  have hc1 := hv1'.cell
                  have hf1 := hv1'.frozen
                  clear hown4 hgrow hat
                  refine hK _ _ ?_
                  clear hK K
                  refine wpAnyIn_ready (rs := [6]) (by kernel_rfl) (by simp) ?_
                  refine AllReadyIn.cons rfl (fun K hK => ?_) ?_
                  · go_simp
                    refine hK _ _ ?_
                    clear hK K
                    refine wpAnyIn_done (by kernel_rfl) ?_ _
                    gi_wp2
                    refine ⟨by simp, .inl ⟨_, _, rfl, run_takeDeferred (hk2.same D _ HK.out rfl), ?_⟩⟩
                    refine ⟨.slice (some ⟨g', 0, none⟩) (out.length + 1) cap', by simp [results, Tryd.results22, go_sem], ?_⟩
                    rw [HCL.out]
                    exact cl_ret HBW.out HB1.out hbel (by omega) ⟨hb2.os, hb2.tape, hb2.output, hb2.size, hb2.block⟩ (by rw [List.map_append]; exact hr2) (by simp) (hk2.same D _ HK.out rfl)
                  exact AllReadyIn.nil
                exact AllReadyIn.nil
              exact AllReadyIn.nil
            exact AllReadyIn.nil
          exact AllReadyIn.nil
        exact AllReadyIn.nil
      refine AllReadyIn.cons rfl (fun K hK => ?_) ?_
      · go_simp
        refine hK _ _ ?_
        clear hK K
        refine wpAnyIn_ready (rs := [0, 2]) (by kernel_rfl) (by simp) ?_
        refine AllReadyIn.cons rfl (fun K hK => ?_) ?_
        · go_simp
          refine hK _ _ ?_
          clear hK K
          refine wpAnyIn_ready (rs := [2]) (by kernel_rfl) (by simp) ?_
          refine AllReadyIn.cons rfl (fun K hK => ?_) ?_
          · go_simp
            refine hK _ _ ?_
            clear hK K
            refine wpAnyIn_ready (rs := [3]) (by kernel_rfl) (by simp) ?_
            refine AllReadyIn.cons rfl (fun K hK => ?_) ?_
            · go_simp
              gi_wp2
              refine wpAnyIn_ready (rs := [4]) (by kernel_rfl) (by simp) ?_
              refine AllReadyIn.cons rfl (fun K hK => ?_) ?_
              · go_simp
                refine hK _ _ ?_
                clear hK K
                refine wpAnyIn_ready (rs := [5]) (by kernel_rfl) (by simp) ?_
                refine AllReadyIn.cons rfl (fun K hK => ?_) ?_
                · refine if_intro rfl ?_
                  refine opIn_append_own _ (.tmp 34) (.tmp 38) 35 rfl b 9 i0 (.string ⟨#[]⟩) 1 16 Tryd.underlying35 hi0 hz0 hz1 hz2 rfl (by decide) _ _ _ rfl HAo.out ⟨W.heap.size, 0, none⟩ 1 1 [.string ⟨pc.toArray⟩] rfl rfl (cell_one_new _ _ _) (by simp [Value.oneCell']) (by simp only [maxLen]; omega) (by omega) (by simp; omega) ?_
                  intro v' w4 hown4 hgrow hat
                  obtain ⟨g', cap', rfl⟩ := ownsRow_succ hown4
                  obtain ⟨hv1', hv2, hr2, hk2, hb2⟩ := HBx.out.appended (by decide) HRo.out hb3 (by omega) hown4 (show (W.drew.alloc (.cells #[.string ⟨pc.toArray⟩] 9)).grownBy w4 _ from hgrow)
                  have hc1 := hv1'.cell
                  have hf1 := hv1'.frozen
                  clear hown4 hgrow hat
                  refine hK _ _ ?_
                  clear hK K
                  refine wpAnyIn_ready (rs := [6]) (by kernel_rfl) (by simp) ?_
                  refine AllReadyIn.cons rfl (fun K hK => ?_) ?_
                  · go_simp
                    refine hK _ _ ?_
                    clear hK K
                    refine wpAnyIn_done (by kernel_rfl) ?_ _
                    gi_wp2
                    refine ⟨by simp, .inl ⟨_, _, rfl, run_takeDeferred (hk2.same D _ HK.out rfl), ?_⟩⟩
                    refine ⟨.slice (some ⟨g', 0, none⟩) (out.length + 1) cap', by simp [results, Tryd.results22, go_sem], ?_⟩
                    rw [HCL.out]
                    exact cl_ret HBW.out HB1.out hbel (by omega) ⟨hb2.os, hb2.tape, hb2.output, hb2.size, hb2.block⟩ (by rw [List.map_append]; exact hr2) (by simp) (hk2.same D _ HK.out rfl)
                  exact AllReadyIn.nil
                exact AllReadyIn.nil
              exact AllReadyIn.nil
            exact AllReadyIn.nil
          exact AllReadyIn.nil
        refine AllReadyIn.cons rfl (fun K hK => ?_) ?_
        · go_simp
          refine hK _ _ ?_
          clear hK K
          refine wpAnyIn_ready (rs := [0, 3]) (by kernel_rfl) (by simp) ?_
          refine AllReadyIn.cons rfl (fun K hK => ?_) ?_
          · go_simp
            refine hK _ _ ?_
            clear hK K
            refine wpAnyIn_ready (rs := [3]) (by kernel_rfl) (by simp) ?_
            refine AllReadyIn.cons rfl (fun K hK => ?_) ?_
            · go_simp
              gi_wp2
              refine wpAnyIn_ready (rs := [4]) (by kernel_rfl) (by simp) ?_
              refine AllReadyIn.cons rfl (fun K hK => ?_) ?_
              · go_simp
                refine hK _ _ ?_
                clear hK K
                refine wpAnyIn_ready (rs := [5]) (by kernel_rfl) (by simp) ?_
                refine AllReadyIn.cons rfl (fun K hK => ?_) ?_
                · refine if_intro rfl ?_
                  refine opIn_append_own _ (.tmp 34) (.tmp 38) 35 rfl b 9 i0 (.string ⟨#[]⟩) 1 16 Tryd.underlying35 hi0 hz0 hz1 hz2 rfl (by decide) _ _ _ rfl HAo.out ⟨W.heap.size, 0, none⟩ 1 1 [.string ⟨pc.toArray⟩] rfl rfl (cell_one_new _ _ _) (by simp [Value.oneCell']) (by simp only [maxLen]; omega) (by omega) (by simp; omega) ?_
                  intro v' w4 hown4 hgrow hat
                  obtain ⟨g', cap', rfl⟩ := ownsRow_succ hown4
                  obtain ⟨hv1', hv2, hr2, hk2, hb2⟩ := HBx.out.appended (by decide) HRo.out hb3 (by omega) hown4 (show (W.drew.alloc (.cells #[.string ⟨pc.toArray⟩] 9)).grownBy w4 _ from hgrow)
                  have hc1 := hv1'.cell
                  have hf1 := hv1'.frozen
                  clear hown4 hgrow hat
                  refine hK _ _ ?_
                  clear hK K
                  refine wpAnyIn_ready (rs := [6]) (by kernel_rfl) (by simp) ?_
                  refine AllReadyIn.cons rfl (fun K hK => ?_) ?_
                  · go_simp
                    refine hK _ _ ?_
                    clear hK K
                    refine wpAnyIn_done (by kernel_rfl) ?_ _
                    gi_wp2
                    refine ⟨by simp, .inl ⟨_, _, rfl, run_takeDeferred (hk2.same D _ HK.out rfl), ?_⟩⟩
                    refine ⟨.slice (some ⟨g', 0, none⟩) (out.length + 1) cap', by simp [results, Tryd.results22, go_sem], ?_⟩
                    rw [HCL.out]
                    exact cl_ret HBW.out HB1.out hbel (by omega) ⟨hb2.os, hb2.tape, hb2.output, hb2.size, hb2.block⟩ (by rw [List.map_append]; exact hr2) (by simp) (hk2.same D _ HK.out rfl)
                  exact AllReadyIn.nil
                exact AllReadyIn.nil
              exact AllReadyIn.nil
            exact AllReadyIn.nil
          refine AllReadyIn.cons rfl (fun K hK => ?_) ?_
          · go_simp
            gi_wp2
            refine wpAnyIn_ready (rs := [0, 4]) (by kernel_rfl) (by simp) ?_
            refine AllReadyIn.cons rfl (fun K hK => ?_) ?_
            · go_simp
              refine hK _ _ ?_
              clear hK K
              refine wpAnyIn_ready (rs := [4]) (by kernel_rfl) (by simp) ?_
              refine AllReadyIn.cons rfl (fun K hK => ?_) ?_
              · go_simp
                refine hK _ _ ?_
                clear hK K
                refine wpAnyIn_ready (rs := [5]) (by kernel_rfl) (by simp) ?_
                refine AllReadyIn.cons rfl (fun K hK => ?_) ?_
                · refine if_intro rfl ?_
                  refine opIn_append_own _ (.tmp 34) (.tmp 38) 35 rfl b 9 i0 (.string ⟨#[]⟩) 1 16 Tryd.underlying35 hi0 hz0 hz1 hz2 rfl (by decide) _ _ _ rfl HAo.out ⟨W.heap.size, 0, none⟩ 1 1 [.string ⟨pc.toArray⟩] rfl rfl (cell_one_new _ _ _) (by simp [Value.oneCell']) (by simp only [maxLen]; omega) (by omega) (by simp; omega) ?_
                  intro v' w4 hown4 hgrow hat
                  obtain ⟨g', cap', rfl⟩ := ownsRow_succ hown4
                  obtain ⟨hv1', hv2, hr2, hk2, hb2⟩ := HBx.out.appended (by decide) HRo.out hb3 (by omega) hown4 (show (W.drew.alloc (.cells #[.string ⟨pc.toArray⟩] 9)).grownBy w4 _ from hgrow)
                  have hc1 := hv1'.cell
                  have hf1 := hv1'.frozen
                  clear hown4 hgrow hat
                  refine hK _ _ ?_
                  clear hK K
                  refine wpAnyIn_ready (rs := [6]) (by kernel_rfl) (by simp) ?_
                  refine AllReadyIn.cons rfl (fun K hK => ?_) ?_
                  · go_simp
                    refine hK _ _ ?_
                    clear hK K
                    refine wpAnyIn_done (by kernel_rfl) ?_ _
                    gi_wp2
                    refine ⟨by simp, .inl ⟨_, _, rfl, run_takeDeferred (hk2.same D _ HK.out rfl), ?_⟩⟩
                    refine ⟨.slice (some ⟨g', 0, none⟩) (out.length + 1) cap', by simp [results, Tryd.results22, go_sem], ?_⟩
                    rw [HCL.out]
                    exact cl_ret HBW.out HB1.out hbel (by omega) ⟨hb2.os, hb2.tape, hb2.output, hb2.size, hb2.block⟩ (by rw [List.map_append]; exact hr2) (by simp) (hk2.same D _ HK.out rfl)
                  exact AllReadyIn.nil
                exact AllReadyIn.nil
              exact AllReadyIn.nil
            refine AllReadyIn.cons rfl (fun K hK => ?_) ?_
            · go_simp
              refine hK _ _ ?_
              clear hK K
              refine wpAnyIn_ready (rs := [0]) (by kernel_rfl) (by simp) ?_
              refine AllReadyIn.cons rfl (fun K hK => ?_) ?_
              · go_simp
                refine hK _ _ ?_
                clear hK K
                refine wpAnyIn_ready (rs := [5]) (by kernel_rfl) (by simp) ?_
                refine AllReadyIn.cons rfl (fun K hK => ?_) ?_
                · refine if_intro rfl ?_
                  refine opIn_append_own _ (.tmp 34) (.tmp 38) 35 rfl b 9 i0 (.string ⟨#[]⟩) 1 16 Tryd.underlying35 hi0 hz0 hz1 hz2 rfl (by decide) _ _ _ rfl HAo.out ⟨W.heap.size, 0, none⟩ 1 1 [.string ⟨pc.toArray⟩] rfl rfl (cell_one_new _ _ _) (by simp [Value.oneCell']) (by simp only [maxLen]; omega) (by omega) (by simp; omega) ?_
                  intro v' w4 hown4 hgrow hat
                  obtain ⟨g', cap', rfl⟩ := ownsRow_succ hown4
                  obtain ⟨hv1', hv2, hr2, hk2, hb2⟩ := HBx.out.appended (by decide) HRo.out hb3 (by omega) hown4 (show (W.drew.alloc (.cells #[.string ⟨pc.toArray⟩] 9)).grownBy w4 _ from hgrow)
                  have hc1 := hv1'.cell
                  have hf1 := hv1'.frozen
                  clear hown4 hgrow hat
                  refine hK _ _ ?_
                  clear hK K
                  refine wpAnyIn_ready (rs := [6]) (by kernel_rfl) (by simp) ?_
                  refine AllReadyIn.cons rfl (fun K hK => ?_) ?_
                  · go_simp
                    refine hK _ _ ?_
                    clear hK K
                    refine wpAnyIn_done (by kernel_rfl) ?_ _
                    gi_wp2
                    refine ⟨by simp, .inl ⟨_, _, rfl, run_takeDeferred (hk2.same D _ HK.out rfl), ?_⟩⟩
                    refine ⟨.slice (some ⟨g', 0, none⟩) (out.length + 1) cap', by simp [results, Tryd.results22, go_sem], ?_⟩
                    rw [HCL.out]
                    exact cl_ret HBW.out HB1.out hbel (by omega) ⟨hb2.os, hb2.tape, hb2.output, hb2.size, hb2.block⟩ (by rw [List.map_append]; exact hr2) (by simp) (hk2.same D _ HK.out rfl)
                  exact AllReadyIn.nil
                exact AllReadyIn.nil
              exact AllReadyIn.nil
            exact AllReadyIn.nil
          exact AllReadyIn.nil
        exact AllReadyIn.nil
      refine AllReadyIn.cons rfl (fun K hK => ?_) ?_
      · go_simp
        refine hK _ _ ?_
        clear hK K
        refine wpAnyIn_ready (rs := [0, 1]) (by kernel_rfl) (by simp) ?_
        refine AllReadyIn.cons rfl (fun K hK => ?_) ?_
        · go_simp
          refine hK _ _ ?_
          clear hK K
          refine wpAnyIn_ready (rs := [1]) (by kernel_rfl) (by simp) ?_
          refine AllReadyIn.cons rfl (fun K hK => ?_) ?_
          · go_simp
            refine hK _ _ ?_
            clear hK K
            refine wpAnyIn_ready (rs := [3]) (by kernel_rfl) (by simp) ?_
            refine AllReadyIn.cons rfl (fun K hK => ?_) ?_
            · go_simp
              gi_wp2
              refine wpAnyIn_ready (rs := [4]) (by kernel_rfl) (by simp) ?_
              refine AllReadyIn.cons rfl (fun K hK => ?_) ?_
              · go_simp
                refine hK _ _ ?_
                clear hK K
                refine wpAnyIn_ready (rs := [5]) (by kernel_rfl) (by simp) ?_
                refine AllReadyIn.cons rfl (fun K hK => ?_) ?_
                · refine if_intro rfl ?_
                  refine opIn_append_own _ (.tmp 34) (.tmp 38) 35 rfl b 9 i0 (.string ⟨#[]⟩) 1 16 Tryd.underlying35 hi0 hz0 hz1 hz2 rfl (by decide) _ _ _ rfl HAo.out ⟨W.heap.size, 0, none⟩ 1 1 [.string ⟨pc.toArray⟩] rfl rfl (cell_one_new _ _ _) (by simp [Value.oneCell']) (by simp only [maxLen]; omega) (by omega) (by simp; omega) ?_
                  intro v' w4 hown4 hgrow hat
                  obtain ⟨g', cap', rfl⟩ := ownsRow_succ hown4
                  obtain ⟨hv1', hv2, hr2, hk2, hb2⟩ := HBx.out.appended (by decide) HRo.out hb3 (by omega) hown4 (show (W.drew.alloc (.cells #[.string ⟨pc.toArray⟩] 9)).grownBy w4 _ from hgrow)
                  have hc1 := hv1'.cell
                  have hf1 := hv1'.frozen
                  clear hown4 hgrow hat
                  refine hK _ _ ?_
                  clear hK K
                  refine wpAnyIn_ready (rs := [6]) (by kernel_rfl) (by simp) ?_
                  refine AllReadyIn.cons rfl (fun K hK => ?_) ?_
                  · go_simp
                    refine hK _ _ ?_
                    clear hK K
                    refine wpAnyIn_done (by kernel_rfl) ?_ _
                    gi_wp2
                    refine ⟨by simp, .inl ⟨_, _, rfl, run_takeDeferred (hk2.same D _ HK.out rfl), ?_⟩⟩
                    refine ⟨.slice (some ⟨g', 0, none⟩) (out.length + 1) cap', by simp [results, Tryd.results22, go_sem], ?_⟩
                    rw [HCL.out]
                    exact cl_ret HBW.out HB1.out hbel (by omega) ⟨hb2.os, hb2.tape, hb2.output, hb2.size, hb2.block⟩ (by rw [List.map_append]; exact hr2) (by simp) (hk2.same D _ HK.out rfl)
                  exact AllReadyIn.nil
                exact AllReadyIn.nil
              exact AllReadyIn.nil
            exact AllReadyIn.nil
          exact AllReadyIn.nil
        refine AllReadyIn.cons rfl (fun K hK => ?_) ?_
        · go_simp
          refine hK _ _ ?_
          clear hK K
          refine wpAnyIn_ready (rs := [0, 3]) (by kernel_rfl) (by simp) ?_
          refine AllReadyIn.cons rfl (fun K hK => ?_) ?_
          · go_simp
            refine hK _ _ ?_
            clear hK K
            refine wpAnyIn_ready (rs := [3]) (by kernel_rfl) (by simp) ?_
            refine AllReadyIn.cons rfl (fun K hK => ?_) ?_
            · go_simp
              gi_wp2
              refine wpAnyIn_ready (rs := [4]) (by kernel_rfl) (by simp) ?_
              refine AllReadyIn.cons rfl (fun K hK => ?_) ?_
              · go_simp
                refine hK _ _ ?_
                clear hK K
                refine wpAnyIn_ready (rs := [5]) (by kernel_rfl) (by simp) ?_
                refine AllReadyIn.cons rfl (fun K hK => ?_) ?_
                · refine if_intro rfl ?_
                  refine opIn_append_own _ (.tmp 34) (.tmp 38) 35 rfl b 9 i0 (.string ⟨#[]⟩) 1 16 Tryd.underlying35 hi0 hz0 hz1 hz2 rfl (by decide) _ _ _ rfl HAo.out ⟨W.heap.size, 0, none⟩ 1 1 [.string ⟨pc.toArray⟩] rfl rfl (cell_one_new _ _ _) (by simp [Value.oneCell']) (by simp only [maxLen]; omega) (by omega) (by simp; omega) ?_
                  intro v' w4 hown4 hgrow hat
                  obtain ⟨g', cap', rfl⟩ := ownsRow_succ hown4
                  obtain ⟨hv1', hv2, hr2, hk2, hb2⟩ := HBx.out.appended (by decide) HRo.out hb3 (by omega) hown4 (show (W.drew.alloc (.cells #[.string ⟨pc.toArray⟩] 9)).grownBy w4 _ from hgrow)
                  have hc1 := hv1'.cell
                  have hf1 := hv1'.frozen
                  clear hown4 hgrow hat
                  refine hK _ _ ?_
                  clear hK K
                  refine wpAnyIn_ready (rs := [6]) (by kernel_rfl) (by simp) ?_
                  refine AllReadyIn.cons rfl (fun K hK => ?_) ?_
                  · go_simp
                    refine hK _ _ ?_
                    clear hK K
                    refine wpAnyIn_done (by kernel_rfl) ?_ _
                    gi_wp2
                    refine ⟨by simp, .inl ⟨_, _, rfl, run_takeDeferred (hk2.same D _ HK.out rfl), ?_⟩⟩
                    refine ⟨.slice (some ⟨g', 0, none⟩) (out.length + 1) cap', by simp [results, Tryd.results22, go_sem], ?_⟩
                    rw [HCL.out]
                    exact cl_ret HBW.out HB1.out hbel (by omega) ⟨hb2.os, hb2.tape, hb2.output, hb2.size, hb2.block⟩ (by rw [List.map_append]; exact hr2) (by simp) (hk2.same D _ HK.out rfl)
                  exact AllReadyIn.nil
                exact AllReadyIn.nil
              exact AllReadyIn.nil
            exact AllReadyIn.nil
          refine AllReadyIn.cons rfl (fun K hK => ?_) ?_
          · go_simp
            gi_wp2
            refine wpAnyIn_ready (rs := [0, 4]) (by kernel_rfl) (by simp) ?_
            refine AllReadyIn.cons rfl (fun K hK => ?_) ?_
            · go_simp
              refine hK _ _ ?_
              clear hK K
              refine wpAnyIn_ready (rs := [4]) (by kernel_rfl) (by simp) ?_
              refine AllReadyIn.cons rfl (fun K hK => ?_) ?_
              · go_simp
                refine hK _ _ ?_
                clear hK K
                refine wpAnyIn_ready (rs := [5]) (by kernel_rfl) (by simp) ?_
                refine AllReadyIn.cons rfl (fun K hK => ?_) ?_
                · refine if_intro rfl ?_
                  refine opIn_append_own _ (.tmp 34) (.tmp 38) 35 rfl b 9 i0 (.string ⟨#[]⟩) 1 16 Tryd.underlying35 hi0 hz0 hz1 hz2 rfl (by decide) _ _ _ rfl HAo.out ⟨W.heap.size, 0, none⟩ 1 1 [.string ⟨pc.toArray⟩] rfl rfl (cell_one_new _ _ _) (by simp [Value.oneCell']) (by simp only [maxLen]; omega) (by omega) (by simp; omega) ?_
                  intro v' w4 hown4 hgrow hat
                  obtain ⟨g', cap', rfl⟩ := ownsRow_succ hown4
                  obtain ⟨hv1', hv2, hr2, hk2, hb2⟩ := HBx.out.appended (by decide) HRo.out hb3 (by omega) hown4 (show (W.drew.alloc (.cells #[.string ⟨pc.toArray⟩] 9)).grownBy w4 _ from hgrow)
                  have hc1 := hv1'.cell
                  have hf1 := hv1'.frozen
                  clear hown4 hgrow hat
                  refine hK _ _ ?_
                  clear hK K
                  refine wpAnyIn_ready (rs := [6]) (by kernel_rfl) (by simp) ?_
                  refine AllReadyIn.cons rfl (fun K hK => ?_) ?_
                  · go_simp
                    refine hK _ _ ?_
                    clear hK K
                    refine wpAnyIn_done (by kernel_rfl) ?_ _
                    gi_wp2
                    refine ⟨by simp, .inl ⟨_, _, rfl, run_takeDeferred (hk2.same D _ HK.out rfl), ?_⟩⟩
                    refine ⟨.slice (some ⟨g', 0, none⟩) (out.length + 1) cap', by simp [results, Tryd.results22, go_sem], ?_⟩
                    rw [HCL.out]
                    exact cl_ret HBW.out HB1.out hbel (by omega) ⟨hb2.os, hb2.tape, hb2.output, hb2.size, hb2.block⟩ (by rw [List.map_append]; exact hr2) (by simp) (hk2.same D _ HK.out rfl)
                  exact AllReadyIn.nil
                exact AllReadyIn.nil
              exact AllReadyIn.nil
            refine AllReadyIn.cons rfl (fun K hK => ?_) ?_
            · go_simp
              refine hK _ _ ?_
              clear hK K
              refine wpAnyIn_ready (rs := [0]) (by kernel_rfl) (by simp) ?_
              refine AllReadyIn.cons rfl (fun K hK => ?_) ?_
              · go_simp
                refine hK _ _ ?_
                clear hK K
                refine wpAnyIn_ready (rs := [5]) (by kernel_rfl) (by simp) ?_
                refine AllReadyIn.cons rfl (fun K hK => ?_) ?_
                · refine if_intro rfl ?_
                  refine opIn_append_own _ (.tmp 34) (.tmp 38) 35 rfl b 9 i0 (.string ⟨#[]⟩) 1 16 Tryd.underlying35 hi0 hz0 hz1 hz2 rfl (by decide) _ _ _ rfl HAo.out ⟨W.heap.size, 0, none⟩ 1 1 [.string ⟨pc.toArray⟩] rfl rfl (cell_one_new _ _ _) (by simp [Value.oneCell']) (by simp only [maxLen]; omega) (by omega) (by simp; omega) ?_
                  intro v' w4 hown4 hgrow hat
                  obtain ⟨g', cap', rfl⟩ := ownsRow_succ hown4
                  obtain ⟨hv1', hv2, hr2, hk2, hb2⟩ := HBx.out.appended (by decide) HRo.out hb3 (by omega) hown4 (show (W.drew.alloc (.cells #[.string ⟨pc.toArray⟩] 9)).grownBy w4 _ from hgrow)
                  have hc1 := hv1'.cell
                  have hf1 := hv1'.frozen
                  clear hown4 hgrow hat
                  refine hK _ _ ?_
                  clear hK K
                  refine wpAnyIn_ready (rs := [6]) (by kernel_rfl) (by simp) ?_
                  refine AllReadyIn.cons rfl (fun K hK => ?_) ?_
                  · go_simp
                    refine hK _ _ ?_
                    clear hK K
                    refine wpAnyIn_done (by kernel_rfl) ?_ _
                    gi_wp2
                    refine ⟨by simp, .inl ⟨_, _, rfl, run_takeDeferred (hk2.same D _ HK.out rfl), ?_⟩⟩
                    refine ⟨.slice (some ⟨g', 0, none⟩) (out.length + 1) cap', by simp [results, Tryd.results22, go_sem], ?_⟩
                    rw [HCL.out]
                    exact cl_ret HBW.out HB1.out hbel (by omega) ⟨hb2.os, hb2.tape, hb2.output, hb2.size, hb2.block⟩ (by rw [List.map_append]; exact hr2) (by simp) (hk2.same D _ HK.out rfl)
                  exact AllReadyIn.nil
                exact AllReadyIn.nil
              exact AllReadyIn.nil
            exact AllReadyIn.nil
          exact AllReadyIn.nil
        exact AllReadyIn.nil
      exact AllReadyIn.nil
  case stop =>
    rintro D c pre W _ _ h _
    exact h.elim
theorem clusters_any (s : List UInt8) (hl : s.length ≤ 4000000) (w : World) (hL : Laid w) : Calls Tryd.prog 22 #[.string ⟨s.toArray⟩] w (RetS (clV s) w) := by
  have hL2 : Laid (w.alloc (.cells #[.string ⟨s.toArray⟩] 9)) := hL.below ((Below.refl _ _).alloc (Nat.le_refl _) _)
  have kv : CallsIn Fence.wide 2 Tryd.prog 29 #[.string ⟨s.toArray⟩] (w.alloc (.cells #[.string ⟨s.toArray⟩] 9)) (Ret (.bool (ptB s)) (w.alloc (.cells #[.string ⟨s.toArray⟩] 9))) := callsIn_wide.2 (valid_any s hl _ hL2)
  cases hp : pts s with
  | none =>
    obtain ⟨e1, e2⟩ := pt_none hp
    have e3 : clV s = [] := by unfold clV; rw [hp]; rfl
    rw [e2] at kv
    rw [e3]
    exact callsIn_wide.1 (clusters_none s w kv)
  | some l =>
    obtain ⟨e1, e2⟩ := pt_some hp
    obtain ⟨g1, g2⟩ := pts_encs hp
    have e3 : clV s = clu l := by unfold clV; rw [hp]; rfl
    rw [e2] at kv
    rw [e3]
    rw [← g1] at hl kv ⊢
    exact callsIn_wide.1 (clusters_some l hl g2 w kv)
end Go.Proofs.YtmgdeckooiblaaaDoor
