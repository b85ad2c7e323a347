/- The reference's insertion. -/
import Derived.Test.YtofnbohcofgfkaaSpT
namespace Go.Proofs.Ytofnbohcofgfkaa
open Go.RowKit

/-- The slot is a row of the call's own, and nothing of it lies in another row. -/
def Apart (v u : Value) : Prop := ∀ g, v.ownBlock = some g → u.ownBlock ≠ some g
theorem Apart.symm {v u : Value} (h : Apart v u) : Apart u v := fun g h1 h2 => h g h2 h1
theorem ob_slice (A : Option Addr) (n c m d : Nat) : (Value.slice A n c).ownBlock = (Value.slice A m d).ownBlock := by cases A <;> rfl
theorem OwnS.kept {w w' : World} {B : Nat} {s : List Sp} {v u : Value} (h : OwnS w B s v) (hg : w.grownBy w' u.ownBlock) (ha : Apart v u) : OwnS w' B s v := by
  obtain ⟨A, c, rfl, ho⟩ := h
  refine ⟨A, c, rfl, ho.kept hg ?_⟩
  cases hv : (Value.slice A s.length c).ownBlock with
  | none => exact .inl rfl
  | some g => exact .inr fun e => ha g hv e.symm
theorem OwnS.lt {w : World} {B : Nat} {s : List Sp} {v : Value} (h : OwnS w B s v) : ∀ g, v.ownBlock = some g → B ≤ g ∧ g < w.heap.size := by
  obtain ⟨A, c, rfl, ho⟩ := h
  exact ho.lt
/-- The row that was appended to lies apart from the other one, as before. -/
theorem Apart.grown {w : World} {B : Nat} {s : List Sp} {v v' u : Value} (h : Apart v u) (hu : OwnS w B s u) (ha : v'.ownBlock = v.ownBlock ∨ v'.ownBlock = some w.heap.size) : Apart v' u := fun g h1 h2 => by
  rcases ha with e | e
  · exact h g (e ▸ h1) h2
  · rw [e] at h1; injection h1 with h1
    have := (hu.lt g h2).2
    omega
theorem own_empty2 (w : World) : OwnS (w.alloc (.cells #[] 23)) w.heap.size [] (.slice (some ⟨w.heap.size, 0, none⟩) 0 0) :=
  ⟨_, 0, rfl, rfl, .inr ⟨_, 0, #[], rfl, Nat.le_refl _, heap_alloc_new w _, Nat.le_refl _, by simp [maxLen], rfl, rfl⟩⟩
theorem OwnS.alloc {w : World} {B : Nat} {s : List Sp} {v : Value} (h : OwnS w B s v) (o : Obj) : OwnS (w.alloc o) B s v :=
  let ⟨A, c, e, ho⟩ := h; ⟨A, c, e, ho.alloc _⟩
theorem OwnS.low_set {w : World} {B : Nat} {s : List Sp} {v : Value} (h : OwnS w B s v) {p : Addr} (hp : p.block < B) (u : Value) : OwnS (w.setCell p u) B s v :=
  let ⟨A, c, e, ho⟩ := h; ⟨A, c, e, ownsRow_setCell_below ho hp u⟩

/-- Block b holds a span, and can be written. -/
def TwoF (w : World) (b : Nat) (x : Sp) : Prop := TwoS w b x ∧ w.frozen? ⟨b, 0, none⟩ = false ∧ w.frozen? ⟨b, 1, none⟩ = false
theorem TwoF.below {w w' : World} {b : Nat} {x : Sp} (h : TwoF w b x) (hb : Below w.heap.size w w') : TwoF w' b x :=
  ⟨h.1.below hb, ((bcell hb).2 b 0 h.1.1).trans h.2.1, ((bcell hb).2 b 1 h.1.1).trans h.2.2⟩
theorem TwoF.new (w : World) (x : Sp) (t : TypeId) : TwoF (w.alloc (.cells #[.int .i64 x.f, .int .i64 x.t] t)) w.heap.size x :=
  ⟨TwoS.new w x t, by simp [go_sem], by simp [go_sem]⟩
theorem TwoF.grown {w w' : World} {b : Nat} {x : Sp} {row : Option Nat} (h : TwoF w b x) (hg : w.grownBy w' row) (hr : row ≠ some b) : TwoF w' b x :=
  ⟨⟨Nat.lt_of_lt_of_le h.1.1 hg.size, (World.cell?_of_block (hg.block b h.1.1 fun e => hr e.symm)).trans h.1.2.1, (World.cell?_of_block (hg.block b h.1.1 fun e => hr e.symm)).trans h.1.2.2⟩,
    (World.frozen?_of_block (hg.block b h.1.1 fun e => hr e.symm)).trans h.2.1, (World.frozen?_of_block (hg.block b h.1.1 fun e => hr e.symm)).trans h.2.2⟩
theorem OwnS.drewN {w : World} {B : Nat} {s : List Sp} {v : Value} (h : OwnS w B s v) (n : Nat) : OwnS (w.drewN n) B s v := h.below (Below.drewN_ (Below.refl _ _) n)
theorem TwoF.store {w : World} {b : Nat} {x : Sp} (h : TwoF w b x) (f t : Int) : TwoF ((w.setCell ⟨b, 0, none⟩ (.int .i64 f)).setCell ⟨b, 1, none⟩ (.int .i64 t)) b ⟨f, t⟩ := by
  obtain ⟨⟨h1, h2, h3⟩, h4, h5⟩ := h
  refine ⟨⟨by simpa using h1, ?_, ?_⟩, ?_, ?_⟩
  · rw [World.cell?_setCell_other _ _ _ _ (by intro e; injection e with _ e; cases e)]
    exact World.cell?_setCell_same _ _ _ h2
  · refine World.cell?_setCell_same _ _ _ (?_ : _ = some (.int .i64 x.t))
    rw [World.cell?_setCell_other _ _ _ _ (by intro e; injection e with _ e; cases e)]
    exact h3
  · rw [World.frozen?_setCell, World.frozen?_setCell]; exact h4
  · rw [World.frozen?_setCell, World.frozen?_setCell]; exact h5
/-- One of two rows, and a block below them, when a span is appended to the other. -/
theorem two_app {W w4 : World} {B b : Nat} {bf af : List Sp} {e y : Sp} {v u v4 : Value} (hv : OwnS W B bf v) (hu : OwnS W B af u) (hap : Apart v u) (ht : TwoF W b y) (hb : b < B) (o : Obj)
    (hown : w4.ownsRow B 23 2 v4 (bf.length + 1) (bf.flatMap encS ++ [e].flatMap encS)) (hg : (W.alloc o).grownBy w4 v.ownBlock) (hat : v4.ownBlock = v.ownBlock ∨ v4.ownBlock = some (W.alloc o).heap.size) :
    OwnS w4 B (bf ++ [e]) v4 ∧ OwnS w4 B af u ∧ Apart v4 u ∧ TwoF w4 b y :=
  ⟨OwnS.snoc hown, (hu.alloc o).kept hg (fun g h1 h2 => hap g h2 h1), hap.grown (hu.alloc o) hat,
    (ht.below ((Below.refl _ _).alloc (Nat.le_refl _) _)).grown hg (fun e => by have := (hv.lt b e).1; omega)⟩

def insAt (l : List Sp) (s : Sp) (k : Nat) : List Sp × Sp × List Sp := (l.take k).foldl ins1 ([], s, [])
theorem insAt_next {l : List Sp} {s : Sp} {k : Nat} (hk : k < l.length) : insAt l s (k + 1) = ins1 (insAt l s k) l[k] := by
  unfold insAt; rw [List.take_succ_eq_append_getElem hk, List.foldl_append]; rfl
theorem insAt_all (l : List Sp) (s : Sp) : (insAt l s l.length).1 ++ [(insAt l s l.length).2.1] ++ (insAt l s l.length).2.2 = ins l s := by unfold insAt ins insP; rw [List.take_length]
theorem insAt_len (l : List Sp) (s : Sp) : ∀ k, k ≤ l.length → (insAt l s k).1.length + (insAt l s k).2.2.length ≤ k
  | 0, _ => by simp [insAt]
  | k + 1, h => by
    rw [insAt_next (by omega)]
    have := insAt_len l s k (by omega)
    unfold ins1
    split
    · simp; omega
    · split
      · simp; omega
      · simp; omega

set_option maxRecDepth 20000 in
set_option maxHeartbeats 4000000 in
theorem insert_any (l : List Sp) (x : Sp) (A : Option Addr) (ca : Nat) (w : World) (ha : Spans w A l) (hl : l.length ≤ 10000) :
    Calls Try.prog 39 #[.slice A l.length ca, .agg #[.int .i64 x.f, .int .i64 x.t]] w (RetSpans (ins l x) w) := by
  obtain ⟨i0, hi, hz0, hz1, hz2⟩ := info_parts info_span
  have HI : Hid ((insAt l x l.length).1 ++ [(insAt l x l.length).2.1] ++ (insAt l x l.length).2.2 = ins l x) := Lib.hid (insAt_all l x)
  generalize ins l x = R at *
  go_enter Try.func39, Try.ntmps39
  go_wp2
  go_loopw [5, 6, 7] (fun v u i wr => ∃ k : Nat, k ≤ l.length ∧ i = .int .i64 (k : Int) ∧ OwnS wr (w.heap.size + 1) (insAt l x k).1 v ∧ OwnS wr (w.heap.size + 1) (insAt l x k).2.2 u ∧ Apart v u ∧ TwoF wr w.heap.size (insAt l x k).2.1 ∧ Below w.heap.size w wr) (fun _ _ i _ => l.length + 1 - (intOf i).toNat)
  case atStart =>
    have hn := TwoF.new w x 23
    have o1 := own_empty2 (w.alloc (.cells #[.int .i64 x.f, .int .i64 x.t] 23))
    have o2 := own_empty2 ((w.alloc (.cells #[.int .i64 x.f, .int .i64 x.t] 23)).alloc (.cells #[] 23))
    have s1 : (w.alloc (.cells #[.int .i64 x.f, .int .i64 x.t] 23)).heap.size = w.heap.size + 1 := by simp
    have s2 : ((w.alloc (.cells #[.int .i64 x.f, .int .i64 x.t] 23)).alloc (.cells #[] 23)).heap.size = w.heap.size + 1 + 1 := by simp
    rw [s1] at o1
    rw [s2] at o2
    refine ⟨0, by omega, rfl, o1.alloc _, OwnS.lower o2 (by omega), ?_, TwoF.below (TwoF.below hn ((Below.refl _ _).alloc (Nat.le_refl _) _)) ((Below.refl _ _).alloc (Nat.le_refl _) _), (by repeat (first | assumption | exact Below.refl _ _ | refine Below.alloc ?_ (by first | omega | (simp; done) | (simp; omega)) _ | refine Below.setCell ?_ (by first | omega | (simp; done) | (simp; omega)) _ | refine Below.drew ?_ | refine Below.drewN_ ?_ _ | refine Below.step ?_ (by assumption)))⟩
    intro g h1 h2
    simp [Value.ownBlock] at h1 h2
    omega
  case round =>
    obtain ⟨k, hk, rfl, hob, hoa, hap, ht, hbw⟩ := hrel
    have zz := hbw.size
    have hlen := insAt_len l x k hk
    by_cases hlt : k < l.length
    · obtain ⟨ad, rfl, hadl, d0, d1⟩ := Spans.cells (ha.below hbw) hlt
      have HN := Lib.hid (insAt_next (l := l) (s := x) hlt)
      generalize l[k] = e at *
      generalize insAt l x k = p at *
      obtain ⟨bf, y, af⟩ := p
      simp only at hob hoa ht hlen
      have HT := Lib.hid ht
      obtain ⟨⟨zl, e0, e1⟩, f0, f1⟩ := ht
      by_cases c1 : e.t < y.f
      · rw [show ins1 (bf, y, af) e = (bf ++ [e], y, af) by unfold ins1; simp only [if_pos c1]] at HN
        obtain ⟨A1, q1, rfl, ho1⟩ := hob
        have HB1 := Lib.hid ho1
        have HA1 := Lib.hid hoa
        have HAP := Lib.hid hap
        clear ho1 hoa hap
        go_wp2
        go_quiet (fail)
        go_wp2_with (at_builtin; refine wpList_append_any _ rfl _ _ _ rfl (w.heap.size + 1) 23 i0 _ 2 16 Try.underlying30 hi hz0 hz1 hz2 rfl (by omega) _ bf.length _ rfl (World.ownsRow.alloc (own_below HB1.out (Below.drewN_ (Below.refl _ wr) _)) _) (wr.heap.size + 1) (some ⟨wr.heap.size, 0, none⟩) 1 1 ([e].flatMap encS) rfl (by simpa using Spans.reads (Spans.one (wr.drewN _) e _)) (one_spans _) (by simp only [maxLen]; omega) (by omega) (by simp; omega) ?_; intro v4 w4 hown4 hg4 hat4)
        have hb4 : Below w.heap.size w w4 := ((Below.drewN_ hbw _).alloc zz _).grown hg4 (by simp; omega) (fun g hg => by have := (HB1.out.lt g hg).1; omega)
        have H4 := Lib.hid (two_app (OwnS.drewN ⟨A1, q1, rfl, HB1.out⟩ _) (OwnS.drewN HA1.out _) HAP.out (HT.out.below (Below.drewN_ (Below.refl _ _) _)) (by omega) _ hown4 hg4 hat4)
        clear hown4 hg4 hat4
        exact ⟨⟨k + 1, by omega, by go_num, by rw [HN.out]; exact H4.out.1, by rw [HN.out]; exact H4.out.2.1, H4.out.2.2.1, by rw [HN.out]; exact H4.out.2.2.2, hb4⟩, by simp [intOf]; omega⟩
      · by_cases c2 : y.t < e.f
        · rw [show ins1 (bf, y, af) e = (bf, y, af ++ [e]) by unfold ins1; simp only [if_neg c1, if_pos c2]] at HN
          obtain ⟨A2, q2, rfl, ho2⟩ := hoa
          have HB1 := Lib.hid hob
          have HA1 := Lib.hid ho2
          have HAP := Lib.hid hap
          clear ho2 hob hap
          go_wp2
          go_quiet (fail)
          go_wp2
          go_quiet (fail)
          go_wp2_with (at_builtin; refine wpList_append_any _ rfl _ _ _ rfl (w.heap.size + 1) 23 i0 _ 2 16 Try.underlying30 hi hz0 hz1 hz2 rfl (by omega) _ af.length _ rfl (World.ownsRow.alloc (own_below HA1.out (Below.drewN_ (Below.refl _ wr) _)) _) (wr.heap.size + 1) (some ⟨wr.heap.size, 0, none⟩) 1 1 ([e].flatMap encS) rfl (by simpa using Spans.reads (Spans.one (wr.drewN _) e _)) (one_spans _) (by simp only [maxLen]; omega) (by omega) (by simp; omega) ?_; intro v4 w4 hown4 hg4 hat4)
          have hb4 : Below w.heap.size w w4 := ((Below.drewN_ hbw _).alloc zz _).grown hg4 (by simp; omega) (fun g hg => by have := (HA1.out.lt g hg).1; omega)
          have H4 := Lib.hid (two_app (OwnS.drewN ⟨A2, q2, rfl, HA1.out⟩ _) (OwnS.drewN HB1.out _) HAP.out.symm (HT.out.below (Below.drewN_ (Below.refl _ _) _)) (by omega) _ hown4 hg4 hat4)
          clear hown4 hg4 hat4
          exact ⟨⟨k + 1, by omega, by go_num, by rw [HN.out]; exact H4.out.2.1, by rw [HN.out]; exact H4.out.1, H4.out.2.2.1.symm, by rw [HN.out]; exact H4.out.2.2.2, hb4⟩, by simp [intOf]; omega⟩
        · rw [show ins1 (bf, y, af) e = (bf, ⟨min y.f e.f, max y.t e.t⟩, af) by unfold ins1; simp only [if_neg c1, if_neg c2]] at HN
          have HB1 := Lib.hid hob
          have HA1 := Lib.hid hoa
          have HAP := Lib.hid hap
          clear hoa hob hap
          go_wp2
          go_quiet (fail)
          go_wp2
          go_quiet (fail)
          go_wp2
          go_region
          have hmin : min y.f e.f = if e.f < y.f then e.f else y.f := by split <;> omega
          have hmax : max y.t e.t = if y.t < e.t then e.t else y.t := by split <;> omega
          rw [hmin, hmax] at HN
          generalize (if e.f < y.f then e.f else y.f) = F at *
          generalize (if y.t < e.t then e.t else y.t) = T at *
          have hE : ∀ n, OwnS (((wr.drewN n).setCell ⟨w.heap.size, 0, none⟩ (.int .i64 F)).setCell ⟨w.heap.size, 1, none⟩ (.int .i64 T)) (w.heap.size + 1) bf u5 ∧ OwnS (((wr.drewN n).setCell ⟨w.heap.size, 0, none⟩ (.int .i64 F)).setCell ⟨w.heap.size, 1, none⟩ (.int .i64 T)) (w.heap.size + 1) af u6 ∧
              TwoF (((wr.drewN n).setCell ⟨w.heap.size, 0, none⟩ (.int .i64 F)).setCell ⟨w.heap.size, 1, none⟩ (.int .i64 T)) w.heap.size ⟨F, T⟩ ∧ Below w.heap.size w (((wr.drewN n).setCell ⟨w.heap.size, 0, none⟩ (.int .i64 F)).setCell ⟨w.heap.size, 1, none⟩ (.int .i64 T)) := fun n =>
            ⟨((HB1.out.drewN n).low_set (Nat.lt_succ_self _) _).low_set (Nat.lt_succ_self _) _, ((HA1.out.drewN n).low_set (Nat.lt_succ_self _) _).low_set (Nat.lt_succ_self _) _, (HT.out.below (Below.drewN_ (Below.refl _ _) n)).store F T,
              ((Below.drewN_ hbw n).setCell (p := ⟨w.heap.size, 0, none⟩) (Nat.le_refl _) _).setCell (p := ⟨w.heap.size, 1, none⟩) (Nat.le_refl _) _⟩
          go_wp2
          exact ⟨⟨k + 1, by omega, by go_num, by rw [HN.out]; exact (hE _).1, by rw [HN.out]; exact (hE _).2.1, HAP.out, by rw [HN.out]; exact (hE _).2.2.1, (hE _).2.2.2⟩, by simp [intOf]; omega⟩
    · obtain rfl : k = l.length := by omega
      have hRR := HI.out
      clear HI
      generalize insAt l x l.length = p at *
      obtain ⟨bf, y, af⟩ := p
      simp only at hob hoa ht hlen hRR
      have HRR := Lib.hid hRR
      have HT := Lib.hid ht
      obtain ⟨⟨zl, e0, e1⟩, f0, f1⟩ := ht
      obtain ⟨A1, q1, rfl, ho1⟩ := hob
      obtain ⟨A2, q2, rfl, ho2⟩ := hoa
      have HB1 := Lib.hid ho1
      have HA1 := Lib.hid ho2
      have HAP := Lib.hid hap
      clear ho1 ho2 hap hRR
      go_wp2_with (first
        | (at_builtin
           refine wpList_append_any _ rfl _ _ _ rfl (w.heap.size + 1) 23 i0 _ 2 16 Try.underlying30 hi hz0 hz1 hz2 rfl (by omega) _ bf.length _ rfl (HB1.out.alloc _) (wr.heap.size + 1) (some ⟨wr.heap.size, 0, none⟩) 1 1 ([y].flatMap encS) rfl (by simpa using Spans.reads (Spans.one wr y _)) (one_spans _) (by simp only [maxLen]; omega) (by omega) (by simp; omega) ?_
           intro v4 w4 hown4 hg4 hat4
           have hb4 : Below w.heap.size w w4 := (hbw.alloc zz _).grown hg4 (by simp; omega) (fun g hg => by have := (HB1.out.lt g hg).1; omega)
           have H4 := Lib.hid (two_app ⟨A1, q1, rfl, HB1.out⟩ ⟨A2, q2, rfl, HA1.out⟩ HAP.out HT.out (by omega) _ hown4 hg4 hat4)
           have hz4 : w.heap.size + 1 ≤ w4.heap.size := by have := hg4.size; simp at this; omega
           obtain ⟨A4, q4, rfl⟩ := own_form hown4
           have H4A : Hid (w4.ownsRow (w.heap.size + 1) 23 2 (.slice A2 af.length q2) af.length (af.flatMap encS)) := Lib.hid (by obtain ⟨A9, q9, e9, h9⟩ := H4.out.2.1; injection e9 with e1 _ e3; subst e1; subst e3; exact h9)
           have H4B : Hid (w4.ownsRow (w.heap.size + 1) 23 2 (.slice A4 (bf.length + 1) q4) (bf.length + 1) ((bf ++ [y]).flatMap encS)) := Lib.hid (by rw [List.flatMap_append]; exact hown4)
           clear hown4 hg4 hat4)
        | (at_builtin
           refine wpList_append_any _ rfl _ _ _ rfl (w.heap.size + 1) 23 i0 _ 2 16 Try.underlying30 hi hz0 hz1 hz2 rfl (by omega) _ (bf.length + 1) _ rfl H4B.out w4.heap.size A2 af.length q2 (af.flatMap encS) rfl (Spans.reads (Spans.of_own H4A.out)) (one_spans _) (by simp only [maxLen]; omega) (by omega) hz4 ?_
           intro v5 w5 hown5 hg5 _
           have HB5 : Hid (Below w.heap.size w w5) := Lib.hid (hb4.grown hg5 (by omega) (fun g hg => by have := (H4B.out.lt g hg).1; omega))
           have HO5 : Hid (OwnS w5 w.heap.size R v5) := Lib.hid (by
             obtain ⟨A5, q5, rfl⟩ := own_form hown5
             rw [← HRR.out]
             have e1 : (bf ++ [y] ++ af).length = bf.length + 1 + af.length := by simp; omega
             refine ⟨A5, q5, by rw [e1], ?_⟩
             rw [e1, List.flatMap_append]
             exact own_lower hown5 (Nat.le_succ w.heap.size))
           clear hown5 hg5))
      go_ret
      exact HO5.out.ret HB5.out
end Go.Proofs.Ytofnbohcofgfkaa
