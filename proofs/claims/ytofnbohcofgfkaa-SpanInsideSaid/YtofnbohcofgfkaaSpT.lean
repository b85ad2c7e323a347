/- Union of the code, if its sort sorts. -/
import Derived.Test.YtofnbohcofgfkaaSpE
namespace Go.Proofs.Ytofnbohcofgfkaa
open Go.RowKit

/-- Block b holds a span. -/
def TwoS (w : World) (b : Nat) (x : Sp) : Prop := b < w.heap.size ∧ w.cell? ⟨b, 0, none⟩ = some (.int .i64 x.f) ∧ w.cell? ⟨b, 1, none⟩ = some (.int .i64 x.t)
theorem TwoS.below {w w' : World} {b : Nat} {x : Sp} (h : TwoS w b x) (hb : Below w.heap.size w w') : TwoS w' b x :=
  ⟨Nat.lt_of_lt_of_le h.1 hb.size, ((bcell hb).1 b 0 h.1).trans h.2.1, ((bcell hb).1 b 1 h.1).trans h.2.2⟩
theorem TwoS.new (w : World) (x : Sp) (t : TypeId) : TwoS (w.alloc (.cells #[.int .i64 x.f, .int .i64 x.t] t)) w.heap.size x :=
  ⟨by simp, by simp [go_sem], by simp [go_sem]⟩
theorem OwnS.snoc {w : World} {B : Nat} {s : List Sp} {x : Sp} {v : Value} (h : w.ownsRow B 23 2 v (s.length + 1) (s.flatMap encS ++ [x].flatMap encS)) : OwnS w B (s ++ [x]) v := by
  obtain ⟨A, c, rfl⟩ := own_form h
  exact ⟨A, c, by simp, by simpa using h⟩
theorem OwnS.below {w w' : World} {B : Nat} {s : List Sp} {v : Value} (h : OwnS w B s v) (hb : Below w.heap.size w w') : OwnS w' B s v :=
  let ⟨A, c, e, ho⟩ := h; ⟨A, c, e, own_below ho hb⟩
theorem own_lower {w : World} {B B' size n : Nat} {T : TypeId} {v : Value} {xs : List Value} (h : w.ownsRow B T size v n xs) (hB : B' ≤ B) : w.ownsRow B' T size v n xs := by
  rcases h.2 with h1 | ⟨g, cap, cur, h1, h2, h3⟩
  · exact ⟨h.1, .inl h1⟩
  · exact ⟨h.1, .inr ⟨g, cap, cur, h1, by omega, h3⟩⟩
theorem OwnS.lower {w : World} {B B' : Nat} {s : List Sp} {v : Value} (h : OwnS w B s v) (hB : B' ≤ B) : OwnS w B' s v :=
  let ⟨A, c, e, ho⟩ := h; ⟨A, c, e, own_lower ho hB⟩
/-- The last span of an own row, and where it lies. -/
theorem OwnS.last {w : World} {B : Nat} {o : List Sp} {x : Sp} {v : Value} (h : OwnS w B (o ++ [x]) v) : ∃ g c, v = .slice (some ⟨g, 0, none⟩) (o.length + 1) c ∧ B ≤ g ∧ g < w.heap.size ∧
    w.cell? ⟨g, o.length * 2, none⟩ = some (.int .i64 x.f) ∧ w.cell? ⟨g, o.length * 2 + 1, none⟩ = some (.int .i64 x.t) ∧ w.frozen? ⟨g, o.length * 2, none⟩ = false ∧ w.frozen? ⟨g, o.length * 2 + 1, none⟩ = false ∧
    w.ownsRow B 23 2 (.slice (some ⟨g, 0, none⟩) (o.length + 1) c) (o.length + 1) ((o ++ [x]).flatMap encS) := by
  obtain ⟨A, c, rfl, ho⟩ := h
  have hn : (o ++ [x]).length = o.length + 1 := by simp
  have hsp := Spans.of_own ho
  have ho0 := ho
  rcases ho.2 with ⟨h1, _⟩ | ⟨g, cap, cur, h1, h2, h3, _⟩
  · injection h1 with _ h1 _; simp at h1
  · injection h1 with e1 e2 e3
    subst e1
    obtain ⟨ad, e, hlt, c0, c1⟩ := hsp.cells (i := o.length) (by simp)
    injection e with e
    subst e
    have e4 : ((⟨g, 0, none⟩ : Addr).add (o.length * 2)) = ⟨g, o.length * 2, none⟩ := by unfold Addr.add; split <;> simp_all
    rw [e4] at c0 c1
    have e5 : (o ++ [x])[o.length]'(by simp) = x := by simp
    rw [e5] at c0 c1
    refine ⟨g, c, by rw [hn], h2, hlt, c0, c1, ho0.frozenAt _, ho0.frozenAt _, by rw [← hn]; exact ho0⟩

theorem filt_next {l : List Sp} {k : Nat} (hk : k < l.length) : (l.take (k + 1)).filter rt = (l.take k).filter rt ++ if rt l[k] then [l[k]] else [] := by
  rw [List.take_succ_eq_append_getElem hk, List.filter_append]
  rcases h : rt l[k] with _ | _ <;> simp [h]
theorem filt_len (l : List Sp) (k : Nat) : ((l.take k).filter rt).length ≤ k := Nat.le_trans (List.length_filter_le _ _) (by rw [List.length_take]; omega)
/-- What the merging has come to. -/
def mrgs (q : List Sp) (k : Nat) : List Sp := (q.take k).foldl mrg1 []
theorem mrgs_next {q : List Sp} {k : Nat} (hk : k < q.length) : mrgs q (k + 1) = mrg1 (mrgs q k) q[k] := by
  unfold mrgs; rw [List.take_succ_eq_append_getElem hk, List.foldl_append]; rfl
theorem mrg1_len (o : List Sp) (s : Sp) : (mrg1 o s).length ≤ o.length + 1 := by
  rcases List.eq_nil_or_concat o with rfl | ⟨o, l, rfl⟩
  · simp [mrg1_nil]
  · rw [List.concat_eq_append, mrg1_snoc]; split <;> simp
theorem mrgs_len (q : List Sp) : ∀ k, k ≤ q.length → (mrgs q k).length ≤ k
  | 0, _ => by simp [mrgs]
  | k + 1, h => by
    rw [mrgs_next (by omega)]
    have := mrg1_len (mrgs q k) q[k]
    have := mrgs_len q k (by omega)
    omega
theorem mrgs_all (q : List Sp) : mrgs q q.length = q.foldl mrg1 [] := by unfold mrgs; rw [List.take_length]

theorem own_dr {w : World} {B size n : Nat} {T : TypeId} {v : Value} {xs : List Value} (h : w.ownsRow B T size v n xs) (o : Obj) (k : Nat) : ((w.alloc o).drewN k).ownsRow B T size v n xs :=
  own_below h (Below.drewN_ ((Below.refl _ _).alloc (Nat.le_refl _) o) k)
theorem OwnS.dr {w : World} {B : Nat} {s : List Sp} {v : Value} (h : OwnS w B s v) (o : Obj) (k : Nat) : OwnS ((w.alloc o).drewN k) B s v :=
  let ⟨A, c, e, ho⟩ := h; ⟨A, c, e, own_dr ho o k⟩

theorem own_setlast {w : World} {B g c : Nat} {o : List Sp} {x : Sp} (h : w.ownsRow B 23 2 (.slice (some ⟨g, 0, none⟩) (o.length + 1) c) (o.length + 1) ((o ++ [x]).flatMap encS)) (y : Int) :
    OwnS (w.setCell ⟨g, o.length * 2 + 1, none⟩ (.int .i64 y)) B (o ++ [⟨x.f, y⟩]) (.slice (some ⟨g, 0, none⟩) (o.length + 1) c) := by
  refine ⟨_, c, by rw [List.length_append]; rfl, ?_⟩
  have := (h.stored (o.length * 2 + 1) (.int .i64 y)).1
  have e6 : (List.flatMap encS (o ++ [x])).set (o.length * 2 + 1) (.int .i64 y) = List.flatMap encS (o ++ [⟨x.f, y⟩]) := by
    rw [List.flatMap_append, List.flatMap_append, List.set_append_right _ _ (by rw [flat_len]; omega), flat_len]
    rw [show o.length * 2 + 1 - o.length * 2 = 1 by omega]
    rfl
  rw [e6] at this
  rw [show (o ++ [(⟨x.f, y⟩ : Sp)]).length = o.length + 1 by simp]
  exact this

/-- What the sort of Union does. -/
def SortsS : Prop := ∀ (zs : List Sp) (A : Option Addr) (cap B : Nat) (w : World), w.ownsRow B 23 2 (.slice A zs.length cap) zs.length (zs.flatMap encS) → B ≤ w.heap.size → zs.length ≤ 100000 →
    Calls Try.prog 36 #[.slice A zs.length cap, .func (.func 37) #[] #[]] w fun e w' => e = .returned (.tuple #[]) ∧ ∃ q : List Sp, q.Perm zs ∧ q.Pairwise (fun a b => a.f ≤ b.f) ∧
      w'.ownsRow B 23 2 (.slice A q.length cap) q.length (q.flatMap encS) ∧ Below B w w'

set_option maxRecDepth 20000 in
set_option maxHeartbeats 4000000 in
theorem union_of (hsort : SortsS) (l : List Sp) (A : Option Addr) (ca : Nat) (w : World) (ha : Spans w A l) (hl : l.length ≤ 10000) :
    Calls Try.prog 20 #[.slice A l.length ca] w (RetSpans (norm l) w) := by
  obtain ⟨i0, hi, hz0, hz1, hz2⟩ := info_parts info_span
  have HSORT := Lib.hid hsort
  clear hsort
  have HNRM : Hid (∀ q : List Sp, q.Perm (l.filter rt) → q.Pairwise (fun a b => a.f ≤ b.f) → q.foldl mrg1 [] = norm l) := Lib.hid fun q h1 h2 => mrg_norm h1 h2
  generalize norm l = R at *
  go_enter Try.func20, Try.ntmps20
  go_wp2
  go_loopw [3, 12] (fun v i wr => ∃ k : Nat, k ≤ l.length ∧ i = .int .i64 (k : Int) ∧ OwnS wr w.heap.size ((l.take k).filter rt) v ∧ Below w.heap.size w wr) (fun _ i _ => l.length + 1 - (intOf i).toNat)
  case atStart => exact ⟨0, by omega, rfl, OwnS.nil_ _ _, Below.refl _ _⟩
  case round =>
    obtain ⟨k, hk, rfl, ⟨A', c', rfl, hown⟩, hbw⟩ := hrel
    have HO := Lib.hid hown
    have hzz := hbw.size
    clear hown
    by_cases hlt : k < l.length
    · obtain ⟨ad, rfl, _, d0, d1⟩ := Spans.cells (ha.below hbw) hlt
      have HN := Lib.hid (filt_next hlt)
      have hfl := filt_len l k
      have k1 := fun w' => right_any l[k] w'
      generalize (l.take k).filter rt = s at *
      generalize l[k] = x at *
      rcases hr : rt x with _ | _
      · rw [hr] at k1 HN
        clear hr
        go_wp2_with fail
        refine (k1 _).mono ?_
        rintro e w1 ⟨rfl, h1⟩
        have hb1 : Below w.heap.size w w1 := (by repeat (first | assumption | exact Below.refl _ _ | refine Below.alloc ?_ (by first | omega | (simp; done) | (simp; omega)) _ | refine Below.setCell ?_ (by first | omega | (simp; done) | (simp; omega)) _ | refine Below.drew ?_ | refine Below.drewN_ ?_ _ | refine Below.step ?_ (by assumption)))
        have HO1 : Hid (OwnS w1 w.heap.size ((l.take (k + 1)).filter rt) (.slice A' s.length c')) := Lib.hid (by
          rw [HN.out]; simp only [Bool.false_eq_true, if_false, List.append_nil]
          exact ⟨A', c', rfl, own_below (HO.out.alloc _) h1⟩)
        clear h1 k1
        go_wp2
        go_roundw
        case rel => exact ⟨k + 1, by omega, by go_num, HO1.out, hb1⟩
        case measure => simp [intOf]; omega
      · rw [hr] at k1 HN
        clear hr
        go_wp2_with fail
        refine (k1 _).mono ?_
        rintro e w1 ⟨rfl, h1⟩
        have hb1 : Below w.heap.size w w1 := (by repeat (first | assumption | exact Below.refl _ _ | refine Below.alloc ?_ (by first | omega | (simp; done) | (simp; omega)) _ | refine Below.setCell ?_ (by first | omega | (simp; done) | (simp; omega)) _ | refine Below.drew ?_ | refine Below.drewN_ ?_ _ | refine Below.step ?_ (by assumption)))
        have O1 := Lib.hid (own_below (HO.out.alloc _) h1)
        obtain ⟨y, e0, e1⟩ := (TwoS.new wr x _).below h1
        have z1 := hb1.size
        clear h1 k1
        go_wp2_with (at_builtin; refine wpList_append_any _ rfl _ _ _ rfl w.heap.size 23 i0 _ 2 16 Try.underlying30 hi hz0 hz1 hz2 rfl (by omega) _ s.length _ rfl (O1.out.alloc _) (w1.heap.size + 1) (some ⟨w1.heap.size, 0, none⟩) 1 1 ([x].flatMap encS) rfl (by simpa using Spans.reads (Spans.one w1 x _)) (one_spans _) (by simp only [maxLen]; omega) (by omega) (by simp; omega) ?_; intro v4 w4 hown4 hg4 _)
        have hb4 : Below w.heap.size w w4 := (hb1.alloc z1 _).grown hg4 (by simp; omega) (fun g hg => (O1.out.lt g hg).1)
        have HO4 : Hid (OwnS w4 w.heap.size ((l.take (k + 1)).filter rt) v4) := Lib.hid (by
          rw [HN.out]; simp only [if_true]
          exact OwnS.snoc hown4)
        clear hown4 hg4
        go_wp2
        go_roundw
        case rel => exact ⟨k + 1, by omega, by go_num, HO4.out, hb4⟩
        case measure => simp [intOf]; omega
    · obtain rfl : k = l.length := by omega
      rw [List.take_length] at HO
      have hfl : (l.filter rt).length ≤ 10000 := Nat.le_trans (List.length_filter_le _ _) hl
      rw [List.take_length]
      have k2 := HSORT.out (l.filter rt) A' c' w.heap.size wr HO.out hzz (by omega)
      have HPL : Hid (∀ q : List Sp, q.Perm (l.filter rt) → q.length ≤ 10000) := Lib.hid fun q h => by rw [h.length_eq]; exact hfl
      generalize l.filter rt = z at *
      go_wp2_with fail
      refine k2.mono ?_
      rintro e w2 ⟨rfl, q, hp, hs, hq, h2⟩
      have hql := HPL.out q hp
      have HR := Lib.hid (HNRM.out q hp hs)
      have hb2 : Below w.heap.size w w2 := hbw.trans h2
      have hsq := Spans.of_own hq
      have z2 := hb2.size
      have hlen := hp.length_eq
      clear hp hs hq h2 k2 HO HNRM HPL
      generalize hzl : z.length = zl at *
      subst hlen
      go_wp2
      go_loopw [6, 27] (fun v i wr => ∃ k : Nat, k ≤ q.length ∧ i = .int .i64 (k : Int) ∧ OwnS wr w2.heap.size (mrgs q k) v ∧ Below w2.heap.size w2 wr) (fun _ i _ => q.length + 1 - (intOf i).toNat)
      case atStart => exact ⟨0, by omega, rfl, OwnS.nil_ _ _, Below.refl _ _⟩
      case round =>
        obtain ⟨k, hk, rfl, hown, hbw3⟩ := hrel
        have z3 := hbw3.size
        by_cases hlt : k < q.length
        · obtain ⟨ad, rfl, _, d0, d1⟩ := Spans.cells (hsq.below hbw3) hlt
          have HN := Lib.hid (mrgs_next hlt)
          have hml := mrgs_len q k (by omega)
          generalize mrgs q k = out at *
          generalize q[k] = x at *
          rcases List.eq_nil_or_concat out with rfl | ⟨o, y, rfl⟩
          · obtain ⟨A1, c1, rfl, ho1⟩ := hown
            have HO1 := Lib.hid ho1
            rw [mrg1_nil] at HN
            clear ho1
            go_wp2
            go_quiet (fail)
            go_wp2_with (at_builtin; refine wpList_append_any _ rfl _ _ _ rfl w2.heap.size 23 i0 _ 2 16 Try.underlying30 hi hz0 hz1 hz2 rfl (by omega) _ 0 _ rfl ((own_dr HO1.out _ _).alloc _) (wr.heap.size + 1 + 1) (some ⟨wr.heap.size + 1, 0, none⟩) 1 1 ([x].flatMap encS) rfl (by simpa using Spans.reads (Spans.one ((wr.alloc _).drewN _) x _)) (one_spans _) (by simp only [maxLen]; omega) (by omega) (by simp; omega) ?_; intro v4 w4 hown4 hg4 _)
            have hb4 : Below w2.heap.size w2 w4 := ((Below.drewN_ (hbw3.alloc z3 _) _).alloc (by simp; omega) _).grown hg4 (by simp; omega) (fun g hg => (HO1.out.lt g hg).1)
            have HO4 : Hid (OwnS w4 w2.heap.size (mrgs q (k + 1)) v4) := Lib.hid (by rw [HN.out]; exact OwnS.snoc (s := []) hown4)
            clear hown4 hg4
            go_wp2
            go_roundw
            case rel => exact ⟨k + 1, by omega, by go_num, HO4.out, hb4⟩
            case measure => simp [intOf]; omega
          · rw [List.concat_eq_append] at *
            obtain ⟨g, c1, rfl, hgB, hgl, c2, c3, f2, f3, hos⟩ := hown.last
            have HOS := Lib.hid hos
            rw [mrg1_snoc] at HN
            have HSET : Hid (∀ ob n u, OwnS (((wr.alloc ob).drewN n).setCell ⟨g, o.length * 2 + 1, none⟩ (.int .i64 u)) w2.heap.size (o ++ [⟨y.f, u⟩]) (.slice (some ⟨g, 0, none⟩) (o.length + 1) c1)) := Lib.hid fun ob n u => own_setlast (own_dr hos ob n) u
            have ol : (o ++ [y]).length = o.length + 1 := by simp
            rw [ol] at hml
            clear hown hos
            by_cases hle : x.f ≤ y.t
            · rw [if_pos hle] at HN
              go_wp2
              go_quiet (fail)
              go_wp2
              have HM : Hid (max y.t x.t = if y.t < x.t then x.t else y.t) := Lib.hid (by split <;> omega)
              go_region
              have hb5 : ∀ n u, Below w2.heap.size w2 (((wr.alloc (.cells #[.int .i64 x.f, .int .i64 x.t] 23)).drewN n).setCell ⟨g, o.length * 2 + 1, none⟩ u) := fun n u => (Below.drewN_ (hbw3.alloc z3 _) _).setCell (p := ⟨g, o.length * 2 + 1, none⟩) hgB u
              have HO5 : ∀ n, OwnS (((wr.alloc (.cells #[.int .i64 x.f, .int .i64 x.t] 23)).drewN n).setCell ⟨g, o.length * 2 + 1, none⟩ (.int .i64 (if y.t < x.t then x.t else y.t))) w2.heap.size (mrgs q (k + 1)) (.slice (some ⟨g, 0, none⟩) (o.length + 1) c1) := fun n => by
                rw [HN.out, HM.out]
                exact HSET.out _ n _
              go_wp2
              go_roundw
              case rel => exact ⟨k + 1, by omega, by go_num, HO5 _, hb5 _ _⟩
              case measure => simp [intOf]; omega
            · rw [if_neg hle] at HN
              go_wp2
              go_quiet (fail)
              go_wp2_with (at_builtin; refine wpList_append_any _ rfl _ _ _ rfl w2.heap.size 23 i0 _ 2 16 Try.underlying30 hi hz0 hz1 hz2 rfl (by omega) _ (o.length + 1) _ rfl ((own_dr HOS.out _ _).alloc _) (wr.heap.size + 1 + 1) (some ⟨wr.heap.size + 1, 0, none⟩) 1 1 ([x].flatMap encS) rfl (by simpa using Spans.reads (Spans.one ((wr.alloc _).drewN _) x _)) (one_spans _) (by simp only [maxLen]; omega) (by omega) (by simp; omega) ?_; intro v4 w4 hown4 hg4 _)
              have hb4 : Below w2.heap.size w2 w4 := ((Below.drewN_ (hbw3.alloc z3 _) _).alloc (by simp; omega) _).grown hg4 (by simp; omega) (fun g hg => (HOS.out.lt g hg).1)
              have HO4 : Hid (OwnS w4 w2.heap.size (mrgs q (k + 1)) v4) := Lib.hid (by rw [HN.out]; exact OwnS.snoc (by rw [ol]; exact hown4))
              clear hown4 hg4
              exact ⟨⟨k + 1, by omega, by go_num, HO4.out, hb4⟩, by simp [intOf]; omega⟩
        · obtain rfl : k = q.length := by omega
          rw [mrgs_all, HR.out] at hown
          have HF := Lib.hid (OwnS.lower hown hb2.size)
          go_wp2
          go_ret
          exact HF.out.ret (Below.step hb2 hbw3)
end Go.Proofs.Ytofnbohcofgfkaa
