/- Both, the code's. -/
import Derived.Test.YtofnbohcofgfkaaSpU
import Derived.Deep.DeepCutAuto
namespace Go.Proofs.Ytofnbohcofgfkaa
open Go.RowKit

theorem OwnS.capS {w : World} {B n c : Nat} {A : Option Addr} {xs : List Value} (h : w.ownsRow B 23 2 (.slice A n c) n xs) : n ≤ c := by
  rcases h.2 with ⟨h1, h2⟩ | ⟨g, cp, cur, h1, _, _, h2, _⟩
  · omega
  · injection h1 with _ _ h3
    omega
theorem Spans.behind1 {w : World} {ad : Addr} {x : Sp} {l : List Sp} (h : Spans w (some ad) (x :: l)) : Spans w (some (ad.add 2)) l := Structs.drop h 1
def lenV : Value → Nat
  | .slice _ n _ => n
  | _ => 0

set_option maxRecDepth 20000 in
set_option maxHeartbeats 4000000 in
theorem both_any (a b : List Sp) (A B : Option Addr) (ca cb : Nat) (w : World) (ha : Spans w A a) (hb : Spans w B b) (hla : a.length ≤ 5000) (hlb : b.length ≤ 5000) :
    Calls Try.prog 24 #[.slice A a.length ca, .slice B b.length cb] w (RetSpans (bothN a b) w) := by
  obtain ⟨i0, hi, hz0, hz1, hz2⟩ := info_parts info_span
  have k1 := union_any a A ca w ha (by omega)
  have k2 := fun w' (h : Below w.heap.size w w') => union_any b B cb w' (hb.below h) (by omega)
  have HX : Hid (bothN a b = [] ++ both2 (norm a) (norm b)) := Lib.hid rfl
  have hna := norm_len a
  have hnb := norm_len b
  generalize bothN a b = R at *
  go_enter Try.func24, Try.ntmps24
  go_wp2_with fail
  refine k1.mono ?_
  rintro e w1 ⟨A1, c1, rfl, ho1, h1⟩
  go_wp2_with fail
  refine (k2 w1 h1).mono ?_
  rintro e w2 ⟨A2, c2, rfl, ho2, h2⟩
  have hb2 : Below w.heap.size w w2 := Below.step h1 h2
  have hcA := OwnS.capS ho1
  have hcB := OwnS.capS ho2
  have hsA : Spans w2 A1 (norm a) := (Spans.of_own ho1).below h2
  have hsB : Spans w2 A2 (norm b) := Spans.of_own ho2
  clear ho1 ho2 h1 h2 k1 k2
  generalize norm a = na at *
  generalize norm b = nb at *
  go_wp2
  go_loopw [0, 1, 5] (fun v u o wr => ∃ (la lb s : List Sp) (A1 A2 : Option Addr) (c1 c2 : Nat), v = .slice A1 la.length c1 ∧ u = .slice A2 lb.length c2 ∧ la.length ≤ c1 ∧ lb.length ≤ c2 ∧ Spans w2 A1 la ∧ Spans w2 A2 lb ∧ OwnS wr w2.heap.size s o ∧
    Hid (R = s ++ both2 la lb) ∧ s.length + la.length + lb.length ≤ 10000 ∧ Below w2.heap.size w2 wr) (fun v u _ _ => lenV v + lenV u)
  case atStart => exact ⟨na, nb, [], A1, A2, c1, c2, rfl, rfl, hcA, hcB, hsA, hsB, OwnS.nil_ _ _, HX, by simp; omega, Below.refl _ _⟩
  case round =>
    clear hsA hsB hcA hcB HX
    obtain ⟨la, lb, s, A1, A2, c1, c2, rfl, rfl, hcA, hcB, hsA, hsB, ⟨A3, c3, rfl, hown⟩, HX, hlen, hbw⟩ := hrel
    have HO := Lib.hid hown
    have hzz := hbw.size
    clear hown
    rcases la with _ | ⟨p, la⟩
    · have HR : Hid (RetSpans R w (.returned (.slice A3 s.length c3)) wr) := Lib.hid (by
        have e : R = s := by rw [HX.out]; simp [both2]
        rw [e]
        exact (OwnS.lower ⟨A3, c3, rfl, HO.out⟩ hb2.size).ret (Below.step hb2 hbw))
      go_wp2
      go_ret
      exact HR.out
    · rcases lb with _ | ⟨q, lb⟩
      · have HR : Hid (RetSpans R w (.returned (.slice A3 s.length c3)) wr) := Lib.hid (by
          have e : R = s := by rw [HX.out]; simp [both2_nil]
          rw [e]
          exact (OwnS.lower ⟨A3, c3, rfl, HO.out⟩ hb2.size).ret (Below.step hb2 hbw))
        go_wp2
        go_ret
        exact HR.out
      · rw [both2_cons] at HX
        obtain ⟨ad, rfl, hadl, d0, d1⟩ := Spans.cells (hsA.below hbw) (i := 0) (by simp)
        obtain ⟨bd, rfl, hbdl, e0, e1⟩ := Spans.cells (hsB.below hbw) (i := 0) (by simp)
        have ad0 : ad.add (0 * 2) = ad := by unfold Addr.add; simp
        have bd0 : bd.add (0 * 2) = bd := by unfold Addr.add; simp
        rw [ad0] at d0 d1
        rw [bd0] at e0 e1
        have AD0 := Lib.hid ad0
        have BD0 := Lib.hid bd0
        clear ad0 bd0
        simp only [List.getElem_cons_zero] at d0 d1 e0 e1
        have hsA' := hsA.behind1
        have hsB' := hsB.behind1
        simp only [List.length_cons] at hcA hcB hlen
        have k1 : ∀ w', Calls Try.prog 12 #[.agg #[.int .i64 (max p.f q.f), .int .i64 (min p.t q.t)]] w' (Ret (.bool (rt (meet p q))) w') := fun w' => right_any (meet p q) w'
        have HSA := Lib.hid hsA
        have HSB := Lib.hid hsB
        have HSA1 := Lib.hid hsA'
        have HSB1 := Lib.hid hsB'
        have HW0 : Hid (∀ n, TwoS ((wr.alloc (.cells #[.int .i64 (max p.f q.f), .int .i64 (min p.t q.t)] 23)).drewN n) wr.heap.size (meet p q) ∧ Below wr.heap.size wr ((wr.alloc (.cells #[.int .i64 (max p.f q.f), .int .i64 (min p.t q.t)] 23)).drewN n)) :=
          Lib.hid fun n => ⟨(TwoS.new wr (meet p q) _).below (Below.drewN_ (Below.refl _ _) n), Below.drewN_ ((Below.refl _ _).alloc (Nat.le_refl _) _) n⟩
        have HW1 : Hid (TwoS (wr.alloc (.cells #[.int .i64 (max p.f q.f), .int .i64 (min p.t q.t)] 23)).drew wr.heap.size (meet p q) ∧ Below wr.heap.size wr (wr.alloc (.cells #[.int .i64 (max p.f q.f), .int .i64 (min p.t q.t)] 23)).drew) :=
          Lib.hid ⟨(TwoS.new wr (meet p q) _).below (Below.refl _ _).drew, ((Below.refl _ _).alloc (Nat.le_refl _) _).drew⟩
        clear hsA hsB hsA' hsB'
        simp only [List.length_cons]
        generalize hrm : rt (meet p q) = rm at *
        clear hrm
        have ML : Hid ((meet p q).f = max p.f q.f ∧ (meet p q).t = min p.t q.t) := Lib.hid ⟨rfl, rfl⟩
        have HCELL : Hid (∀ x1, Below w2.heap.size w2 x1 → x1.cell? ad = some (.int .i64 p.f) ∧ x1.cell? ⟨ad.block, ad.off + 1, none⟩ = some (.int .i64 p.t) ∧ x1.cell? bd = some (.int .i64 q.f) ∧ x1.cell? ⟨bd.block, bd.off + 1, none⟩ = some (.int .i64 q.t)) := Lib.hid fun x1 hx => by
          obtain ⟨ad', e', _, d0, d1⟩ := Spans.cells (HSA.out.below hx) (i := 0) (by simp)
          injection e' with e'
          subst e'
          obtain ⟨bd', e', _, e0, e1⟩ := Spans.cells (HSB.out.below hx) (i := 0) (by simp)
          injection e' with e'
          subst e'
          rw [AD0.out] at d0 d1
          rw [BD0.out] at e0 e1
          exact ⟨d0, d1, e0, e1⟩
        go_wp2_with fail
        go_upto_region 4 with fail
        go_cut [6] (fun s6 wx => s6 = .pointer (some ⟨wr.heap.size, 0, none⟩) ∧ TwoS wx wr.heap.size (meet p q) ∧ Below wr.heap.size wr wx)
        case first =>
          go_region
          go_wp2_with fail
          go_meet
          exact ⟨rfl, HW1.out.1, HW1.out.2⟩
        case rest =>
        obtain ⟨rfl, ht, hbc⟩ := hcut
        have HT := Lib.hid ht
        have HBC := Lib.hid hbc
        obtain ⟨_, g0, g1⟩ := ht
        rw [ML.out.1] at g0
        rw [ML.out.2] at g1
        clear hbc d0 d1 e0 e1 HW0 HW1
        have hbw1 : Below w2.heap.size w2 wc := Below.step hbw HBC.out
        have HB1 := Lib.hid hbw1
        have HO1 := Lib.hid (own_below HO.out HBC.out)
        go_wp2_with fail
        refine (k1 _).mono ?_
        rintro e x0 ⟨rfl, h1⟩
        have hbx0 : Below w2.heap.size w2 x0 := Below.step HB1.out h1
        have O1 := Lib.hid (own_below HO1.out h1)
        obtain ⟨_, m0, m1⟩ := HT.out.below h1
        rw [ML.out.1] at m0
        rw [ML.out.2] at m1
        have z1 := hbx0.size
        have HBX := Lib.hid hbx0
        clear h1 k1 g0 g1 hbw1 HT HO1 hbx0 hbw
        go_upto_if 39 with fail
        go_cut [5] (fun o wx => ∃ s', OwnS wx w2.heap.size s' o ∧ Hid (R = s' ++ if p.t < q.t then both2 la (q :: lb) else both2 (p :: la) lb) ∧ s'.length ≤ s.length + 1 ∧ Below w2.heap.size w2 wx)
        case first =>
          rcases rm with _ | _
          · have HX1 : Hid (R = s ++ if p.t < q.t then both2 la (q :: lb) else both2 (p :: la) lb) := Lib.hid (by simpa using HX.out)
            go_wp2_with fail
            go_meet
            exact ⟨s, ⟨A3, c3, rfl, O1.out⟩, HX1, by omega, HBX.out⟩
          · have HX1 : Hid (R = (s ++ [meet p q]) ++ if p.t < q.t then both2 la (q :: lb) else both2 (p :: la) lb) := Lib.hid (by rw [List.append_assoc]; simpa using HX.out)
            go_wp2_with (at_builtin; refine wpList_append_any _ rfl _ _ _ rfl w2.heap.size 23 i0 _ 2 16 Try.underlying30 hi hz0 hz1 hz2 rfl (by omega) _ s.length _ rfl (O1.out.alloc _) (x0.heap.size + 1) (some ⟨x0.heap.size, 0, none⟩) 1 1 ([meet p q].flatMap encS) rfl (by simpa [meet] using Spans.reads (Spans.one x0 (meet p q) _)) (one_spans _) (by simp only [maxLen]; omega) (by omega) (by simp; omega) ?_; intro vx x1 hown4 hg4 _)
            have hbx : Below w2.heap.size w2 x1 := (HBX.out.alloc z1 _).grown hg4 (by simp; omega) (fun g hg => (O1.out.lt g hg).1)
            have HOX : Hid (OwnS x1 w2.heap.size (s ++ [meet p q]) vx) := Lib.hid (OwnS.snoc hown4)
            clear hown4 hg4
            go_wp2_with fail
            go_meet
            exact ⟨s ++ [meet p q], HOX.out, HX1, by simp, hbx⟩
        case rest =>
        obtain ⟨s', hos, HXM, hs', hbx⟩ := hcut
        have HOX := Lib.hid hos
        have HBY := Lib.hid hbx
        obtain ⟨d0, d1, e0, e1⟩ := HCELL.out _ hbx
        clear hos hbx m0 m1 HBX O1 HX
        go_wp2_with fail
        by_cases hlt : p.t < q.t
        · have HXN := Lib.hid (by have := HXM.out; rw [if_pos hlt] at this; exact this)
          go_quiet (fail)
          rcases Nat.lt_or_ge 1 c1 with hc | hc
          · have hne : ¬ c1 = 1 := by omega
            go_wp2
            exact ⟨⟨la, (q :: lb), s', some (ad.add 2), some bd, c1 - 1, c2, by first | rfl | (congr 1; simp; omega), by first | rfl | (congr 1; simp; omega), by omega, by simp; omega, HSA1.out, HSB.out, HOX.out.drewN _, HXN, by simp; omega, Below.drewN_ HBY.out _⟩, by simp [lenV]⟩
          · obtain rfl : c1 = 1 := by omega
            obtain rfl : la = [] := List.eq_nil_of_length_eq_zero (by omega)
            go_wp2
            exact ⟨⟨[], (q :: lb), s', some ad, some bd, 0, c2, by first | rfl | (congr 1; simp; omega), by first | rfl | (congr 1; simp; omega), by simp, by simp; omega, Structs.nil_ _ _, HSB.out, HOX.out.drewN _, HXN, by simp; omega, Below.drewN_ HBY.out _⟩, by simp [lenV]⟩
        · have HXN := Lib.hid (by have := HXM.out; rw [if_neg hlt] at this; exact this)
          go_quiet (fail)
          rcases Nat.lt_or_ge 1 c2 with hc | hc
          · have hne : ¬ c2 = 1 := by omega
            go_wp2
            exact ⟨⟨(p :: la), lb, s', some ad, some (bd.add 2), c1, c2 - 1, by first | rfl | (congr 1; simp; omega), by first | rfl | (congr 1; simp; omega), by simp; omega, by omega, HSA.out, HSB1.out, HOX.out.drewN _, HXN, by simp; omega, Below.drewN_ HBY.out _⟩, by simp [lenV]⟩
          · obtain rfl : c2 = 1 := by omega
            obtain rfl : lb = [] := List.eq_nil_of_length_eq_zero (by omega)
            go_wp2
            exact ⟨⟨(p :: la), [], s', some ad, some bd, c1, 0, by first | rfl | (congr 1; simp; omega), by first | rfl | (congr 1; simp; omega), by simp; omega, by simp, HSA.out, Structs.nil_ _ _, HOX.out.drewN _, HXN, by simp; omega, Below.drewN_ HBY.out _⟩, by simp [lenV]⟩
end Go.Proofs.Ytofnbohcofgfkaa
