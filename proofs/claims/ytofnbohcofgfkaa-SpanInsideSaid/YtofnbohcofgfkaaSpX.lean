/- The reference's without. -/
import Derived.Test.YtofnbohcofgfkaaSpG
import Derived.Deep.DeepCutAuto
namespace Go.Proofs.Ytofnbohcofgfkaa
open Go.RowKit

theorem cut_len (s e : Sp) : (cutR s e).length ≤ 2 := by unfold cutR; rw [List.length_append]; split <;> split <;> simp
theorem cut_one {s e : Sp} (h : (cutR s e).length = 2) : e.f < s.f ∧ s.t < e.t := by
  unfold cutR at h
  rw [List.length_append] at h
  split at h
  · split at h
    · rename_i h1 h2
      have h1 := rt_iff.1 h1
      have h2 := rt_iff.1 h2
      simp only at h1 h2
      omega
    · simp at h
  · split at h <;> simp at h
theorem without_behind {s : Sp} (hs : rt s = true) : ∀ {l : List Sp}, (∀ u ∈ l, s.t < u.f) → (withoutR l s).length ≤ l.length
  | [], _ => by simp [withoutR]
  | e :: l, h => by
    have e1 : withoutR (e :: l) s = cutR s e ++ withoutR l s := by unfold withoutR; rw [List.flatMap_cons]
    have h1 := without_behind hs (l := l) fun u hu => h u (List.mem_cons_of_mem _ hu)
    have h2 := h e (List.mem_cons_self ..)
    have h3 := cut_len s e
    have h4 := rt_iff.1 hs
    have h5 : (cutR s e).length ≠ 2 := fun h => by have := cut_one h; omega
    rw [e1, List.length_append, List.length_cons]
    omega
theorem without_len {s : Sp} (hs : rt s = true) : ∀ {l : List Sp}, Nrm l → (withoutR l s).length ≤ l.length + 1
  | [], _ => by simp [withoutR]
  | e :: l, h => by
    have e1 : withoutR (e :: l) s = cutR s e ++ withoutR l s := by unfold withoutR; rw [List.flatMap_cons]
    obtain ⟨h1, h2, h3⟩ := nrm_cons.1 h
    have h4 := cut_len s e
    rw [e1, List.length_append, List.length_cons]
    by_cases h5 : (cutR s e).length = 2
    · have h6 := cut_one h5
      have h7 := without_behind hs (l := l) fun u hu => by have := h2 u hu; omega
      omega
    · have := without_len hs h3
      omega

def witAt (l : List Sp) (s : Sp) (k : Nat) : List Sp := (l.take k).flatMap (cutR s)
theorem witAt_next {l : List Sp} {s : Sp} {k : Nat} (hk : k < l.length) : witAt l s (k + 1) = witAt l s k ++ cutR s l[k] := by
  unfold witAt; rw [List.take_succ_eq_append_getElem hk, List.flatMap_append]; simp
theorem witAt_all (l : List Sp) (s : Sp) : witAt l s l.length = withoutR l s := by unfold witAt withoutR; rw [List.take_length]
theorem witAt_len (l : List Sp) (s : Sp) : ∀ k, k ≤ l.length → (witAt l s k).length ≤ 2 * k
  | 0, _ => by simp [witAt]
  | k + 1, h => by
    rw [witAt_next (by omega), List.length_append]
    have := cut_len s l[k]
    have := witAt_len l s k (by omega)
    omega

set_option maxRecDepth 20000 in
set_option maxHeartbeats 4000000 in
theorem without_any (l : List Sp) (x : Sp) (A : Option Addr) (ca : Nat) (w : World) (ha : Spans w A l) (hl : l.length ≤ 5000) :
    Calls Try.prog 41 #[.slice A l.length ca, .agg #[.int .i64 x.f, .int .i64 x.t]] w (RetSpans (withoutR l x) w) := by
  obtain ⟨i0, hi, hz0, hz1, hz2⟩ := info_parts info_span
  have HALL := Lib.hid (witAt_all l x)
  generalize withoutR l x = R at *
  go_enter Try.func41, Try.ntmps41
  go_wp2
  go_loopw [5, 6] (fun v i wr => ∃ k : Nat, k ≤ l.length ∧ i = .int .i64 (k : Int) ∧ OwnS wr (w.heap.size + 1) (witAt l x k) v ∧ TwoS wr w.heap.size x ∧ Below w.heap.size w wr) (fun _ i _ => l.length + 1 - (intOf i).toNat)
  case atStart =>
    have hn := TwoS.new w x 23
    have o1 := own_empty2 (w.alloc (.cells #[.int .i64 x.f, .int .i64 x.t] 23))
    have s1 : (w.alloc (.cells #[.int .i64 x.f, .int .i64 x.t] 23)).heap.size = w.heap.size + 1 := by simp
    rw [s1] at o1
    exact ⟨0, by omega, rfl, o1, TwoS.below hn ((Below.refl _ _).alloc (Nat.le_refl _) _), (by repeat (first | assumption | exact Below.refl _ _ | refine Below.alloc ?_ (by first | omega | (simp; done) | (simp; omega)) _ | refine Below.setCell ?_ (by first | omega | (simp; done) | (simp; omega)) _ | refine Below.drew ?_ | refine Below.drewN_ ?_ _ | refine Below.step ?_ (by assumption)))⟩
  case round =>
    obtain ⟨k, hk, rfl, hown, ht, hbw⟩ := hrel
    have zz := hbw.size
    have hlen := witAt_len l x k hk
    by_cases hlt : k < l.length
    · have HN := Lib.hid (witAt_next (s := x) hlt)
      have HCELL : Hid (∀ x1, Below w.heap.size w x1 → ∃ ad, A = some ad ∧ ad.block < x1.heap.size ∧ x1.cell? (ad.add (k * 2)) = some (.int .i64 l[k].f) ∧ x1.cell? ⟨(ad.add (k * 2)).block, (ad.add (k * 2)).off + 1, none⟩ = some (.int .i64 l[k].t)) := Lib.hid fun x1 h => Spans.cells (ha.below h) hlt
      have HA := Lib.hid ha
      clear ha
      generalize l[k] = e at *
      generalize witAt l x k = s at *
      obtain ⟨A', c', rfl, ho⟩ := hown
      have HO := Lib.hid ho
      have HT := Lib.hid ht
      have HB := Lib.hid hbw
      have HAP : Hid (∀ g, (Value.slice A' s.length c').ownBlock = some g → g < wr.heap.size) := Lib.hid fun g hg => (HO.out.lt g hg).2
      obtain ⟨zt, t0, t1⟩ := ht
      obtain ⟨ad, rfl, hadl, d0, d1⟩ := HCELL.out _ hbw
      have hadb : (ad.add (k * 2)).block < wr.heap.size := by rw [block_of_add]; exact hadl
      have HL : Hid ((⟨e.f, min e.t x.f⟩ : Sp).f = e.f ∧ (⟨e.f, min e.t x.f⟩ : Sp).t = min e.t x.f) := Lib.hid ⟨rfl, rfl⟩
      have HR : Hid ((⟨max e.f x.t, e.t⟩ : Sp).f = max e.f x.t ∧ (⟨max e.f x.t, e.t⟩ : Sp).t = e.t) := Lib.hid ⟨rfl, rfl⟩
      have hcut0 : cutR x e = (if rt ⟨e.f, min e.t x.f⟩ then [⟨e.f, min e.t x.f⟩] else []) ++ (if rt ⟨max e.f x.t, e.t⟩ then [⟨max e.f x.t, e.t⟩] else []) := rfl
      rw [hcut0] at HN
      clear hcut0 ho hbw
      have HW1 : Hid (TwoS (wr.alloc (.cells #[.int .i64 e.f, .int .i64 (min e.t x.f)] 23)).drew wr.heap.size ⟨e.f, min e.t x.f⟩ ∧ Below wr.heap.size wr (wr.alloc (.cells #[.int .i64 e.f, .int .i64 (min e.t x.f)] 23)).drew) :=
        Lib.hid ⟨(TwoS.new wr ⟨e.f, min e.t x.f⟩ _).below (Below.refl _ _).drew, ((Below.refl _ _).alloc (Nat.le_refl _) _).drew⟩
      go_wp2_with fail
      go_upto_region 5 with fail
      go_cut [7] (fun s6 wx => s6 = .pointer (some ⟨wr.heap.size, 0, none⟩) ∧ TwoS wx wr.heap.size ⟨e.f, min e.t x.f⟩ ∧ Below wr.heap.size wr wx)
      case first =>
        go_region
        go_wp2_with fail
        go_meet
        exact ⟨rfl, HW1.out.1, HW1.out.2⟩
      case rest =>
      obtain ⟨rfl, hp, hbc⟩ := hcut
      generalize wc = W1 at *
      generalize hLe : (⟨e.f, min e.t x.f⟩ : Sp) = L at *
      have HP := Lib.hid hp
      have HBC := Lib.hid hbc
      have HB2 := Lib.hid (Below.step HB.out hbc)
      have HO2 := Lib.hid (own_below HO.out hbc)
      have HT2 := Lib.hid (HT.out.below hbc)
      clear hp hbc HW1 HT HO t0 t1 d0 d1 hLe
      obtain ⟨_, t0, t1⟩ := HT2.out
      obtain ⟨ad', e', hadl2, d0, d1⟩ := HCELL.out _ HB2.out
      injection e' with e'
      subst e'
      have hadb2 : (ad.add (k * 2)).block < W1.heap.size := by rw [block_of_add]; exact hadl2
      have zc := HB2.out.size
      have zc2 := HBC.out.size
      have zw1 := HP.out.1
      have HW1 : Hid (TwoS (W1.alloc (.cells #[.int .i64 (max e.f x.t), .int .i64 e.t] 23)).drew W1.heap.size ⟨max e.f x.t, e.t⟩ ∧ Below W1.heap.size W1 (W1.alloc (.cells #[.int .i64 (max e.f x.t), .int .i64 e.t] 23)).drew) :=
        Lib.hid ⟨(TwoS.new W1 ⟨max e.f x.t, e.t⟩ _).below (Below.refl _ _).drew, ((Below.refl _ _).alloc (Nat.le_refl _) _).drew⟩
      go_upto_region 6 with fail
      go_cut [8] (fun s6 wx => s6 = .pointer (some ⟨W1.heap.size, 0, none⟩) ∧ TwoS wx W1.heap.size ⟨max e.f x.t, e.t⟩ ∧ Below W1.heap.size W1 wx)
      case first =>
        go_region
        go_wp2_with fail
        go_meet
        exact ⟨rfl, HW1.out.1, HW1.out.2⟩
      case rest =>
      obtain ⟨rfl, hp, hbc⟩ := hcut
      generalize hRe : (⟨max e.f x.t, e.t⟩ : Sp) = Rr at *
      have HQ := Lib.hid hp
      have HB3 := Lib.hid (Below.step HB2.out hbc)
      have HO3 := Lib.hid (own_below HO2.out hbc)
      have HT3 := Lib.hid (HT2.out.below hbc)
      have HP3 := Lib.hid (HP.out.below hbc)
      have zc3 := HB3.out.size
      clear hp hbc HW1 HT2 HO2 t0 t1 d0 d1 hRe HP HB2 HL HR
      obtain ⟨_, p0, p1⟩ := HP3.out
      have kL := fun w' => rright_any L w'
      have kR := fun w' => rright_any Rr w'
      generalize hrl : rt L = rl at *
      generalize hrr : rt Rr = rr at *
      clear hrl hrr
      go_wp2_with fail
      refine (kL _).mono ?_
      rintro e x0 ⟨rfl, h1⟩
      have HB4 := Lib.hid (Below.step HB3.out h1)
      have O1 := Lib.hid (own_below HO3.out h1)
      have HT4 := Lib.hid (HT3.out.below h1)
      have HQ4 := Lib.hid (HQ.out.below h1)
      obtain ⟨zp, m0, m1⟩ := HP3.out.below h1
      have z4 := HB4.out.size
      have zq := HQ4.out.1
      clear h1 kL p0 p1 HB3 HO3 HT3 HQ HP3
      go_upto_if 45 with fail
      go_cut [5] (fun o wx => ∃ s', OwnS wx (w.heap.size + 1) s' o ∧ s' = s ++ (if rl then [L] else []) ∧ TwoS wx w.heap.size x ∧ TwoS wx W1.heap.size Rr ∧ Below w.heap.size w wx)
      case first =>
        rcases rl with _ | _
        · go_wp2_with fail
          go_meet
          exact ⟨s, ⟨A', c', rfl, O1.out⟩, by simp, HT4.out, HQ4.out, HB4.out⟩
        · go_wp2_with (at_builtin; refine wpList_append_any _ rfl _ _ _ rfl (w.heap.size + 1) 23 i0 _ 2 16 Try.underlying30 hi hz0 hz1 hz2 rfl (by omega) _ s.length _ rfl (O1.out.alloc _) (x0.heap.size + 1) (some ⟨x0.heap.size, 0, none⟩) 1 1 ([L].flatMap encS) rfl (by simpa using Spans.reads (Spans.one x0 L _)) (one_spans _) (by simp only [maxLen]; omega) (by omega) (by simp; omega) ?_; intro vx x1 hown4 hg4 _)
          have hbx : Below w.heap.size w x1 := (HB4.out.alloc z4 _).grown hg4 (by simp; omega) (fun g hg => by have := (O1.out.lt g hg).1; omega)
          have HOX : Hid (OwnS x1 (w.heap.size + 1) (s ++ [L]) vx) := Lib.hid (OwnS.snoc hown4)
          have HTX := Lib.hid ((HT4.out.below ((Below.refl _ _).alloc (Nat.le_refl _) _)).grownR hg4 (fun e => by have := (O1.out.lt _ e).1; omega))
          have HQX := Lib.hid ((HQ4.out.below ((Below.refl _ _).alloc (Nat.le_refl _) _)).grownR hg4 (fun e => by have := HAP.out _ e; omega))
          clear hown4 hg4
          go_wp2_with fail
          go_meet
          exact ⟨s ++ [L], HOX.out, by simp, HTX.out, HQX.out, hbx⟩
      case rest =>
      obtain ⟨s', hos, hse, ht5, hq5, hb5⟩ := hcut
      have hs' : s'.length ≤ s.length + 1 := by rw [hse]; split <;> simp
      have HSE := Lib.hid hse
      have HT5 := Lib.hid ht5
      have HQ5 := Lib.hid hq5
      have HB5 := Lib.hid hb5
      obtain ⟨_, q0, q1⟩ := hq5
      obtain ⟨A5, c5, rfl, ho5⟩ := hos
      have HO5 := Lib.hid ho5
      clear hse ht5 hb5 ho5 HB4 O1 HT4 HQ4 m0 m1 zp
      go_wp2_with fail
      refine (kR _).mono ?_
      rintro e x0 ⟨rfl, h1⟩
      have HB4 := Lib.hid (Below.step HB5.out h1)
      have O1 := Lib.hid (own_below HO5.out h1)
      have HT4 := Lib.hid (HT5.out.below h1)
      obtain ⟨zp, m0, m1⟩ := HQ5.out.below h1
      have z4 := HB4.out.size
      clear h1 kR q0 q1 HB5 HO5 HT5 HQ5
      rcases rr with _ | _
      · have HN2 : Hid (witAt l x (k + 1) = s') := Lib.hid (by rw [HN.out, HSE.out]; simp)
        go_wp2_with fail
        exact ⟨⟨k + 1, by omega, by go_num, by rw [HN2.out]; exact ⟨A5, c5, rfl, O1.out⟩, HT4.out, HB4.out⟩, by simp [intOf]; omega⟩
      · have HN2 : Hid (witAt l x (k + 1) = s' ++ [Rr]) := Lib.hid (by rw [HN.out, HSE.out]; simp)
        go_wp2_with (at_builtin; refine wpList_append_any _ rfl _ _ _ rfl (w.heap.size + 1) 23 i0 _ 2 16 Try.underlying30 hi hz0 hz1 hz2 rfl (by omega) _ s'.length _ rfl (O1.out.alloc _) (x0.heap.size + 1) (some ⟨x0.heap.size, 0, none⟩) 1 1 ([Rr].flatMap encS) rfl (by simpa using Spans.reads (Spans.one x0 Rr _)) (one_spans _) (by simp only [maxLen]; omega) (by omega) (by simp; omega) ?_; intro vx x1 hown4 hg4 _)
        have hbx : Below w.heap.size w x1 := (HB4.out.alloc z4 _).grown hg4 (by simp; omega) (fun g hg => by have := (O1.out.lt g hg).1; omega)
        have HOX : Hid (OwnS x1 (w.heap.size + 1) (s' ++ [Rr]) vx) := Lib.hid (OwnS.snoc hown4)
        have HTX := Lib.hid ((HT4.out.below ((Below.refl _ _).alloc (Nat.le_refl _) _)).grownR hg4 (fun e => by have := (O1.out.lt _ e).1; omega))
        clear hown4 hg4
        exact ⟨⟨k + 1, by omega, by go_num, by rw [HN2.out]; exact HOX.out, HTX.out, hbx⟩, by simp [intOf]; omega⟩
    · obtain rfl : k = l.length := by omega
      rw [HALL.out] at hown
      have HF := Lib.hid (OwnS.lower hown (Nat.le_succ w.heap.size))
      go_wp2
      go_ret
      exact HF.out.ret hbw
end Go.Proofs.Ytofnbohcofgfkaa
