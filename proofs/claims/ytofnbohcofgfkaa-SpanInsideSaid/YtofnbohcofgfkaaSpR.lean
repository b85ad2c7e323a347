/- The reference's Both. -/
import Derived.Test.YtofnbohcofgfkaaSpY
import Derived.Deep.DeepCutAuto
namespace Go.Proofs.Ytofnbohcofgfkaa
open Go.RowKit

def bAt (a b : List Sp) (i : Nat) : List Sp := (a.take i).foldl (fun o p => rowR o p b) []
theorem bAt_next {a b : List Sp} {i : Nat} (hi : i < a.length) : bAt a b (i + 1) = rowR (bAt a b i) a[i] b := by
  unfold bAt; rw [List.take_succ_eq_append_getElem hi, List.foldl_append]; rfl
theorem bAt_all (a b : List Sp) : bAt a b a.length = bothN a b := by rw [← bothR_eq]; unfold bAt bothR; rw [List.take_length]
def rAt (o : List Sp) (p : Sp) (b : List Sp) (k : Nat) : List Sp := rowR o p (b.take k)
theorem rAt_next {o : List Sp} {p : Sp} {b : List Sp} {k : Nat} (hk : k < b.length) : rAt o p b (k + 1) = pairR (rAt o p b k) p b[k] := by
  unfold rAt rowR; rw [List.take_succ_eq_append_getElem hk, List.foldl_append]; rfl
theorem rAt_all (o : List Sp) (p : Sp) (b : List Sp) : rAt o p b b.length = rowR o p b := by unfold rAt; rw [List.take_length]
theorem pairR_len (o : List Sp) (p q : Sp) : (pairR o p q).length ≤ o.length + 1 := by
  unfold pairR
  have := ins_len o (meet p q)
  split <;> omega
theorem rAt_len (o : List Sp) (p : Sp) (b : List Sp) : ∀ k, k ≤ b.length → (rAt o p b k).length ≤ o.length + k
  | 0, _ => by simp [rAt, rowR]
  | k + 1, h => by
    rw [rAt_next (by omega)]
    have := pairR_len (rAt o p b k) p b[k]
    have := rAt_len o p b k (by omega)
    omega
theorem bAt_len (a b : List Sp) (hb : b.length ≤ 60) : ∀ i, i ≤ a.length → (bAt a b i).length ≤ 60 * i
  | 0, _ => by simp [bAt]
  | i + 1, h => by
    rw [bAt_next (by omega), ← rAt_all]
    have := rAt_len (bAt a b i) a[i] b b.length (Nat.le_refl _)
    have := bAt_len a b hb i (by omega)
    omega

set_option maxRecDepth 20000 in
set_option maxHeartbeats 4000000 in
theorem rboth_any (a b : List Sp) (A B : Option Addr) (ca cb : Nat) (w : World) (ha : Spans w A a) (hb : Spans w B b) (hla : a.length ≤ 60) (hlb : b.length ≤ 60) :
    Calls Try.prog 25 #[.slice A a.length ca, .slice B b.length cb] w (RetSpans (bothN a b) w) := by
  have HALL := Lib.hid (bAt_all a b)
  generalize bothN a b = R at *
  go_enter Try.func25, Try.ntmps25
  go_wp2
  go_loopw [5, 6] (fun v i wr => ∃ k : Nat, k ≤ a.length ∧ i = .int .i64 (k : Int) ∧ OwnS wr w.heap.size (bAt a b k) v ∧ Below w.heap.size w wr) (fun _ i _ => a.length + 1 - (intOf i).toNat)
  case atStart => exact ⟨0, by omega, rfl, own_empty2 w, (by repeat (first | assumption | exact Below.refl _ _ | refine Below.alloc ?_ (by first | omega | (simp; done) | (simp; omega)) _ | refine Below.setCell ?_ (by first | omega | (simp; done) | (simp; omega)) _ | refine Below.drew ?_ | refine Below.drewN_ ?_ _ | refine Below.step ?_ (by assumption)))⟩
  case round =>
    obtain ⟨i, hi, rfl, hown, hbw⟩ := hrel
    have zz := hbw.size
    by_cases hlt : i < a.length
    · have HN := Lib.hid (bAt_next (b := b) hlt)
      have hol := bAt_len a b hlb i hi
      have HCA : Hid (∀ x1, Below w.heap.size w x1 → ∃ ad, A = some ad ∧ ad.block < x1.heap.size ∧ x1.cell? (ad.add (i * 2)) = some (.int .i64 a[i].f) ∧ x1.cell? ⟨(ad.add (i * 2)).block, (ad.add (i * 2)).off + 1, none⟩ = some (.int .i64 a[i].t)) := Lib.hid fun x1 h => Spans.cells (ha.below h) hlt
      have HO := Lib.hid hown
      have HB := Lib.hid hbw
      clear hown hbw
      generalize bAt a b i = o at *
      generalize a[i] = p at *
      go_wp2
      go_loopw [5, 7] (fun v k wr => ∃ m : Nat, m ≤ b.length ∧ k = .int .i64 (m : Int) ∧ OwnS wr w.heap.size (rAt o p b m) v ∧ Below w.heap.size w wr) (fun _ k _ => b.length + 1 - (intOf k).toNat)
      case atStart => exact ⟨0, by omega, rfl, HO.out, HB.out⟩
      case round =>
        clear HO HB zz
        obtain ⟨k, hk, rfl, ⟨A', c', rfl, ho⟩, hbw⟩ := hrel
        have zz := hbw.size
        by_cases hlt2 : k < b.length
        · have HM := Lib.hid (rAt_next (o := o) (p := p) hlt2)
          have hrl := rAt_len o p b k hk
          have HCB : Hid (∀ x1, Below w.heap.size w x1 → ∃ bd, B = some bd ∧ bd.block < x1.heap.size ∧ x1.cell? (bd.add (k * 2)) = some (.int .i64 b[k].f) ∧ x1.cell? ⟨(bd.add (k * 2)).block, (bd.add (k * 2)).off + 1, none⟩ = some (.int .i64 b[k].t)) := Lib.hid fun x1 h => Spans.cells (hb.below h) hlt2
          generalize rAt o p b k = s at *
          generalize b[k] = q at *
          have HO := Lib.hid ho
          have HB := Lib.hid hbw
          clear ho hbw
          obtain ⟨ad, rfl, hadl, d0, d1⟩ := HCA.out _ HB.out
          obtain ⟨bd, rfl, hbdl, e0, e1⟩ := HCB.out _ HB.out
          have hadb : (ad.add (i * 2)).block < wr.heap.size := by rw [block_of_add]; exact hadl
          have hbdb : (bd.add (k * 2)).block < wr.heap.size := by rw [block_of_add]; exact hbdl
          have HW1 : Hid (TwoS (wr.alloc (.cells #[.int .i64 (max p.f q.f), .int .i64 (min p.t q.t)] 23)).drew wr.heap.size (meet p q) ∧ Below wr.heap.size wr (wr.alloc (.cells #[.int .i64 (max p.f q.f), .int .i64 (min p.t q.t)] 23)).drew) :=
            Lib.hid ⟨(TwoS.new wr (meet p q) _).below (Below.refl _ _).drew, ((Below.refl _ _).alloc (Nat.le_refl _) _).drew⟩
          go_wp2_with fail
          go_upto_region 8 with fail
          go_cut [8] (fun s6 wx => s6 = .pointer (some ⟨wr.heap.size, 0, none⟩) ∧ TwoS wx wr.heap.size (meet p q) ∧ Below wr.heap.size wr wx)
          case first =>
            go_region
            go_wp2_with fail
            go_meet
            exact ⟨rfl, HW1.out.1, HW1.out.2⟩
          case rest =>
          obtain ⟨rfl, ht, hbc⟩ := hcut
          generalize wc = W1 at *
          have HT := Lib.hid ht
          have HB1 := Lib.hid (Below.step HB.out hbc)
          have HO1 := Lib.hid (own_below HO.out hbc)
          clear ht hbc HW1 HO HB d0 d1 e0 e1
          have kp := fun w' => rright_any p w'
          have kq := fun w' => rright_any q w'
          have km := fun w' => rright_any (meet p q) w'
          have kD : Hid (pairR s p q = if rt p && rt q && rt (meet p q) then ins s (meet p q) else s) := Lib.hid rfl
          have ki := fun A' c' w' (h : Spans w' A' s) => insert_any s (meet p q) A' c' w' h (by omega)
          generalize rt (meet p q) = rm at *
          generalize rt p = rp at *
          generalize rt q = rq at *
          generalize meet p q = m at *
          obtain ⟨ad', e', hadl, d0, d1⟩ := HCA.out _ HB1.out
          injection e' with e'
          subst e'
          rcases rp with _ | _
          · go_wp2_with fail
            refine (kp _).mono ?_
            rintro e x1 ⟨rfl, h⟩
            have O1 := Lib.hid (own_below HO1.out h)
            have B1 := Lib.hid (Below.step HB1.out h)
            have T1 := Lib.hid (HT.out.below h)
            clear h kp HO1 HT HB1
            have HP : Hid (rAt o p b (k + 1) = s) := Lib.hid (by rw [HM.out, kD.out]; simp)
            go_wp2_with fail
            exact ⟨⟨k + 1, by omega, by go_num, by rw [HP.out]; exact ⟨A', c', rfl, O1.out⟩, B1.out⟩, by simp [intOf]; omega⟩
          · go_wp2_with fail
            refine (kp _).mono ?_
            rintro e x1 ⟨rfl, h⟩
            have O1 := Lib.hid (own_below HO1.out h)
            have B1 := Lib.hid (Below.step HB1.out h)
            have T1 := Lib.hid (HT.out.below h)
            clear h kp HO1 HT HB1
            clear d0 d1
            obtain ⟨bd', e', hbdl, e0, e1⟩ := HCB.out _ B1.out
            injection e' with e'
            subst e'
            rcases rq with _ | _
            · go_wp2_with fail
              refine (kq _).mono ?_
              rintro e x2 ⟨rfl, h⟩
              have O2 := Lib.hid (own_below O1.out h)
              have B2 := Lib.hid (Below.step B1.out h)
              have T2 := Lib.hid (T1.out.below h)
              clear h kq O1 T1 B1
              have HP : Hid (rAt o p b (k + 1) = s) := Lib.hid (by rw [HM.out, kD.out]; simp)
              go_wp2_with fail
              exact ⟨⟨k + 1, by omega, by go_num, by rw [HP.out]; exact ⟨A', c', rfl, O2.out⟩, B2.out⟩, by simp [intOf]; omega⟩
            · go_wp2_with fail
              refine (kq _).mono ?_
              rintro e x2 ⟨rfl, h⟩
              have O2 := Lib.hid (own_below O1.out h)
              have B2 := Lib.hid (Below.step B1.out h)
              have T2 := Lib.hid (T1.out.below h)
              clear h kq O1 T1 B1
              clear e0 e1
              obtain ⟨_, m0, m1⟩ := T2.out
              rcases rm with _ | _
              · go_wp2_with fail
                refine (km _).mono ?_
                rintro e x3 ⟨rfl, h⟩
                have O3 := Lib.hid (own_below O2.out h)
                have B3 := Lib.hid (Below.step B2.out h)
                have T3 := Lib.hid (T2.out.below h)
                clear h km O2 T2 B2
                have HP : Hid (rAt o p b (k + 1) = s) := Lib.hid (by rw [HM.out, kD.out]; simp)
                go_wp2_with fail
                exact ⟨⟨k + 1, by omega, by go_num, by rw [HP.out]; exact ⟨A', c', rfl, O3.out⟩, B3.out⟩, by simp [intOf]; omega⟩
              · go_wp2_with fail
                refine (km _).mono ?_
                rintro e x3 ⟨rfl, h⟩
                have O3 := Lib.hid (own_below O2.out h)
                have B3 := Lib.hid (Below.step B2.out h)
                have T3 := Lib.hid (T2.out.below h)
                clear h km O2 T2 B2
                clear m0 m1
                obtain ⟨_, m0, m1⟩ := T3.out
                have HP : Hid (rAt o p b (k + 1) = ins s m) := Lib.hid (by rw [HM.out, kD.out]; simp)
                have hz3 := B3.out.size
                go_wp2_with fail
                refine (ki A' c' _ (Spans.of_own O3.out)).mono ?_
                rintro e x4 ⟨A4, c4, rfl, ho4, h⟩
                have O4 : Hid (OwnS x4 w.heap.size (rAt o p b (k + 1)) (.slice A4 (ins s m).length c4)) := Lib.hid (by rw [HP.out]; exact ⟨A4, c4, rfl, own_lower ho4 hz3⟩)
                have B4 := Lib.hid (Below.step B3.out h)
                clear h ho4 ki O3 B3 T3
                go_wp2_with fail
                exact ⟨⟨k + 1, by omega, by go_num, O4.out, B4.out⟩, by simp [intOf]; omega⟩
        · obtain rfl : k = b.length := by omega
          have HO := Lib.hid ho
          have HB := Lib.hid hbw
          have HR := Lib.hid (rAt_all o p b)
          clear ho hbw
          go_wp2
          go_roundw
          case rel => exact ⟨i + 1, by omega, by go_num, by rw [HN.out, ← HR.out]; exact ⟨A', c', rfl, HO.out⟩, HB.out⟩
          case measure => simp [intOf]; omega
    · obtain rfl : i = a.length := by omega
      rw [HALL.out] at hown
      have HF := Lib.hid hown
      go_wp2
      go_ret
      exact HF.out.ret hbw
end Go.Proofs.Ytofnbohcofgfkaa
