/- gaps, Total (both sides). -/
import Derived.Test.YtofnbohcofgfkaaSpU
namespace Go.Proofs.Ytofnbohcofgfkaa
open Go.RowKit

theorem TwoS.grownR {w w' : World} {b : Nat} {x : Sp} {row : Option Nat} (h : TwoS w b x) (hg : w.grownBy w' row) (hr : row ≠ some b) : TwoS w' b x :=
  ⟨Nat.lt_of_lt_of_le h.1 hg.size, (World.cell?_of_block (hg.block b h.1 fun e => hr e.symm)).trans h.2.1, (World.cell?_of_block (hg.block b h.1 fun e => hr e.symm)).trans h.2.2⟩
/-- How far the gaps have come: what is there, and from where the next one goes. -/
def gapAt : List Sp → Nat → List Sp × Int
  | _, 0 => ([], 0)
  | l, k + 1 => ((gapAt l k).1 ++ [⟨(gapAt l k).2, (l[k]?.getD default).f⟩], (l[k]?.getD default).t)
theorem gapAt_next {l : List Sp} {k : Nat} (hk : k < l.length) : gapAt l (k + 1) = ((gapAt l k).1 ++ [⟨(gapAt l k).2, l[k].f⟩], l[k].t) := by
  rw [gapAt]; simp [hk]
theorem gapAt_len (l : List Sp) : ∀ k, (gapAt l k).1.length = k
  | 0 => rfl
  | k + 1 => by rw [gapAt, List.length_append, gapAt_len l k]; rfl
theorem gaps_from : ∀ (l : List Sp) (k : Nat), k ≤ l.length → gapsR 0 l = (gapAt l k).1 ++ gapsR (gapAt l k).2 (l.drop k)
  | l, 0, _ => by simp [gapAt]
  | l, k + 1, h => by
    rw [gaps_from l k (by omega), gapAt_next (by omega), List.drop_eq_getElem_cons (by omega), gapsR]
    simp
theorem gaps_all (l : List Sp) : gapsR 0 l = (gapAt l l.length).1 ++ [⟨(gapAt l l.length).2, 86400000⟩] := by
  rw [gaps_from l _ (Nat.le_refl _), List.drop_length, gapsR]
theorem gaps_len (l : List Sp) : (gapsR 0 l).length = l.length + 1 := by rw [gaps_all, List.length_append, gapAt_len]; rfl

set_option maxRecDepth 20000 in
set_option maxHeartbeats 4000000 in
theorem gaps_any (l : List Sp) (A : Option Addr) (ca : Nat) (w : World) (ha : Spans w A l) (hl : l.length ≤ 5000) :
    Calls Try.prog 40 #[.slice A l.length ca] w (RetSpans (gapsR 0 (norm l)) w) := by
  obtain ⟨i0, hi, hz0, hz1, hz2⟩ := info_parts info_span
  have k1 := fun w' (h : Below w.heap.size w w') => union_any l A ca w' (ha.below h) (by omega)
  have hnl := norm_len l
  have HALL := Lib.hid (gaps_all (norm l))
  generalize norm l = n at *
  go_enter Try.func40, Try.ntmps40
  go_wp2_with fail
  refine (k1 _ (by repeat (first | assumption | exact Below.refl _ _ | refine Below.alloc ?_ (by first | omega | (simp; done) | (simp; omega)) _ | refine Below.setCell ?_ (by first | omega | (simp; done) | (simp; omega)) _ | refine Below.drew ?_ | refine Below.drewN_ ?_ _ | refine Below.step ?_ (by assumption)))).mono ?_
  rintro e w1 ⟨A1, c1, rfl, ho1, h1⟩
  have hb1 : Below w.heap.size w w1 := (by repeat (first | assumption | exact Below.refl _ _ | refine Below.alloc ?_ (by first | omega | (simp; done) | (simp; omega)) _ | refine Below.setCell ?_ (by first | omega | (simp; done) | (simp; omega)) _ | refine Below.drew ?_ | refine Below.drewN_ ?_ _ | refine Below.step ?_ (by assumption)))
  have hs1 : Spans w1 A1 n := Spans.of_own ho1
  clear k1 ho1 h1
  go_wp2
  go_loopw [3, 4, 10] (fun v f i wr => ∃ k : Nat, k ≤ n.length ∧ i = .int .i64 (k : Int) ∧ f = .int .i64 (gapAt n k).2 ∧ OwnS wr w1.heap.size (gapAt n k).1 v ∧ Below w1.heap.size w1 wr) (fun _ _ i _ => n.length + 1 - (intOf i).toNat)
  case atStart => exact ⟨0, by omega, rfl, rfl, OwnS.nil_ _ _, Below.refl _ _⟩
  case round =>
    obtain ⟨k, hk, rfl, rfl, ⟨A', c', rfl, hown⟩, hbw⟩ := hrel
    have HO := Lib.hid hown
    have zz := hbw.size
    have hgl := gapAt_len n k
    clear hown
    by_cases hlt : k < n.length
    · obtain ⟨ad, rfl, _, d0, d1⟩ := Spans.cells (hs1.below hbw) hlt
      have HN := Lib.hid (gapAt_next hlt)
      have hgl' : (gapAt n k).1.length ≤ 5000 := by omega
      clear hgl
      generalize n[k] = x at *
      generalize gapAt n k = g at *
      obtain ⟨o, f⟩ := g
      simp only at HN HO hgl' ⊢
      go_wp2_with (first
        | (at_builtin
           refine wpList_append_any _ rfl _ _ _ rfl w1.heap.size 23 i0 _ 2 16 Try.underlying30 hi hz0 hz1 hz2 rfl (by omega) _ o.length _ rfl ((HO.out.alloc _).alloc _) (wr.heap.size + 1 + 1) (some ⟨wr.heap.size + 1, 0, none⟩) 1 1 ([(⟨f, x.f⟩ : Sp)].flatMap encS) rfl (by simpa using Spans.reads (Spans.one (wr.alloc _) (⟨f, x.f⟩ : Sp) _)) (one_spans _) (by simp only [maxLen]; omega) (by omega) (by simp; omega) ?_
           intro v4 w4 hown4 hg4 _
           have hb4 : Below w1.heap.size w1 w4 := ((hbw.alloc zz _).alloc (by simp; omega) _).grown hg4 (by simp; omega) (fun g hg => (HO.out.lt g hg).1)
           have HO4 : Hid (OwnS w4 w1.heap.size (o ++ [⟨f, x.f⟩]) v4) := Lib.hid (OwnS.snoc hown4)
           obtain ⟨_, m0, m1⟩ := ((TwoS.new wr x 23).below ((Below.refl _ _).alloc (Nat.le_refl _) _)).grownR hg4 (fun e => by have := (HO.out.lt _ e).2; omega)
           clear hown4 hg4))
      go_wp2
      go_roundw
      case rel => exact ⟨k + 1, by omega, by go_num, by rw [HN.out], by rw [HN.out]; exact HO4.out, hb4⟩
      case measure => simp [intOf]; omega
    · obtain rfl : k = n.length := by omega
      generalize gapAt n n.length = g at *
      obtain ⟨o, f⟩ := g
      simp only at HO HALL hgl ⊢
      go_wp2_with (at_builtin; refine wpList_append_any _ rfl _ _ _ rfl w1.heap.size 23 i0 _ 2 16 Try.underlying30 hi hz0 hz1 hz2 rfl (by omega) _ o.length _ rfl (HO.out.alloc _) (wr.heap.size + 1) (some ⟨wr.heap.size, 0, none⟩) 1 1 ([(⟨f, 86400000⟩ : Sp)].flatMap encS) rfl (by simpa using Spans.reads (Spans.one wr (⟨f, 86400000⟩ : Sp) _)) (one_spans _) (by simp only [maxLen]; omega) (by omega) (by simp; omega) ?_; intro v4 w4 hown4 hg4 _)
      have HB4 : Hid (Below w.heap.size w w4) := Lib.hid (Below.step hb1 ((hbw.alloc zz _).grown hg4 (by simp; omega) (fun g hg => (HO.out.lt g hg).1)))
      have HO4 : Hid (OwnS w4 w.heap.size (gapsR 0 n) v4) := Lib.hid (by rw [HALL.out]; exact OwnS.lower (OwnS.snoc hown4) hb1.size)
      clear hown4 hg4
      go_wp2
      go_ret
      exact HO4.out.ret HB4.out

/-- How far the sum has come. -/
theorem total_take {l : List Sp} {k : Nat} (hk : k < l.length) : total (l.take (k + 1)) = total (l.take k) + (l[k].t - l[k].f) := by
  unfold total; rw [List.take_succ_eq_append_getElem hk, List.foldl_append]; rfl
theorem total_small : ∀ (l : List Sp), Nrm l → ∀ k, k ≤ l.length → 0 ≤ total (l.take k) ∧ total (l.take k) ≤ 86400000 * (k : Int)
  | _, _, 0, _ => by simp [total]
  | l, h, k + 1, hk => by
    rw [total_take (by omega)]
    have := total_small l h k (by omega)
    have hr := rt_iff.1 (h.1 l[k] (List.getElem_mem (by omega)))
    omega

set_option maxRecDepth 20000 in
set_option maxHeartbeats 4000000 in
theorem total_any (l : List Sp) (A : Option Addr) (ca : Nat) (w : World) (ha : Spans w A l) (hl : l.length ≤ 5000) :
    Calls Try.prog 30 #[.slice A l.length ca] w (Ret (.int .i64 (total (norm l))) w) := by
  have k1 := fun w' (h : Below w.heap.size w w') => union_any l A ca w' (ha.below h) (by omega)
  have hnl := norm_len l
  have hsm := total_small (norm l) (norm_spec l).1
  have hrt := (norm_spec l).1.1
  have HS := Lib.hid hsm
  have HRT := Lib.hid hrt
  clear hsm hrt
  generalize norm l = n at *
  go_enter Try.func30, Try.ntmps30
  go_wp2_with fail
  refine (k1 _ (by repeat (first | assumption | exact Below.refl _ _ | refine Below.alloc ?_ (by first | omega | (simp; done) | (simp; omega)) _ | refine Below.setCell ?_ (by first | omega | (simp; done) | (simp; omega)) _ | refine Below.drew ?_ | refine Below.drewN_ ?_ _ | refine Below.step ?_ (by assumption)))).mono ?_
  rintro e w1 ⟨A1, c1, rfl, ho1, h1⟩
  have hb1 : Below w.heap.size w w1 := (by repeat (first | assumption | exact Below.refl _ _ | refine Below.alloc ?_ (by first | omega | (simp; done) | (simp; omega)) _ | refine Below.setCell ?_ (by first | omega | (simp; done) | (simp; omega)) _ | refine Below.drew ?_ | refine Below.drewN_ ?_ _ | refine Below.step ?_ (by assumption)))
  have hs1 : Spans w1 A1 n := Spans.of_own ho1
  clear k1 ho1 h1
  go_wp2
  go_loopw [3, 9] (fun t i wr => ∃ k : Nat, k ≤ n.length ∧ i = .int .i64 (k : Int) ∧ t = .int .i64 (total (n.take k)) ∧ Below w1.heap.size w1 wr) (fun _ i _ => n.length + 1 - (intOf i).toNat)
  case atStart => exact ⟨0, by omega, rfl, rfl, Below.refl _ _⟩
  case round =>
    obtain ⟨k, hk, rfl, rfl, hbw⟩ := hrel
    by_cases hlt : k < n.length
    · obtain ⟨ad, rfl, _, d0, d1⟩ := Spans.cells (hs1.below hbw) hlt
      have HN := Lib.hid (total_take hlt)
      have hsm := HS.out k hk
      have hr := rt_iff.1 (HRT.out n[k] (List.getElem_mem hlt))
      generalize n[k] = x at *
      generalize total (n.take k) = t at *
      have hk5 : (k : Int) ≤ 5000 := by omega
      have w1' : IntKind.i64.wrap (x.t - x.f) = x.t - x.f := by rw [IntKind.wrap_i64] <;> omega
      have w2' : IntKind.i64.wrap (t + (x.t - x.f)) = t + (x.t - x.f) := by rw [IntKind.wrap_i64] <;> omega
      have w3' : IntKind.i64.wrap (t + x.t) = t + x.t := by rw [IntKind.wrap_i64] <;> omega
      have w4' : IntKind.i64.wrap (t + x.t - x.f) = t + x.t - x.f := by rw [IntKind.wrap_i64] <;> omega
      go_wp2
      exact ⟨⟨k + 1, by omega, by go_num, by first | (rw [HN.out]; done) | (rw [HN.out]; congr 1; omega), by first | exact hbw.alloc hbw.size _ | exact Below.drewN_ hbw _ | exact hbw⟩, by simp [intOf]; omega⟩
    · obtain rfl : k = n.length := by omega
      rw [List.take_length]
      have hbE := Below.step hb1 hbw
      go_wp2
      go_ret
      exact Ret.mk rfl hbE

set_option maxRecDepth 20000 in
set_option maxHeartbeats 4000000 in
theorem rtotal_any (l : List Sp) (A : Option Addr) (ca : Nat) (w : World) (ha : Spans w A l) (hl : l.length ≤ 5000) :
    Calls Try.prog 31 #[.slice A l.length ca] w (Ret (.int .i64 (total (norm l))) w) := by
  have k1 := fun w' (h : Below w.heap.size w w') => runion_any l A ca w' (ha.below h) (by omega)
  have hnl := norm_len l
  have hsm := total_small (norm l) (norm_spec l).1
  have hrt := (norm_spec l).1.1
  have HS := Lib.hid hsm
  have HRT := Lib.hid hrt
  clear hsm hrt
  generalize norm l = n at *
  go_enter Try.func31, Try.ntmps31
  go_wp2_with fail
  refine (k1 _ (by repeat (first | assumption | exact Below.refl _ _ | refine Below.alloc ?_ (by first | omega | (simp; done) | (simp; omega)) _ | refine Below.setCell ?_ (by first | omega | (simp; done) | (simp; omega)) _ | refine Below.drew ?_ | refine Below.drewN_ ?_ _ | refine Below.step ?_ (by assumption)))).mono ?_
  rintro e w1 ⟨A1, c1, rfl, ho1, h1⟩
  have hb1 : Below w.heap.size w w1 := (by repeat (first | assumption | exact Below.refl _ _ | refine Below.alloc ?_ (by first | omega | (simp; done) | (simp; omega)) _ | refine Below.setCell ?_ (by first | omega | (simp; done) | (simp; omega)) _ | refine Below.drew ?_ | refine Below.drewN_ ?_ _ | refine Below.step ?_ (by assumption)))
  have hs1 : Spans w1 A1 n := Spans.of_own ho1
  clear k1 ho1 h1
  go_wp2
  go_loopw [4, 5] (fun t i wr => ∃ k : Nat, k ≤ n.length ∧ i = .int .i64 (k : Int) ∧ t = .int .i64 (total (n.take k)) ∧ Below w1.heap.size w1 wr) (fun _ i _ => n.length + 1 - (intOf i).toNat)
  case atStart => exact ⟨0, by omega, rfl, rfl, Below.refl _ _⟩
  case round =>
    obtain ⟨k, hk, rfl, rfl, hbw⟩ := hrel
    by_cases hlt : k < n.length
    · obtain ⟨ad, rfl, _, d0, d1⟩ := Spans.cells (hs1.below hbw) hlt
      have HN := Lib.hid (total_take hlt)
      have hsm := HS.out k hk
      have hr := rt_iff.1 (HRT.out n[k] (List.getElem_mem hlt))
      generalize n[k] = x at *
      generalize total (n.take k) = t at *
      have hk5 : (k : Int) ≤ 5000 := by omega
      have w1' : IntKind.i64.wrap (x.t - x.f) = x.t - x.f := by rw [IntKind.wrap_i64] <;> omega
      have w2' : IntKind.i64.wrap (t + (x.t - x.f)) = t + (x.t - x.f) := by rw [IntKind.wrap_i64] <;> omega
      have w3' : IntKind.i64.wrap (t + x.t) = t + x.t := by rw [IntKind.wrap_i64] <;> omega
      have w4' : IntKind.i64.wrap (t + x.t - x.f) = t + x.t - x.f := by rw [IntKind.wrap_i64] <;> omega
      go_wp2
      go_quiet (fail)
      go_wp2
      exact ⟨⟨k + 1, by omega, by go_num, by first | (rw [HN.out]; done) | (rw [HN.out]; congr 1; omega), by first | exact hbw.alloc hbw.size _ | exact Below.drewN_ hbw _ | exact hbw⟩, by simp [intOf]; omega⟩
    · obtain rfl : k = n.length := by omega
      rw [List.take_length]
      have hbE := Below.step hb1 hbw
      go_wp2
      go_ret
      exact Ret.mk rfl hbE
end Go.Proofs.Ytofnbohcofgfkaa
