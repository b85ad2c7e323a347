/- Order of the code, where each cluster is short. -/
import Derived.Test.YtmgdeckooiblaaaDoorRuO
import Derived.Test.YtmgdeckooiblaaaDoorRuL
import Derived.Lib.AppendStr
namespace Go.Proofs.YtmgdeckooiblaaaDoor
open Go.RowKit

theorem info_u8 : (Tryd.prog.info? 5).map (fun i => (i.zero, i.size, i.bytes)) = some (some (.int .u8 0), 1, 1) := by kernel_rfl
/-- A short cluster in its order. -/
def ordOne (c : List UInt8) : List UInt8 := ofV (isort (ptV c) (ptV c).length)
def ordL (l : List (List UInt8)) : List UInt8 := l.flatMap ordOne
def Short (l : List (List UInt8)) : Prop := ∀ c ∈ l, 1 ≤ (ptV c).length ∧ (ptV c).length ≤ 19 ∧ c.length ≤ 4000

set_option maxRecDepth 20000 in
set_option maxHeartbeats 4000000 in
theorem order_any (s : List UInt8) (hl : s.length ≤ 4000) (hv : ptB s = true) (hcl : (clV s).length ≤ 4000) (H : Short (clV s)) (w : World) (hL : Laid w) : Calls Tryd.prog 24 #[.string ⟨s.toArray⟩] w (Ret (.string ⟨(ordL (clV s)).toArray⟩) w) := by
  have kv := valid_any s (by omega) w hL
  rw [hv] at kv
  have HLL := Lib.hid hL
  go_enter Tryd.func24, Tryd.ntmps24
  go_wp2_with fail
  refine kv.mono ?_
  rintro e w1 ⟨rfl, hb1⟩
  have hL1 := hL.below hb1
  go_wp2_with fail
  refine (clusters_any s (by omega) w1 hL1).mono ?_
  rintro e w2 ⟨A2, c2, rfl, hcc, hS, hb2⟩
  have HB2 := Lib.hid (Below.step hb1 hb2)
  have HL2 := Lib.hid (hL1.below hb2)
  have HS := Lib.hid hS
  have HH := Lib.hid H
  generalize clV s = CL at *
  clear hb1 hb2 hL1 hL hS kv H hv
  obtain ⟨i0, hi0, hz0, hz1, hz2⟩ := info_parts info_u8
  have HF : Hid (∀ k, k ≤ CL.length → (ordL (CL.take k)).length ≤ 76 * k) := Lib.hid (by
    intro k
    induction k with
    | zero => intro _; simp [ordL]
    | succ k ih =>
      intro hk
      have h1 := ih (by omega)
      have h2 : ordL (CL.take (k + 1)) = ordL (CL.take k) ++ ordOne CL[k] := by unfold ordL; rw [List.take_succ_eq_append_getElem (by omega), List.flatMap_append]; simp
      rw [h2, List.length_append]
      have h3 : (ordOne CL[k]).length ≤ 76 := by
        have hs := (HH.out CL[k] (List.getElem_mem (by omega))).2.1
        unfold ordOne ofV
        split
        · have := accS_len (isort (ptV CL[k]) (ptV CL[k]).length) (isort (ptV CL[k]) (ptV CL[k]).length).length (Nat.le_refl _)
          rw [isort_len] at this ⊢
          omega
        · simp
      omega)
  go_wp2
  go_loopw [3, 17] (fun o i wr => ∃ (k : Nat) (t : List UInt8), k ≤ CL.length ∧ i = .int .i64 (k : Int) ∧ Hid (t = ordL (CL.take k)) ∧ t.length ≤ 76 * k ∧ Own8 w2.heap.size wr o t ∧ Below w2.heap.size w2 wr) (fun _ i _ => CL.length + 1 - (intOf i).toNat)
  case atStart => exact ⟨0, [], by omega, rfl, Lib.hid rfl, by simp, ⟨none, 0, rfl, World.ownsRow_nil _ _ _ _⟩, Below.refl _ _⟩
  case round =>
    obtain ⟨k, t, hk, rfl, HT, htl, ⟨A3, c3, rfl, HO⟩, hbw2⟩ := hrel
    replace HO := Lib.hid HO
    have hb0 := hbw2.size
    by_cases hlt : k < CL.length
    · obtain ⟨ad, rfl, hlb, c1⟩ := (HS.out.below hbw2).at_ hlt
      have hltI : (k : Int) < CL.length := by omega
      obtain ⟨s1, s2, s3⟩ := HH.out CL[k] (List.getElem_mem hlt)
      have HT2 : Hid (ordL (CL.take (k + 1)) = t ++ ordOne CL[k]) := Lib.hid (by rw [HT.out]; unfold ordL; rw [List.take_succ_eq_append_getElem hlt, List.flatMap_append]; simp)
      have HT3 := Lib.hid (HF.out (k + 1) (by omega))
      have kp := points_own CL[k] (by omega) wr (HL2.out.below hbw2)
      have HON : Hid (ordOne CL[k] = ofV (isort (ptV CL[k]) (ptV CL[k]).length)) := Lib.hid rfl
      generalize CL[k] = cl at *
      generalize ptV cl = P at *
      generalize ptB cl = Bo at *
      go_wp2_with fail
      refine kp.mono ?_
      rintro e w3 ⟨A4, c4, rfl, ho4, hb3⟩
      clear kp
      obtain ⟨g, cap4, hv4, hBg, hglt⟩ := ho4.form (by omega)
      obtain ⟨rfl, rfl⟩ : A4 = some ⟨g, 0, none⟩ ∧ c4 = cap4 := by injection hv4 with a b c; exact ⟨a, c⟩
      have ks := sort_any P wr.heap.size g c4 w3 s2 s1 hBg hb3.size ho4
      have HB3 := Lib.hid hb3
      clear hv4 ho4 hb3
      go_wp2_with fail
      refine ks.mono ?_
      rintro e w4 ⟨⟨v5, rfl⟩, ho5, hb5⟩
      clear ks
      have HB5 : Hid (Below wr.heap.size wr w4) := Lib.hid (HB3.out.trans hb5)
      have hil := isort_len P P.length
      have hI : Ints w4 (some ⟨g, 0, none⟩) (isort P P.length) := by
        have := Reads.of_own ho5
        unfold Ints
        rw [hil]
        exact this
      have ko := of_any (isort P P.length) (some ⟨g, 0, none⟩) c4 w4 hI (by omega)
      rw [hil] at ko
      clear hI ho5 hb5 hil
      rw [← HON.out] at ko
      generalize ordOne cl = oc at *
      generalize ofB (isort P P.length) = ob at *
      go_wp2_with fail
      refine ko.mono ?_
      rintro e w6 ⟨rfl, hb6⟩
      clear ko
      have hb7 := Below.step HB5.out hb6
      have HO7 := Lib.hid (own_below HO.out hb7)
      have HB8 := Lib.hid (Below.step hbw2 hb7)
      have hs7 := HB8.out.size
      have hoc : oc.length ≤ 76 * (k + 1) := by have h1 := HT3.out; rw [HT2.out, List.length_append] at h1; omega
      have hsx : (⟨oc.toArray⟩ : ByteArray).size = oc.length := rfl
      have htt : t.length + oc.length ≤ 76 * (k + 1) := by have h1 := HT3.out; rw [HT2.out, List.length_append] at h1; omega
      clear hb6 hb7
      go_wp2_with (at_builtin; refine Lib.wpList_append_own_string _ rfl _ _ 45 9 rfl w2.heap.size 5 i0 Tryd.underlying45 Tryd.underlying9 hi0 hz0 hz1 hz2 _ _ _ rfl HO7.out ⟨oc.toArray⟩ rfl (by rw [hsx]; unfold maxLen; omega) (by rw [hsx]; omega) hs7 ?_; intro v4 w8 hown4 hgrow4 _; rw [hsx] at hown4)
      have HB10 : Hid (Below w2.heap.size w2 w8) := Lib.hid (HB8.out.grown hgrow4 hs7 (fun g hg => (HO7.out.lt g hg).1))
      have HN : Hid (Own8 w2.heap.size w8 v4 (t ++ oc)) := Lib.hid (Own8.mk hown4 (by simp) (by rw [List.map_append]; rfl))
      clear hown4 hgrow4
      go_wp2
      go_roundw
      case rel => exact ⟨k + 1, t ++ oc, by omega, by go_num, Lib.hid (by rw [HT2.out]), by simp; omega, HN.out, HB10.out⟩
      case measure => simp [intOf]; omega
    · obtain rfl : k = CL.length := by omega
      have kc := run_bytes_string wr A3 t c3 (Reads.of_own HO.out)
      have HE : Hid (t = ordL CL) := Lib.hid (by rw [HT.out, List.take_length])
      go_wp2
      go_ret
      exact Ret.mk (by rw [HE.out]; rfl) (Below.step HB2.out hbw2)
end Go.Proofs.YtmgdeckooiblaaaDoor
