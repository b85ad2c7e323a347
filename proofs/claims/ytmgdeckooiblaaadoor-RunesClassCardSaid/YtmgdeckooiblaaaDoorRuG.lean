/- Clusters of the reference. -/
import Derived.Test.YtmgdeckooiblaaaDoorRuF
import Derived.Deep.RegionLaw
namespace Go.Proofs.YtmgdeckooiblaaaDoor
open Go.RowKit

set_option maxRecDepth 20000 in
set_option maxHeartbeats 2000000 in
theorem rclusters_any (s : List UInt8) (hl : s.length ≤ 4000000) (w : World) : Calls Tryd.prog 23 #[.string ⟨s.toArray⟩] w (RetS (clV s) w) := by
  have kp := rpoints_any s hl w
  cases hp : pts s with
  | none =>
    obtain ⟨e1, e2⟩ := pt_none hp
    have e3 : clV s = [] := by unfold clV; rw [hp]; rfl
    rw [e1, e2] at kp
    rw [e3]
    clear hp e1 e2 e3
    go_enter Tryd.func23, Tryd.ntmps23
    go_wp2_with fail
    refine kp.mono ?_
    rintro e w1 ⟨A1, c1, rfl, -, -, hb1⟩
    clear kp
    go_wp2
    go_ret
    exact ⟨none, 0, rfl, Nat.le_refl _, Strs.nil_ _ _, hb1⟩
  | some l =>
    obtain ⟨e1, e2⟩ := pt_some hp
    have e3 : clV s = clu l := by unfold clV; rw [hp]; rfl
    obtain ⟨g1, g2⟩ := pts_encs hp
    have hzl : (zs l).length = l.length := by simp [zs]
    have hll : l.length ≤ 4000000 := by have := (encs_len l).1; rw [g1] at this; omega
    rw [e1, e2] at kp
    rw [e3]
    clear hp e1 e2 e3
    obtain ⟨i0, hi0, hz0, hz1, hz2⟩ := info_parts info_str
    go_enter Tryd.func23, Tryd.ntmps23
    go_wp2_with fail
    refine kp.mono ?_
    rintro e w1 ⟨A1, c1, rfl, hc1, hi1, hb1⟩
    have HB := Lib.hid hb1
    have HI := Lib.hid hi1
    clear kp hb1 hi1
    have hsum : ∀ k, k ≤ l.length → (clu (l.take k)).length ≤ k ∧ (clu (l.take k)).flatten.length ≤ 4 * k := by
      intro k
      induction k with
      | zero => intro _; simp [clu]
      | succ k ih =>
        intro hk
        obtain ⟨a, b⟩ := ih (by omega)
        rw [clu_next (by omega)]
        have h1 := cstep_len (clu (l.take k)) l[k]
        have h2 := cstep_sum (clu (l.take k)) l[k]
        have h3 := enc_len l[k]
        omega
    have HSum := Lib.hid hsum
    clear hsum
    go_wp2
    go_loopw [5, 6] (fun o i wr => ∃ (k : Nat), k ≤ l.length ∧ i = .int .i64 (k : Int) ∧ OwnS w1.heap.size wr o (clu (l.take k)) ∧ Below w1.heap.size w1 wr) (fun _ i _ => l.length + 1 - (intOf i).toNat)
    case atStart => exact ⟨0, by omega, rfl, OwnS.nil_ _ _, Below.refl _ _⟩
    case round =>
      obtain ⟨k, hk, rfl, ⟨A3, cap, rfl, HO⟩, hbw1⟩ := hrel
      obtain ⟨hcl, hcs⟩ := HSum.out k hk
      replace HO := Lib.hid HO
      have hb0 := hbw1.size
      by_cases hlt : k < l.length
      · have hltI : (k : Int) < l.length := by omega
        have hltz : k < (zs l).length := by omega
        obtain ⟨ad, rfl, hlb, c1⟩ := HI.out.at_ hltz
        have hzk : (zs l)[k] = (l[k] : Int) := by simp [zs]
        rw [hzk] at c1
        have HN := Lib.hid (clu_next hlt)
        have hsc := g2 l[k] (List.getElem_mem hlt)
        have HPC : Hid (∀ W, Below w1.heap.size w1 W → W.cell? (ad.add k) = some (.int .i64 (l[k] : Int))) := Lib.hid (fun W hb => by
          rw [hb.cell (p := ad.add k) (by rw [block_of_add]; exact hlb)]
          exact c1)
        clear c1
        have km := fun w' => rmark_any (l[k] : Int) w'
        have ke := fun w' => encoded_any hsc w'
        have hel := enc_len l[k]
        have HE : Hid (k = 0 → clu (l.take k) = []) := Lib.hid (fun h => by subst h; rfl)
        have HF : Hid (k ≠ 0 → clu (l.take k) ≠ []) := Lib.hid (fun h => clu_ne (by intro e; have := congrArg List.length e; rw [List.length_take, Nat.min_eq_left hk] at this; exact h this))
        clear hzk hsc hltz
        generalize clu (l.take k) = out at *
        generalize l[k] = p at *
        by_cases hnew : k = 0 ∨ markB p = false
        · have HC : Hid (clu (l.take (k + 1)) = out ++ [enc p]) := Lib.hid (by
            rw [HN.out]; unfold cstep
            rcases hnew with h | h
            · rw [if_pos (.inl (HE.out h))]
            · rw [if_pos (.inr h)])
          have hk0' : k = 0 ∨ (k ≠ 0 ∧ markB p = false) := by
            rcases hnew with h | h
            · exact .inl h
            · by_cases h0 : k = 0
              · exact .inl h0
              · exact .inr ⟨h0, h⟩
          clear hnew
          generalize enc p = en at *
          have HV : Hid (∀ m, m = out.length → (out.map sv ++ [Value.string ⟨#[]⟩]).set m (Value.string (({ data := #[] } : ByteArray) ++ { data := en.toArray })) = (out ++ [en]).map sv) := Lib.hid (fun m hm => by
            subst hm
            have e : (({ data := #[] } : ByteArray) ++ { data := en.toArray }) = { data := en.toArray } := by apply ByteArray.ext; simp
            rw [e]; simp [sv])
          rcases hk0' with hk0 | ⟨hk0, hmk⟩
          · subst hk0
            go_wp2_with (at_builtin; refine wpList_append_own _ rfl _ _ 35 rfl w1.heap.size 9 i0 (.string ⟨#[]⟩) 1 16 Tryd.underlying35 hi0 hz0 hz1 hz2 rfl (by decide) _ _ _ rfl (HO.out.alloc _) ⟨wr.heap.size, 0, none⟩ 1 1 [.string ⟨#[]⟩] rfl rfl (cell_one_new _ _ _) (fun x hx => by simp at hx; subst hx; rfl) (by unfold maxLen; omega) (by omega) (by simp; omega) ?_; intro v4 w4 hown4 hgrow4 _)
            obtain ⟨A4, c4, rfl⟩ := own_form hown4
            have HB5 : Hid (Below w1.heap.size w1 w4) := Lib.hid ((hbw1.alloc hbw1.size _).trans ((Below.refl _ _).grown hgrow4 (by simp; omega) (fun g hg => (HO.out.lt g hg).1)))
            replace hown4 := Lib.hid hown4
            clear hgrow4
            have HX4 : Hid (∀ g c n, Value.slice A4 n c4 = .slice (some ⟨g, 0, none⟩) n c → w4.cell? ⟨g, out.length, none⟩ = some (.string ⟨#[]⟩)) := Lib.hid (fun g c n h => by
              have := hown4.out.cells (g := g) (by injection h with a; rw [a]; rfl) out.length (.string ⟨#[]⟩) (by simp)
              rwa [show ((⟨g, 0, none⟩ : Addr).add out.length) = ⟨g, out.length, none⟩ by unfold Addr.add; split <;> simp_all] at this)
            have hcl1 : (0 : Int) ≤ (out.length : Int) := by omega
            have hmm : ((out.length : Int) + 1) - 1 = (out.length : Int) := by omega
            have c1 := HPC.out _ HB5.out
            rw [show ad.add 0 = ad by unfold Addr.add; simp] at c1
            obtain ⟨g, cap4, hv4, hBg, hglt⟩ := hown4.out.form (by omega)
            obtain ⟨rfl, rfl⟩ : A4 = some ⟨g, 0, none⟩ ∧ c4 = cap4 := by injection hv4 with a b c; exact ⟨a, c⟩
            have hcell : w4.cell? ⟨g, out.length, none⟩ = some (.string ⟨([] : List UInt8).toArray⟩) := HX4.out g c4 0 rfl
            have hcw := own_cap hown4.out
            clear hv4
            have hfz : ∀ W, Below w4.heap.size w4 W → W.frozen? ⟨g, out.length, none⟩ = false := fun W hb => by rw [hb.frozen (p := ⟨g, out.length, none⟩) hglt]; exact hown4.out.frozenAt out.length
            have HZ := Lib.hid hfz
            clear hfz
            have hf4 := HZ.out _ (Below.refl _ _)
            have hgne : ∀ W, Below w4.heap.size w4 W → W.cell? ⟨g, out.length, none⟩ = some (.string ⟨([] : List UInt8).toArray⟩) := fun W hb => by rw [hb.cell (p := ⟨g, out.length, none⟩) hglt]; exact HX4.out g c4 0 rfl
            have HG := Lib.hid hgne
            clear hgne
            go_wp2_with fail
            have hbig : ¬ 9223372036854775807 < en.length := by omega
            have hlt1 : (out.length : Int) < (out.length : Int) + 1 := by omega
            have hwi : IntKind.i64.wrap (out.length : Int) = (out.length : Int) := by rw [IntKind.wrap_i64]; omega
            go_region_law (first | (go_simp; go_at_call 35; refine (ke _).mono ?_; rintro e w5 ⟨rfl, hb6⟩; have hb5 : Below w4.heap.size w4 w5 := ⟨hb6.os, hb6.tape, hb6.output, hb6.size, hb6.block⟩; clear hb6; have hc5 := HG.out _ hb5; have hf5 := HZ.out _ hb5; have HB6 := Lib.hid hb5; clear hb5))
            all_goals
              have HR := Lib.hid (((own_below hown4.out HB6.out).stored out.length (Value.string (({ data := #[] } : ByteArray) ++ { data := en.toArray }))).1)
              have HS := Lib.hid ((Below.step HB5.out HB6.out).setCell (p := ⟨g, out.length, none⟩) hBg (Value.string (({ data := #[] } : ByteArray) ++ { data := en.toArray })))
              clear hc5 hf5 hcell hf4 hlt1 hwi hbig c1
              go_wp2
              go_roundw
              case rel => exact ⟨0 + 1, by omega, by go_num, OwnS.mk HR.out (by rw [HC.out]; simp) (by rw [HC.out]; exact HV.out _ rfl), HS.out⟩
              case measure => simp [intOf] <;> omega
          · rw [hmk] at km
            have hkI : ((k : Int) == 0) = false := by rw [beq_eq_false_iff_ne]; omega
            have cw := HPC.out _ hbw1
            go_wp2_with fail
            refine (km _).mono ?_
            rintro e w2 ⟨rfl, rfl⟩
            have hbw2 := hbw1
            have HO2 := HO
            clear cw
            go_wp2_with (at_builtin; refine wpList_append_own _ rfl _ _ 35 rfl w1.heap.size 9 i0 (.string ⟨#[]⟩) 1 16 Tryd.underlying35 hi0 hz0 hz1 hz2 rfl (by decide) _ _ _ rfl (HO2.out.alloc _) ⟨w2.heap.size, 0, none⟩ 1 1 [.string ⟨#[]⟩] rfl rfl (cell_one_new _ _ _) (fun x hx => by simp at hx; subst hx; rfl) (by unfold maxLen; omega) (by omega) (by simp; omega) ?_; intro v4 w4 hown4 hgrow4 _)
            obtain ⟨A4, c4, rfl⟩ := own_form hown4
            have HB5 : Hid (Below w1.heap.size w1 w4) := Lib.hid ((hbw2.alloc hbw2.size _).trans ((Below.refl _ _).grown hgrow4 (by simp; omega) (fun g hg => (HO2.out.lt g hg).1)))
            replace hown4 := Lib.hid hown4
            clear hgrow4
            have HX4 : Hid (∀ g c n, Value.slice A4 n c4 = .slice (some ⟨g, 0, none⟩) n c → w4.cell? ⟨g, out.length, none⟩ = some (.string ⟨#[]⟩)) := Lib.hid (fun g c n h => by
              have := hown4.out.cells (g := g) (by injection h with a; rw [a]; rfl) out.length (.string ⟨#[]⟩) (by simp)
              rwa [show ((⟨g, 0, none⟩ : Addr).add out.length) = ⟨g, out.length, none⟩ by unfold Addr.add; split <;> simp_all] at this)
            have hcl1 : (0 : Int) ≤ (out.length : Int) := by omega
            have hmm : ((out.length : Int) + 1) - 1 = (out.length : Int) := by omega
            have c1 := HPC.out _ HB5.out
            obtain ⟨g, cap4, hv4, hBg, hglt⟩ := hown4.out.form (by omega)
            obtain ⟨rfl, rfl⟩ : A4 = some ⟨g, 0, none⟩ ∧ c4 = cap4 := by injection hv4 with a b c; exact ⟨a, c⟩
            have hcell : w4.cell? ⟨g, out.length, none⟩ = some (.string ⟨([] : List UInt8).toArray⟩) := HX4.out g c4 0 rfl
            have hcw := own_cap hown4.out
            clear hv4
            have hfz : ∀ W, Below w4.heap.size w4 W → W.frozen? ⟨g, out.length, none⟩ = false := fun W hb => by rw [hb.frozen (p := ⟨g, out.length, none⟩) hglt]; exact hown4.out.frozenAt out.length
            have HZ := Lib.hid hfz
            clear hfz
            have hf4 := HZ.out _ (Below.refl _ _)
            have hgne : ∀ W, Below w4.heap.size w4 W → W.cell? ⟨g, out.length, none⟩ = some (.string ⟨([] : List UInt8).toArray⟩) := fun W hb => by rw [hb.cell (p := ⟨g, out.length, none⟩) hglt]; exact HX4.out g c4 0 rfl
            have HG := Lib.hid hgne
            clear hgne
            go_wp2_with fail
            have hbig : ¬ 9223372036854775807 < en.length := by omega
            have hlt1 : (out.length : Int) < (out.length : Int) + 1 := by omega
            have hwi : IntKind.i64.wrap (out.length : Int) = (out.length : Int) := by rw [IntKind.wrap_i64]; omega
            go_region_law (first | (go_simp; go_at_call 35; refine (ke _).mono ?_; rintro e w5 ⟨rfl, hb6⟩; have hb5 : Below w4.heap.size w4 w5 := ⟨hb6.os, hb6.tape, hb6.output, hb6.size, hb6.block⟩; clear hb6; have hc5 := HG.out _ hb5; have hf5 := HZ.out _ hb5; have HB6 := Lib.hid hb5; clear hb5))
            all_goals
              have HR := Lib.hid (((own_below hown4.out HB6.out).stored out.length (Value.string (({ data := #[] } : ByteArray) ++ { data := en.toArray }))).1)
              have HS := Lib.hid ((Below.step HB5.out HB6.out).setCell (p := ⟨g, out.length, none⟩) hBg (Value.string (({ data := #[] } : ByteArray) ++ { data := en.toArray })))
              clear hc5 hf5 hcell hf4 hlt1 hwi hbig c1
              go_wp2
              go_roundw
              case rel => exact ⟨k + 1, by omega, by go_num, OwnS.mk HR.out (by rw [HC.out]; simp) (by rw [HC.out]; exact HV.out _ rfl), HS.out⟩
              case measure => simp [intOf] <;> omega
        · have hk0 : k ≠ 0 := fun h => hnew (.inl h)
          have hmk : markB p = true := by cases h : markB p with | true => rfl | false => exact absurd (.inr h) hnew
          have hne := HF.out hk0
          obtain ⟨m, hm⟩ : ∃ m, out.length = m + 1 := ⟨out.length - 1, by have := List.length_pos_iff.2 hne; omega⟩
          obtain ⟨x, hx⟩ : ∃ x, x = out.getLast hne := ⟨_, rfl⟩
          have HC : Hid (clu (l.take (k + 1)) = out.set m (x ++ enc p)) := Lib.hid (by
            rw [HN.out]; unfold cstep
            rw [if_neg (fun h => h.elim hne (fun h => by rw [hmk] at h; cases h)), addLast_set hne, hm, hx]; rfl)
          have hxm : x ∈ out := by rw [hx]; exact List.getLast_mem hne
          have hxl : x.length ≤ 4 * k := Nat.le_trans (mem_flat_len hxm) hcs
          have HXg : Hid (out[m]? = some x) := Lib.hid (by rw [hx, List.getLast_eq_getElem, List.getElem?_eq_getElem (by omega)]; congr 1; congr 1; omega)
          clear hnew hxm hx
          generalize enc p = en at *
          have HV : Hid ((out.map sv).set m (Value.string (({ data := x.toArray } : ByteArray) ++ { data := en.toArray })) = (out.set m (x ++ en)).map sv) := Lib.hid (by
            have e : (({ data := x.toArray } : ByteArray) ++ { data := en.toArray }) = { data := (x ++ en).toArray } := by apply ByteArray.ext; simp
            rw [e, List.map_set]; rfl)
          rw [hmk] at km
          have hkI : ((k : Int) == 0) = false := by rw [beq_eq_false_iff_ne]; omega
          have cw := HPC.out _ hbw1
          go_wp2_with fail
          refine (km _).mono ?_
          rintro e w2 ⟨rfl, rfl⟩
          have hbw2 := hbw1
          have HO2 := HO
          clear cw
          have hown4 : Hid (w2.ownsRow w1.heap.size 9 1 (.slice A3 (m + 1) cap) (m + 1) (out.map sv)) := Lib.hid (by have h := HO2.out; rw [hm] at h; exact h)
          have HB5 := Lib.hid hbw2
          have HX4 : Hid (∀ g c n, Value.slice A3 n cap = .slice (some ⟨g, 0, none⟩) n c → w2.cell? ⟨g, m, none⟩ = some (.string ⟨x.toArray⟩)) := Lib.hid (fun g c n h => by
            have := hown4.out.cells (g := g) (by injection h with a; rw [a]; rfl) m (.string ⟨x.toArray⟩) (by rw [List.getElem?_map, HXg.out]; rfl)
            rwa [show ((⟨g, 0, none⟩ : Addr).add m) = ⟨g, m, none⟩ by unfold Addr.add; split <;> simp_all] at this)
          have hcl1 : (0 : Int) ≤ (m : Int) := by omega
          have hmm : ((m : Int) + 1) - 1 = (m : Int) := by omega
          have c1 := HPC.out _ HB5.out
          obtain ⟨g, cap4, hv4, hBg, hglt⟩ := hown4.out.form (by omega)
          obtain ⟨rfl, rfl⟩ : A3 = some ⟨g, 0, none⟩ ∧ cap = cap4 := by injection hv4 with a b c; exact ⟨a, c⟩
          have hcell : w2.cell? ⟨g, m, none⟩ = some (.string ⟨(x : List UInt8).toArray⟩) := HX4.out g cap 0 rfl
          have hcw := own_cap hown4.out
          clear hv4
          have hfz : ∀ W, Below w2.heap.size w2 W → W.frozen? ⟨g, m, none⟩ = false := fun W hb => by rw [hb.frozen (p := ⟨g, m, none⟩) hglt]; exact hown4.out.frozenAt m
          have HZ := Lib.hid hfz
          clear hfz
          have hf4 := HZ.out _ (Below.refl _ _)
          have hgne : ∀ W, Below w2.heap.size w2 W → W.cell? ⟨g, m, none⟩ = some (.string ⟨(x : List UInt8).toArray⟩) := fun W hb => by rw [hb.cell (p := ⟨g, m, none⟩) hglt]; exact HX4.out g cap 0 rfl
          have HG := Lib.hid hgne
          clear hgne
          go_wp2_with fail
          have hbig : ¬ 9223372036854775807 < x.length + en.length := by omega
          have hlt1 : (m : Int) < (m : Int) + 1 := by omega
          have hwi : IntKind.i64.wrap (m : Int) = (m : Int) := by rw [IntKind.wrap_i64]; omega
          go_region_law (first | (go_simp; go_at_call 35; refine (ke _).mono ?_; rintro e w5 ⟨rfl, hb6⟩; have hb5 : Below w2.heap.size w2 w5 := ⟨hb6.os, hb6.tape, hb6.output, hb6.size, hb6.block⟩; clear hb6; have hc5 := HG.out _ hb5; have hf5 := HZ.out _ hb5; have HB6 := Lib.hid hb5; clear hb5))
          all_goals
            have HR := Lib.hid (((own_below hown4.out HB6.out).stored m (Value.string (({ data := x.toArray } : ByteArray) ++ { data := en.toArray }))).1)
            have HS := Lib.hid ((Below.step HB5.out HB6.out).setCell (p := ⟨g, m, none⟩) hBg (Value.string (({ data := x.toArray } : ByteArray) ++ { data := en.toArray })))
            clear hc5 hf5 hcell hf4 hlt1 hwi hbig c1
            go_wp2
            go_roundw
            case rel => exact ⟨k + 1, by omega, by go_num, OwnS.mk HR.out (by rw [HC.out]; simp; omega) (by rw [HC.out]; exact HV.out), HS.out⟩
            case measure => simp [intOf] <;> omega
      · obtain rfl : k = l.length := by omega
        have hcap := (own_cap HO.out).2
        rw [List.take_length] at HO hcap
        have hS : Hid (Strs wr A3 (clu l)) := Lib.hid (OwnS.strs (B := w1.heap.size) ⟨A3, cap, rfl, HO.out⟩)
        have hltI : ¬ (l.length : Int) < (zs l).length := by omega
        rw [List.take_length]
        go_wp2
        go_ret
        exact ⟨A3, cap, rfl, hcap, hS.out, Below.step HB.out hbw1⟩
end Go.Proofs.YtmgdeckooiblaaaDoor
