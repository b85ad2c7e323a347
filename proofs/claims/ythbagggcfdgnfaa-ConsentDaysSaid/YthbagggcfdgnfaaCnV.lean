/- The reference's Least and Days. -/
import Derived.Test.YthbagggcfdgnfaaCnR
import Derived.Test.YthbagggcfdgnfaaCnN
import Derived.Test.YthbagggcfdgnfaaSrt
namespace Go.Proofs.Ythbagggcfdgnfaa
open Go.RowKit

set_option maxRecDepth 20000 in
set_option maxHeartbeats 2000000 in
theorem rleast_any (l : List Cn) (A S : Option Addr) (cap sc : Nat) (rid ln dy d : Int) (nm : List UInt8) (sp : List Int) (w : World) (ha : Cons w A l) (hs : Ints w S sp) (hl : l.length ≤ 100000) (hsl : sp.length ≤ 100000) :
    Calls Try.prog 18 #[.slice A l.length cap, .agg #[.int .i64 rid, .string ⟨nm.toArray⟩, .int .i64 ln, .int .i64 dy, .slice S sp.length sc], .int .i64 d] w (Ret (.int .i64 (leastK l rid sp d)) w) := by
  have hat := fun p w' (h : Below w.heap.size w w') => rat_any l A cap p rid d w' (ha.below h) hl
  rcases Nat.eq_zero_or_pos sp.length with h0 | h0
  · obtain rfl : sp = [] := List.eq_nil_of_length_eq_zero h0
    go_enter Try.func18, Try.ntmps18
    go_wp2
    go_ret
    exact Ret.mk rfl (by repeat (first | assumption | exact Below.refl _ _ | refine Below.alloc ?_ (by first | omega | (simp; done) | (simp; omega)) _ | refine Below.setCell ?_ (by first | omega | (simp; done) | (simp; omega)) _ | refine Below.drew ?_ | refine Below.drewN_ ?_ _ | refine Below.step ?_ (by assumption)))
  · have hall := Lib.hid (leastK_all (l := l) (rid := rid) (d := d) h0)
    obtain ⟨R, hR⟩ : ∃ R, leastK l rid sp d = R := ⟨_, rfl⟩
    rw [hR] at hall ⊢
    clear hR
    go_enter Try.func18, Try.ntmps18
    go_wp2
    go_loopw [7, 8] (fun o i wr => ∃ k : Nat, k ≤ sp.length ∧ i = .int .i64 (k : Int) ∧ o = .int .i64 (leastF l rid d (sp.take k)) ∧ (wr.cell? ⟨w.heap.size, 0, none⟩ = some (.int .i64 rid) ∧ wr.cell? ⟨w.heap.size, 4, none⟩ = some (.slice S sp.length sc)) ∧ w.heap.size < wr.heap.size ∧ Below w.heap.size w wr) (fun _ i _ => sp.length + 1 - (intOf i).toNat)
    case atStart => exact ⟨0, by omega, rfl, rfl, ⟨by simp [go_sem], by simp [go_sem]⟩, by simp, (by repeat (first | assumption | exact Below.refl _ _ | refine Below.alloc ?_ (by first | omega | (simp; done) | (simp; omega)) _ | refine Below.setCell ?_ (by first | omega | (simp; done) | (simp; omega)) _ | refine Below.drew ?_ | refine Below.drewN_ ?_ _ | refine Below.step ?_ (by assumption)))⟩
    case round =>
      obtain ⟨k, hk, rfl, rfl, ⟨b0, b4⟩, bl, hbw⟩ := hrel
      by_cases hlt : k < sp.length
      · obtain ⟨ad, rfl, had, c1⟩ := (hs.below hbw).at_ hlt
        have had' : (ad.add k).block < wr.heap.size := by rw [block_of_add]; exact had
        have hpc : ∀ x : Past wr, x.val.cell? (ad.add k) = some (.int .i64 sp[k]) := fun x => (x.below.cell (p := ad.add k) had').trans c1
        have HS := Lib.hid (leastF_take (l := l) (rid := rid) (d := d) hlt)
        have k1 := fun w' h => hat sp[k] w' h
        clear hat
        generalize leastF l rid d (sp.take k) = acc at *
        generalize atK l sp[k] rid d = v at *
        generalize sp[k] = p at *
        go_wp2_with fail
        refine region_past (by kernel_rfl) (by kernel_rfl) ?_
        repeat (go_big_quiet_step (exact Calls.past (k1 _ (Below.step hbw (Past.below _)))))
        refine wpQuiet_nil ?_
        rintro _ ⟨⟨w1, hb1⟩, rfl⟩
        have hb2 := Below.step hbw hb1
        have b0' := ((bcell hb1).1 _ 0 bl).trans b0
        have b4' := ((bcell hb1).1 _ 4 bl).trans b4
        have bl' := Nat.lt_of_lt_of_le bl hb1.size
        go_wp2
        go_roundw
        case rel => exact ⟨k + 1, by omega, by go_num, by rw [HS.out], ⟨b0', b4'⟩, bl', hb2⟩
        case measure => simp [intOf]; omega
      · obtain rfl : k = sp.length := by omega
        go_wp2
        go_ret
        exact Ret.mk (by first | rfl | (rw [hall.out]; rfl)) hbw

set_option maxRecDepth 20000 in
set_option maxHeartbeats 4000000 in
theorem rdays_any (l : List Cn) (A S : Option Addr) (cap sc : Nat) (rid ln dy : Int) (nm : List UInt8) (sp : List Int) (w : World) (ha : Cons w A l) (hs : Ints w S sp) (hl : l.length ≤ 1000) (hsl : sp.length ≤ 100000) (hd : ∀ c ∈ l, 1 ≤ c.d ∧ c.d ≤ 109573) :
    Calls Try.prog 21 #[.slice A l.length cap, .agg #[.int .i64 rid, .string ⟨nm.toArray⟩, .int .i64 ln, .int .i64 dy, .slice S sp.length sc]] w (RetInts 3 (refD l (changes l rid sp) l.length) w) := by
  obtain ⟨i0, hi, hz0, hz1, hz2⟩ := info_parts info_int
  have kl := fun d w' (h : Below w.heap.size w w') => rleast_any l A S cap sc rid ln dy d nm sp w' (ha.below h) (hs.below h) (by omega) hsl
  go_enter Try.func21, Try.ntmps21
  go_wp2
  go_loopw [5, 6] (fun v i wr => ∃ k : Nat, k ≤ l.length ∧ i = .int .i64 (k : Int) ∧ OwnI wr (w.heap.size + 1) (refD l (changes l rid sp) k) v ∧ (wr.cell? ⟨w.heap.size, 0, none⟩ = some (.int .i64 rid) ∧ wr.cell? ⟨w.heap.size, 1, none⟩ = some (.string ⟨nm.toArray⟩) ∧ wr.cell? ⟨w.heap.size, 2, none⟩ = some (.int .i64 ln) ∧ wr.cell? ⟨w.heap.size, 3, none⟩ = some (.int .i64 dy) ∧ wr.cell? ⟨w.heap.size, 4, none⟩ = some (.slice S sp.length sc)) ∧ w.heap.size < wr.heap.size ∧ Below w.heap.size w wr) (fun _ i _ => l.length + 1 - (intOf i).toNat)
  case atStart => exact ⟨0, by omega, rfl, OwnI.nil_ _ _, ⟨by simp [go_sem], by simp [go_sem], by simp [go_sem], by simp [go_sem], by simp [go_sem]⟩, by simp, (by repeat (first | assumption | exact Below.refl _ _ | refine Below.alloc ?_ (by first | omega | (simp; done) | (simp; omega)) _ | refine Below.setCell ?_ (by first | omega | (simp; done) | (simp; omega)) _ | refine Below.drew ?_ | refine Below.drewN_ ?_ _ | refine Below.step ?_ (by assumption)))⟩
  case round =>
    obtain ⟨k, hk, rfl, ⟨A', c', rfl, hown⟩, ⟨b0, b1, b2, b3, b4⟩, bl, hbw⟩ := hrel
    have HO := Lib.hid hown
    clear hown
    by_cases hlt : k < l.length
    · obtain ⟨ad, rfl, had, d0, d1, d2, d3⟩ := Cons.cells (ha.below hbw) hlt
      have hdl := hd l[k] (List.getElem_mem hlt)
      by_cases hsk : 0 < k ∧ dayB l k = l[k].d
      · have HS := Lib.hid (refD_skip (ch := changes l rid sp) hlt hsk)
        obtain ⟨q, rfl⟩ : ∃ q, k = q + 1 := ⟨k - 1, by omega⟩
        obtain ⟨ad', e', _, f0, f1, f2, f3⟩ := Cons.cells (ha.below hbw) (i := q) (by omega)
        injection e' with e'
        subst e'
        have hqd : (l[q].d == l[q + 1].d) = true := by have := hsk.2; rw [show dayB l (q + 1) = l[q].d by unfold dayB; simp [show q < l.length by omega]] at this; simpa using this
        clear hsk
        generalize l[q] = cq at *
        generalize l[q + 1] = ck at *
        go_wp2
        exact ⟨⟨q + 1 + 1, by omega, by go_num, ⟨A', c', by rw [HS.out], by rw [HS.out]; exact HO.out⟩, ⟨b0, b1, b2, b3, b4⟩, bl, hbw⟩, by simp [intOf]; omega⟩
      · have HNS := Lib.hid hsk
        rcases k with _ | q
        · clear hsk
          have ad0 : ad.add (0 * 4) = ad := by unfold Addr.add; simp
          rw [ad0] at d0 d1 d2 d3
          have HYS := Lib.hid (refD_yes (ch := changes l rid sp) hlt HNS.out)
          have HNO := Lib.hid (refD_no (ch := changes l rid sp) hlt HNS.out)
          have HCH := Lib.hid (show changes l rid sp l[0].d = !(leastK l rid sp l[0].d == leastK l rid sp (l[0].d - 1)) from rfl)
          have k1 := fun w' h => kl l[0].d w' h
          have k2 := fun w' h => kl (l[0].d - 1) w' h
          have hsz := hbw.size
          have hfl := refD_len l (changes l rid sp) (0)
          clear kl
          generalize leastK l rid sp l[0].d = x at *
          generalize leastK l rid sp (l[0].d - 1) = y at *
          generalize l[0] = ck at *
          rcases hxy : (x == y) with _ | _
          · have HV := Lib.hid (HYS.out (by rw [HCH.out, hxy]; rfl))
            clear HYS HNO HCH
            go_wp2_with fail
            refine region_past (by kernel_rfl) (by kernel_rfl) ?_
            repeat (go_big_quiet_step (first | with_reducible exact Calls.past (k1 _ (Below.step hbw (Past.below _))) | with_reducible exact Calls.past (k2 _ (Below.step hbw (Past.below _)))))
            refine wpQuiet_nil ?_
            rintro w1 ⟨⟨_, hb1⟩, rfl⟩
            have O3 := Lib.hid (own_below HO.out hb1)
            have z3 := hb1.size
            have hb2 := Below.step hbw hb1
            have bl' : w.heap.size < w1.heap.size := by omega
            go_wp2_with (at_builtin; refine wpList_append_own _ rfl _ _ 32 rfl (w.heap.size + 1) 3 i0 (.int .i64 0) 1 8 Try.underlying32 hi hz0 hz1 hz2 rfl (by decide) _ _ _ rfl (O3.out.alloc _) ⟨w1.heap.size, 0, none⟩ 1 1 [.int .i64 ck.d] rfl rfl (cell_one_new _ _ _) (fun x hx => by simp at hx; subst hx; rfl) (by unfold maxLen; omega) (by omega) (by simp; omega) ?_; intro v' w4 hown4 hgrow4 _)
            have hb4 : Below w.heap.size w w4 := (hb2.alloc (by omega) _).grown hgrow4 (by simp; omega) (fun g hg => by have := (O3.out.lt g hg).1; omega)
            have keep : ∀ o, w4.cell? ⟨w.heap.size, o, none⟩ = wr.cell? ⟨w.heap.size, o, none⟩ := fun o => ((World.cell?_of_block (hgrow4.block w.heap.size (by simp; omega) (fun e => by have := (O3.out.lt _ e.symm).1; omega))).trans (World.cell?_alloc_lt _ _ _ bl')).trans ((bcell hb1).1 _ o bl)
            have bl4 : w.heap.size < w4.heap.size := Nat.lt_of_lt_of_le (by simp; omega) hgrow4.size
            have c0 := (keep 0).trans b0
            have c1 := (keep 1).trans b1
            have c2 := (keep 2).trans b2
            have c3 := (keep 3).trans b3
            have c4 := (keep 4).trans b4
            have HO4 : Hid (OwnI w4 (w.heap.size + 1) (refD l (changes l rid sp) (0 + 1)) v') := Lib.hid (by
              rw [HV.out]
              obtain ⟨A5, c5, rfl⟩ := own_form hown4
              exact ⟨A5, c5, by simp, by simpa using hown4⟩)
            clear hown4 hgrow4 keep
            go_wp2
            go_roundw
            case rel => exact ⟨0 + 1, by omega, by go_num, HO4.out, ⟨c0, c1, c2, c3, c4⟩, bl4, hb4⟩
            case measure => first | (simp [intOf]; done) | (simp [intOf]; omega)
          · have HV := Lib.hid (HNO.out (by rw [HCH.out, hxy]; rfl))
            clear HYS HNO HCH
            go_wp2_with fail
            refine region_past (by kernel_rfl) (by kernel_rfl) ?_
            repeat (go_big_quiet_step (first | with_reducible exact Calls.past (k1 _ (Below.step hbw (Past.below _))) | with_reducible exact Calls.past (k2 _ (Below.step hbw (Past.below _)))))
            refine wpQuiet_nil ?_
            rintro w1 ⟨⟨_, hb1⟩, rfl⟩
            have hb2 := Below.step hbw hb1
            have z3 := hb1.size
            have keep : ∀ o, w1.cell? ⟨w.heap.size, o, none⟩ = wr.cell? ⟨w.heap.size, o, none⟩ := fun o => (bcell hb1).1 _ o bl
            have c0 := (keep 0).trans b0
            have c1 := (keep 1).trans b1
            have c2 := (keep 2).trans b2
            have c3 := (keep 3).trans b3
            have c4 := (keep 4).trans b4
            have HO4 : Hid (OwnI w1 (w.heap.size + 1) (refD l (changes l rid sp) (0 + 1)) (.slice A' (refD l (changes l rid sp) 0).length c')) := Lib.hid (by
              rw [HV.out]
              exact ⟨A', c', rfl, own_below HO.out hb1⟩)
            clear keep
            go_wp2
            go_roundw
            case rel => exact ⟨0 + 1, by omega, by go_num, HO4.out, ⟨c0, c1, c2, c3, c4⟩, by omega, hb2⟩
            case measure => first | (simp [intOf]; done) | (simp [intOf]; omega)
        · obtain ⟨ad', e', _, f0, f1, f2, f3⟩ := Cons.cells (ha.below hbw) (i := q) (by omega)
          injection e' with e'
          subst e'
          have hqd : (l[q].d == l[q + 1].d) = false := by
            rw [Bool.eq_false_iff]
            intro hc
            exact hsk ⟨by omega, by rw [show dayB l (q + 1) = l[q].d by unfold dayB; simp [show q < l.length by omega]]; simpa using hc⟩
          clear hsk
          have HYS := Lib.hid (refD_yes (ch := changes l rid sp) hlt HNS.out)
          have HNO := Lib.hid (refD_no (ch := changes l rid sp) hlt HNS.out)
          have HCH := Lib.hid (show changes l rid sp l[q + 1].d = !(leastK l rid sp l[q + 1].d == leastK l rid sp (l[q + 1].d - 1)) from rfl)
          have k1 := fun w' h => kl l[q + 1].d w' h
          have k2 := fun w' h => kl (l[q + 1].d - 1) w' h
          have hsz := hbw.size
          have hfl := refD_len l (changes l rid sp) (q + 1)
          clear kl
          generalize leastK l rid sp l[q + 1].d = x at *
          generalize leastK l rid sp (l[q + 1].d - 1) = y at *
          generalize l[q + 1] = ck at *
          generalize l[q] = cq at *
          rcases hxy : (x == y) with _ | _
          · have HV := Lib.hid (HYS.out (by rw [HCH.out, hxy]; rfl))
            clear HYS HNO HCH
            go_wp2_with fail
            refine region_past (by kernel_rfl) (by kernel_rfl) ?_
            repeat (go_big_quiet_step (first | with_reducible exact Calls.past (k1 _ (Below.step hbw (Past.below _))) | with_reducible exact Calls.past (k2 _ (Below.step hbw (Past.below _)))))
            refine wpQuiet_nil ?_
            rintro w1 ⟨⟨_, hb1⟩, rfl⟩
            have O3 := Lib.hid (own_below HO.out hb1)
            have z3 := hb1.size
            have hb2 := Below.step hbw hb1
            have bl' : w.heap.size < w1.heap.size := by omega
            go_wp2_with (at_builtin; refine wpList_append_own _ rfl _ _ 32 rfl (w.heap.size + 1) 3 i0 (.int .i64 0) 1 8 Try.underlying32 hi hz0 hz1 hz2 rfl (by decide) _ _ _ rfl (O3.out.alloc _) ⟨w1.heap.size, 0, none⟩ 1 1 [.int .i64 ck.d] rfl rfl (cell_one_new _ _ _) (fun x hx => by simp at hx; subst hx; rfl) (by unfold maxLen; omega) (by omega) (by simp; omega) ?_; intro v' w4 hown4 hgrow4 _)
            have hb4 : Below w.heap.size w w4 := (hb2.alloc (by omega) _).grown hgrow4 (by simp; omega) (fun g hg => by have := (O3.out.lt g hg).1; omega)
            have keep : ∀ o, w4.cell? ⟨w.heap.size, o, none⟩ = wr.cell? ⟨w.heap.size, o, none⟩ := fun o => ((World.cell?_of_block (hgrow4.block w.heap.size (by simp; omega) (fun e => by have := (O3.out.lt _ e.symm).1; omega))).trans (World.cell?_alloc_lt _ _ _ bl')).trans ((bcell hb1).1 _ o bl)
            have bl4 : w.heap.size < w4.heap.size := Nat.lt_of_lt_of_le (by simp; omega) hgrow4.size
            have c0 := (keep 0).trans b0
            have c1 := (keep 1).trans b1
            have c2 := (keep 2).trans b2
            have c3 := (keep 3).trans b3
            have c4 := (keep 4).trans b4
            have HO4 : Hid (OwnI w4 (w.heap.size + 1) (refD l (changes l rid sp) ((q + 1) + 1)) v') := Lib.hid (by
              rw [HV.out]
              obtain ⟨A5, c5, rfl⟩ := own_form hown4
              exact ⟨A5, c5, by simp, by simpa using hown4⟩)
            clear hown4 hgrow4 keep
            go_wp2
            go_roundw
            case rel => exact ⟨(q + 1) + 1, by omega, by go_num, HO4.out, ⟨c0, c1, c2, c3, c4⟩, bl4, hb4⟩
            case measure => first | (simp [intOf]; done) | (simp [intOf]; omega)
          · have HV := Lib.hid (HNO.out (by rw [HCH.out, hxy]; rfl))
            clear HYS HNO HCH
            go_wp2_with fail
            refine region_past (by kernel_rfl) (by kernel_rfl) ?_
            repeat (go_big_quiet_step (first | with_reducible exact Calls.past (k1 _ (Below.step hbw (Past.below _))) | with_reducible exact Calls.past (k2 _ (Below.step hbw (Past.below _)))))
            refine wpQuiet_nil ?_
            rintro w1 ⟨⟨_, hb1⟩, rfl⟩
            have hb2 := Below.step hbw hb1
            have z3 := hb1.size
            have keep : ∀ o, w1.cell? ⟨w.heap.size, o, none⟩ = wr.cell? ⟨w.heap.size, o, none⟩ := fun o => (bcell hb1).1 _ o bl
            have c0 := (keep 0).trans b0
            have c1 := (keep 1).trans b1
            have c2 := (keep 2).trans b2
            have c3 := (keep 3).trans b3
            have c4 := (keep 4).trans b4
            have HO4 : Hid (OwnI w1 (w.heap.size + 1) (refD l (changes l rid sp) ((q + 1) + 1)) (.slice A' (refD l (changes l rid sp) (q + 1)).length c')) := Lib.hid (by
              rw [HV.out]
              exact ⟨A', c', rfl, own_below HO.out hb1⟩)
            clear keep
            go_wp2
            go_roundw
            case rel => exact ⟨(q + 1) + 1, by omega, by go_num, HO4.out, ⟨c0, c1, c2, c3, c4⟩, by omega, hb2⟩
            case measure => first | (simp [intOf]; done) | (simp [intOf]; omega)
    · go_wp2
      go_ret
      obtain rfl : k = l.length := by omega
      exact RetInts.own (Nat.le_succ _) HO.out hbw
end Go.Proofs.Ythbagggcfdgnfaa
