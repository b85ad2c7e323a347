/- The reference's Open. -/
import Derived.Test.YtefjjjclgcidnaaFrF
namespace Go.Proofs.Ytefjjjclgcidnaa
open Go.RowKit

theorem rtail4 (n : Nat) (hn : n < 4294967296) (w : World) : Calls Try.prog 24 #[.int .i64 (n : Int)] w (fun e w' => ∃ A cap, e = .returned (.slice A 4 cap) ∧ Bytes w' A (tail4 n) ∧ Below w.heap.size w w') := rtail_any n hn w
theorem op_hd {l : List UInt8} {a e : Int} (h : hdE l a = e) (he : e ≠ 0) : opE l a = e := by
  unfold opE
  rw [if_pos (by rw [h]; exact he), h]

set_option maxHeartbeats 1000000 in
theorem ropen_out (l : List UInt8) (A : Option Addr) (cap : Nat) (a : Int) (h : a < 0 ∨ (l.length : Int) < a) (w : World) :
    Calls Try.prog 16 #[.slice A l.length cap, .int .i64 a] w (RetOpen l a w) := by
  have HR := Lib.hid (op_hd (l := l) (a := a) (e := 2) (by unfold hdE; rw [if_pos h]) (by decide))
  by_cases h1 : a < 0
  · have hd : decide (a < 0) = true := by simpa using h1
    go_enter Try.func16, Try.ntmps16
    go_wp2
    (try simp only [Exit.inBlock, Exit.then]); refine bodyPost_ret (results_tmp4 rfl _ _ _) rfl ?_
    exact RetOpen.bad HR.out (by decide) rfl (Below.refl _ _)
  · have hd : decide (a < 0) = false := by simpa using h1
    have h2 : (l.length : Int) < a := by omega
    have hd2 : decide ((l.length : Int) < a) = true := by simpa using h2
    go_enter Try.func16, Try.ntmps16
    go_wp2
    (try simp only [Exit.inBlock, Exit.then]); refine bodyPost_ret (results_tmp4 rfl _ _ _) rfl ?_
    exact RetOpen.bad HR.out (by decide) rfl (Below.refl _ _)

set_option maxHeartbeats 4000000 in
theorem ropen_in (l : List UInt8) (A : Option Addr) (cap : Nat) (hcap : l.length ≤ cap) (a : Nat) (ha : a ≤ l.length) (w : World) (hv : Bytes w A l) (hl : l.length ≤ 90000) :
    Calls Try.prog 16 #[.slice A l.length cap, .int .i64 (a : Int)] w (RetOpen l a w) := by
  have a1 : ¬ ((l.length : Int) < a) := by omega
  have a2 : ¬ ((a : Int) < 0) := by omega
  have a3 : decide ((l.length : Int) < a) = false := by simpa using a1
  have a4 : decide (l.length < a) = false := by simp; omega
  by_cases c1 : a = l.length
  · have q1 : ((a : Int) == (l.length : Int)) = true := by simp; omega
    have q2 : (a == l.length) = true := by simpa using c1
    have HR := Lib.hid (op_hd (l := l) (a := (a : Int)) (e := 4) (by rw [hd_in ha]; unfold hdN; rw [if_pos c1]) (by decide))
    clear c1
    go_enter Try.func16, Try.ntmps16
    go_wp2
    (try simp only [Exit.inBlock, Exit.then]); refine bodyPost_ret (results_tmp4 rfl _ _ _) rfl ?_
    exact RetOpen.bad HR.out (by decide) rfl (Below.refl _ _)
  have ha' : a < l.length := by omega
  have q1 : ((a : Int) == (l.length : Int)) = false := by simp; omega
  have q2 : (a == l.length) = false := by simpa using c1
  have q3 : (a : Int) < (l.length : Int) := by omega
  have q4 : (0 : Int) ≤ (a : Int) := by omega
  obtain ⟨ad, rfl, hb1, hcell1⟩ := hv.at_ ha'
  have hB1 := cB_in ha'
  by_cases c2 : l[a].toNat = 76
  rotate_left
  · have d1 : ((l[a].toNat : Int) != 76) = true := by simp; omega
    have d2 : ((l[a].toNat : Int) == 76) = false := by simp; omega
    have HR := Lib.hid (op_hd (l := l) (a := (a : Int)) (e := 3) (by rw [hd_in ha]; unfold hdN; rw [if_neg c1, if_pos (by rw [hB1]; exact c2)]) (by decide))
    clear c1 c2 hB1
    generalize l[a] = c at *
    go_enter Try.func16, Try.ntmps16
    go_wp2
    (try simp only [Exit.inBlock, Exit.then]); refine bodyPost_ret (results_tmp4 rfl _ _ _) rfl ?_
    exact RetOpen.bad HR.out (by decide) rfl (Below.refl _ _)
  have d1 : ((l[a].toNat : Int) != 76) = false := by simp; omega
  have d2 : ((l[a].toNat : Int) == 76) = true := by simp; omega
  have d3 : (l[a].toNat : Int) = 76 := by omega
  rw [d3] at hcell1
  have B1 := Lib.hid (hB1.trans c2)
  clear c2 hB1 d1 d2 d3
  by_cases c3 : a + 1 = l.length
  · have r1 : ((a : Int) + 1 == (l.length : Int)) = true := by simp; omega
    have HR := Lib.hid (op_hd (l := l) (a := (a : Int)) (e := 4) (by rw [hd_in ha]; unfold hdN; rw [if_neg c1, if_neg (by rw [B1.out]; decide), if_pos c3]) (by decide))
    have c3' : (a : Int) + 1 = (l.length : Int) := by omega
    clear c1 c3 c3'
    go_enter Try.func16, Try.ntmps16
    go_wp2
    (try simp only [Exit.inBlock, Exit.then]); refine bodyPost_ret (results_tmp4 rfl _ _ _) rfl ?_
    exact RetOpen.bad HR.out (by decide) rfl (Below.refl _ _)
  have hb : a + 1 < l.length := by omega
  have r1 : ((a : Int) + 1 == (l.length : Int)) = false := by simp; omega
  have r3 : (a : Int) + 1 < (l.length : Int) := by omega
  have r4 : (0 : Int) ≤ (a : Int) + 1 := by omega
  obtain ⟨ad2, e2, hb2, hcell2⟩ := hv.at_ hb
  injection e2 with e2
  subst e2
  have eA : ad.add (a + 1) = ⟨ad.block, ad.off + (a + 1), none⟩ := by unfold Addr.add; simp
  rw [eA] at hcell2
  have hB2 := cB_in hb
  have hr2 : (l[a + 1].toNat : Int) ≤ 255 := by have := l[a + 1].toNat_lt; omega
  by_cases c4 : l[a + 1].toNat = 0
  · have d1 : ((l[a + 1].toNat : Int) == 0) = true := by simp; omega
    have d3 : (l[a + 1].toNat : Int) = 0 := by omega
    rw [d3] at hcell2
    have HR := Lib.hid (op_hd (l := l) (a := (a : Int)) (e := 3) (by rw [hd_in ha]; unfold hdN; rw [if_neg c1, if_neg (by rw [B1.out]; decide), if_neg c3, if_pos (by rw [hB2]; exact c4)]) (by decide))
    clear c1 c3 c4 hB2 d1 d3
    go_enter Try.func16, Try.ntmps16
    go_wp2
    (try simp only [Exit.inBlock, Exit.then]); refine bodyPost_ret (results_tmp4 rfl _ _ _) rfl ?_
    exact RetOpen.bad HR.out (by decide) rfl (Below.refl _ _)
  have d1 : ((l[a + 1].toNat : Int) == 0) = false := by simp; omega
  have B2 := Lib.hid hB2
  have C4 : ¬ cB l (a + 1) = 0 := by rw [hB2]; exact c4
  have hI := fun w' (h : Below w.heap.size w w') => rint_any l (some ad) cap ((a + 2 : Nat) : Int) ⟨by omega, by omega⟩ w' (hv.below h) (by omega)
  rw [show ((a + 2 : Nat) : Int) = (a : Int) + 2 by omega] at hI
  by_cases c5 : intE l ((a + 2 : Nat) : Int) = 0
  rotate_left
  · have HR := Lib.hid (op_hd (l := l) (a := (a : Int)) (e := intE l ((a + 2 : Nat) : Int)) (by rw [hd_in ha]; unfold hdN; rw [if_neg c1, if_neg (by rw [B1.out]; decide), if_neg c3, if_neg C4, if_pos c5]) c5)
    have HE5 := Lib.hid c5
    rw [show ((a + 2 : Nat) : Int) = (a : Int) + 2 by omega] at HR c5 HE5
    have f1 : (intE l ((a : Int) + 2) == 0) = false := by simpa using c5
    have f2 : (intE l ((a : Int) + 2) != 0) = true := by simpa using c5
    have f3 : decide (intE l ((a : Int) + 2) = 0) = false := by simpa using c5
    clear c1 c3 c4 hB2 C4
    generalize intE l ((a : Int) + 2) = E at *
    generalize intN l ((a : Int) + 2) = N at *
    generalize intTo l ((a : Int) + 2) = T at *
    generalize l[a + 1] = c at *
    go_enter Try.func16, Try.ntmps16
    go_wp2_with fail
    refine (hI _ (Below.refl _ _)).mono ?_
    rintro e w1 ⟨rfl, h1⟩
    clear hI
    go_wp2
    (try simp only [Exit.inBlock, Exit.then]); refine bodyPost_ret (results_tmp4 rfl _ _ _) rfl ?_
    exact RetOpen.bad HR.out HE5.out rfl h1
  have hbd := int_bd c5
  have c5' : intE l ((a : Int) + 2) = 0 := by rw [← c5]; rfl
  rw [c5'] at hI
  by_cases c6 : intN l ((a + 2 : Nat) : Int) < 0 ∨ 1048576 < intN l ((a + 2 : Nat) : Int)
  · have HR := Lib.hid (op_hd (l := l) (a := (a : Int)) (e := 3) (by rw [hd_in ha]; unfold hdN; rw [if_neg c1, if_neg (by rw [B1.out]; decide), if_neg c3, if_neg C4, if_neg (by rw [c5]; decide), if_pos c6]) (by decide))
    rw [show ((a + 2 : Nat) : Int) = (a : Int) + 2 by omega] at c6
    clear c1 c3 c4 hB2 C4 c5 c5' hbd
    by_cases c7 : intN l ((a : Int) + 2) < 0
    · have f1 : decide (intN l ((a : Int) + 2) < 0) = true := by simpa using c7
      clear c6
      generalize intN l ((a : Int) + 2) = N at *
      generalize intTo l ((a : Int) + 2) = T at *
      generalize l[a + 1] = c at *
      go_enter Try.func16, Try.ntmps16
      go_wp2_with fail
      refine (hI _ (Below.refl _ _)).mono ?_
      rintro e w1 ⟨rfl, h1⟩
      clear hI
      go_wp2
      (try simp only [Exit.inBlock, Exit.then]); refine bodyPost_ret (results_tmp4 rfl _ _ _) rfl ?_
      exact RetOpen.bad HR.out (by decide) rfl h1
    · have f1 : decide (intN l ((a : Int) + 2) < 0) = false := by simpa using c7
      have c8 : 1048576 < intN l ((a : Int) + 2) := by omega
      have f2 : decide (1048576 < intN l ((a : Int) + 2)) = true := by simpa using c8
      clear c6
      generalize intN l ((a : Int) + 2) = N at *
      generalize intTo l ((a : Int) + 2) = T at *
      generalize l[a + 1] = c at *
      go_enter Try.func16, Try.ntmps16
      go_wp2_with fail
      refine (hI _ (Below.refl _ _)).mono ?_
      rintro e w1 ⟨rfl, h1⟩
      clear hI
      go_wp2
      (try simp only [Exit.inBlock, Exit.then]); refine bodyPost_ret (results_tmp4 rfl _ _ _) rfl ?_
      exact RetOpen.bad HR.out (by decide) rfl h1
  have hd0 : hdE l (a : Int) = 0 := by rw [hd_in ha]; unfold hdN; rw [if_neg c1, if_neg (by rw [B1.out]; decide), if_neg c3, if_neg C4, if_neg (by rw [c5]; decide), if_neg c6]
  obtain ⟨x, f, t, hx, hF, hT, g1, g2, g3, g4, g5⟩ := hd_bd hd0
  obtain rfl : a = x := by omega
  obtain ⟨k1, k2, k3, _⟩ := hd_ok hd0
  rw [Int.toNat_natCast] at k1 k2 k3
  have HK1 : Hid (hdK l (a : Int) = (l[a + 1].toNat : Int)) := Lib.hid (by rw [k1, B2.out])
  obtain ⟨N, hN⟩ : ∃ N : Nat, intN l ((a + 2 : Nat) : Int) = (N : Int) := ⟨(intN l ((a + 2 : Nat) : Int)).toNat, by omega⟩
  have hT2 : intTo l ((a + 2 : Nat) : Int) = (f : Int) := by rw [← k2, hF]
  have htN : t = f + N := by rw [hT, hT2, hN] at k3; omega
  rw [show ((a + 2 : Nat) : Int) = (a : Int) + 2 by omega] at hN hT2
  rw [hN, hT2] at hI
  subst htN
  have HF := Lib.hid hF
  have HT := Lib.hid hT
  have HD := Lib.hid hd0
  have z1 : ¬ (N : Int) < 0 := by omega
  have z2 : ¬ (1048576 : Int) < (N : Int) := by omega
  have z3 : decide ((N : Int) < 0) = false := by simp
  have z4 : decide ((1048576 : Int) < (N : Int)) = false := by simp; omega
  clear c1 c3 c4 hB2 C4 c5 c5' hbd c6 B2 hd0 hx hF hT k1 k2 k3 hN hT2 z1
  by_cases c7 : l.length < f + N + 4
  · have HR := Lib.hid (show opE l (a : Int) = 4 by unfold opE; rw [if_neg (by rw [HD.out]; decide), HT.out, if_pos (by omega)])
    have z5 : decide ((l.length : Int) - (f : Int) < (N : Int) + 4) = true := by simp; omega
    have z6 : (l.length : Int) - (f : Int) < (N : Int) + 4 := by omega
    clear c7
    generalize l[a + 1] = c at *
    go_enter Try.func16, Try.ntmps16
    go_wp2_with fail
    refine (hI _ (Below.refl _ _)).mono ?_
    rintro e w1 ⟨rfl, h1⟩
    clear hI
    go_wp2
    (try simp only [Exit.inBlock, Exit.then]); refine bodyPost_ret (results_tmp4 rfl _ _ _) rfl ?_
    exact RetOpen.bad HR.out (by decide) rfl h1
  have z5 : decide ((l.length : Int) - (f : Int) < (N : Int) + 4) = false := by simp; omega
  have z6 : ¬ (l.length : Int) - (f : Int) < (N : Int) + 4 := by omega
  obtain ⟨t, ht⟩ : ∃ t, f + N = t := ⟨_, rfl⟩
  rw [ht] at HT g2 g4 c7
  have ht' : (f : Int) + (N : Int) = (t : Int) := by omega
  have e2 : (t : Int) ≤ (cap : Int) := by omega
  have e4 : (t : Int) ≤ (t : Int) + 4 := by omega
  have e5 : (t : Int) + 4 ≤ (cap : Int) := by omega
  have e6 : (0 : Int) ≤ (t : Int) := by omega
  have hw4 : IntKind.i64.wrap ((t : Int) + 4) = (t : Int) + 4 := by rw [IntKind.wrap_i64]; omega
  have e61 : (a : Int) ≤ (t : Int) := by omega
  have e62 : (f : Int) ≤ (t : Int) := by omega
  have e63 : (0 : Int) ≤ (f : Int) := by omega
  have e7 : a ≤ t := by omega
  have e8 : t ≤ cap := by omega
  have e9 : ¬ cap ≤ a := by omega
  have e10 : ¬ cap ≤ t := by omega
  have e11 : ¬ cap - a = 0 := by omega
  have e12 : ¬ cap - t = 0 := by omega
  have e13 : ¬ cap = t := by omega
  have e15 : ¬ cap = a := by omega
  have e16 : ¬ cap = f := by omega
  have e14 : ((t : Int) + 4).toNat - t = 4 := by omega
  have hlm : ((l.drop a).take (t - a)).length = t - a := by rw [List.length_take, List.length_drop]; omega
  have hlq : ((l.drop t).take 4).length = 4 := by rw [List.length_take, List.length_drop]; omega
  have hCh := fun w' (h : Below w.heap.size w w') => rcrc_any ((l.drop a).take (t - a)) (some (ad.add a)) (cap - a) w' ((hv.below h).piece (by omega)) (by unfold maxLen; omega)
  rw [hlm] at hCh
  have HQ := Lib.hid (fun w' (h : Below w.heap.size w w') => (show (convert 22 9 (.slice (some (ad.add t)) 4 (cap - t))).run Try.prog w' = .ok (.string ⟨((l.drop t).take 4).toArray⟩) w' by
    have := run_bytes_string w' (some (ad.add t)) ((l.drop t).take 4) (cap - t) ((hv.below h).piece (i := t) (n := 4) (by omega))
    rw [hlq] at this
    exact this))
  have HPc := Lib.hid (fun w' (h : Below w.heap.size w w') => (hv.below h).piece (i := f) (n := t - f) (by omega))
  have hlc : ((l.drop f).take (t - f)).length = t - f := by rw [List.length_take, List.length_drop]; omega
  have HE : Hid (opE l (a : Int) = if tail4 (crcZ ((l.drop a).take (t - a))) = (l.drop t).take 4 then 0 else 6) := Lib.hid (by
    unfold opE
    rw [if_neg (by rw [HD.out]; decide), HT.out, if_neg (by omega), Int.toNat_natCast, Int.toNat_natCast])
  have hcl := crcZ_lt ((l.drop a).take (t - a))
  have hCh2 : ∀ w', Below w.heap.size w w' → Calls Try.prog 25 #[.slice (some (ad.add a)) (t - a) (cap - a)] w' (Ret (.int .i64 ((crcZ ((l.drop a).take (t - a)) : Nat) : Int)) w') := hCh
  clear hCh hlm
  generalize crcZ ((l.drop a).take (t - a)) = n at *
  have HLC := Lib.hid hlc
  have HHT := Lib.hid ht
  clear hlc hlq ht
  obtain ⟨i0, hi0, hz0, hz1, hz2⟩ := info_parts info_u8
  generalize hcc : l[a + 1] = c at *
  clear hcc
  have HCell := Lib.hid (fun w' (h : Below w.heap.size w w') => (h.cell (p := ⟨ad.block, ad.off + (a + 1), none⟩) hb2).trans hcell2)
  have hw1 : IntKind.i64.wrap ((a : Int) + 1) = (a : Int) + 1 := by rw [IntKind.wrap_i64]; omega
  by_cases c9 : tail4 n = (l.drop t).take 4
  · have HR := Lib.hid (op_ok (by rw [HE.out, if_pos c9]))
    have HEQ := Lib.hid c9
    clear c9
    have HC : Hid ((l.drop f).take (t - f) = opC l (a : Int)) := Lib.hid (by rw [HR.out.2.1, HF.out, HT.out, Int.toNat_natCast, Int.toNat_natCast])
    have HLC2 : Hid ((opC l (a : Int)).length = t - f) := Lib.hid (by rw [← HC.out]; exact HLC.out)
    have HPc2 : Hid (∀ w', Below w.heap.size w w' → Reads w' w'.heap.size 1 (some (ad.add f)) (t - f) (u8s (opC l (a : Int)))) := Lib.hid (fun w' h => by
      have := HPc.out w' h
      unfold Bytes at this
      rw [HLC.out, HC.out] at this
      exact this)
    generalize (l.drop t).take 4 = q at *
    go_enter Try.func16, Try.ntmps16
    go_wp2_with fail
    refine (hI _ (Below.refl _ _)).mono ?_
    rintro e w1 ⟨rfl, h1⟩
    clear hI
    have HW := Lib.hid h1.drew
    have R0 := HQ.out _ HW.out
    go_wp2_with fail
    refine wp_region_held_drew (S := (fun w' => (convert 22 9 (.slice (some (ad.add t)) 4 (cap - t))).run Try.prog w' = .ok (.string ⟨q.toArray⟩) w')) (by kernel_rfl) (by exact R0) (fun hHeld => ?_)
    refine wpAnyH_take (i := 0) (oi := _) (v := ?_) (by simp only [List.getElem?_toArray, List.getElem?_cons_succ, List.getElem?_cons_zero]; rfl) (by kernel_rfl) (by kernel_rfl) (by kernel_rfl) (by intro _ _ _ h; exact h) (Or.inl ⟨by rfl, ?_⟩) (by assumption) ?_
    rotate_left
    · (intro w hSw; (try dsimp only at hSw); go_simp; try with_reducible rfl)
    try simp only [Act.put, List.setIfInBounds_toArray, List.set_cons_zero, List.set_cons_succ]
    refine wpAnyH_take (i := 1) (oi := _) (v := ?_) (by simp only [List.getElem?_toArray, List.getElem?_cons_succ, List.getElem?_cons_zero]; rfl) (by kernel_rfl) (by kernel_rfl) (by kernel_rfl) (by intro _ _ _ h; exact h) (Or.inl ⟨by rfl, ?_⟩) (by assumption) ?_
    rotate_left
    · (intro w hSw; (try dsimp only at hSw); go_simp; try with_reducible rfl)
    try simp only [Act.put, List.setIfInBounds_toArray, List.set_cons_zero, List.set_cons_succ]
    refine wpAnyH_take (i := 2) (oi := _) (v := ?_) (by simp only [List.getElem?_toArray, List.getElem?_cons_succ, List.getElem?_cons_zero]; rfl) (by kernel_rfl) (by kernel_rfl) (by kernel_rfl) (by intro _ _ _ h; exact h) (Or.inl ⟨by rfl, ?_⟩) (by assumption) ?_
    rotate_left
    · (intro w hSw; (try dsimp only at hSw); go_simp; try with_reducible rfl)
    try simp only [Act.put, List.setIfInBounds_toArray, List.set_cons_zero, List.set_cons_succ]
    refine wpAnyH_take (i := 3) (oi := _) (v := ?_) (by simp only [List.getElem?_toArray, List.getElem?_cons_succ, List.getElem?_cons_zero]; rfl) (by kernel_rfl) (by kernel_rfl) (by kernel_rfl) (by intro _ _ _ h; exact h) (Or.inl ⟨by rfl, ?_⟩) (by assumption) ?_
    rotate_left
    · (intro w hSw; (try dsimp only at hSw); go_simp; try with_reducible rfl)
    try simp only [Act.put, List.setIfInBounds_toArray, List.set_cons_zero, List.set_cons_succ]
    refine wpAnyH_take (i := 4) (oi := _) (v := ?_) (by simp only [List.getElem?_toArray, List.getElem?_cons_succ, List.getElem?_cons_zero]; rfl) (by kernel_rfl) (by kernel_rfl) (by kernel_rfl) (by intro _ _ _ h; exact h) (Or.inl ⟨by rfl, ?_⟩) (by assumption) ?_
    rotate_left
    · (intro w hSw; (try dsimp only at hSw); go_simp; try with_reducible rfl)
    try simp only [Act.put, List.setIfInBounds_toArray, List.set_cons_zero, List.set_cons_succ]
    refine wpAnyH_take (i := 5) (oi := _) (v := ?_) (by simp only [List.getElem?_toArray, List.getElem?_cons_succ, List.getElem?_cons_zero]; rfl) (by kernel_rfl) (by kernel_rfl) (by kernel_rfl) (by intro _ _ _ h; exact h) (Or.inl ⟨by rfl, ?_⟩) (by assumption) ?_
    rotate_left
    · (intro w hSw; (try dsimp only at hSw); go_simp; try with_reducible rfl)
    try simp only [Act.put, List.setIfInBounds_toArray, List.set_cons_zero, List.set_cons_succ]
    refine wpAnyH_take (i := 6) (oi := _) (v := ?_) (by simp only [List.getElem?_toArray, List.getElem?_cons_succ, List.getElem?_cons_zero]; rfl) (by kernel_rfl) (by kernel_rfl) (by kernel_rfl) (by intro _ _ _ h; exact h) (Or.inl ⟨by rfl, ?_⟩) (by assumption) ?_
    rotate_left
    · (intro w hSw; (try dsimp only at hSw); go_simp; try with_reducible rfl)
    try simp only [Act.put, List.setIfInBounds_toArray, List.set_cons_zero, List.set_cons_succ]
    refine wpAnyH_take (i := 7) (oi := _) (v := ?_) (by simp only [List.getElem?_toArray, List.getElem?_cons_succ, List.getElem?_cons_zero]; rfl) (by kernel_rfl) (by kernel_rfl) (by kernel_rfl) (by intro _ _ _ h; exact h) (Or.inl ⟨by rfl, ?_⟩) (by assumption) ?_
    rotate_left
    · (intro w hSw; (try dsimp only at hSw); go_simp; try with_reducible rfl)
    try simp only [Act.put, List.setIfInBounds_toArray, List.set_cons_zero, List.set_cons_succ]
    refine wpAnyH_take (i := 8) (oi := _) (v := ?_) (by simp only [List.getElem?_toArray, List.getElem?_cons_succ, List.getElem?_cons_zero]; rfl) (by kernel_rfl) (by kernel_rfl) (by kernel_rfl) (by intro _ _ _ h; exact h) (Or.inl ⟨by rfl, ?_⟩) (by assumption) ?_
    rotate_left
    · (intro w hSw; (try dsimp only at hSw); go_simp; try with_reducible rfl)
    try simp only [Act.put, List.setIfInBounds_toArray, List.set_cons_zero, List.set_cons_succ]
    refine wpAnyH_take (i := 9) (oi := _) (v := ?_) (by simp only [List.getElem?_toArray, List.getElem?_cons_succ, List.getElem?_cons_zero]; rfl) (by kernel_rfl) (by kernel_rfl) (by kernel_rfl) (by intro _ _ _ h; exact h) (Or.inl ⟨by rfl, ?_⟩) (by assumption) ?_
    rotate_left
    · (intro w hSw; (try dsimp only at hSw); go_simp; try with_reducible rfl)
    try simp only [Act.put, List.setIfInBounds_toArray, List.set_cons_zero, List.set_cons_succ]
    refine wpAnyH_ready (rs := [10]) (by kernel_rfl) (by simp) ?_
    refine AllReadyH.cons (o := _) (by simp only [List.getElem?_toArray, List.getElem?_cons_succ, List.getElem?_cons_zero]; rfl) (fun K hK => ?_) AllReadyH.nil
    go_simp
    refine (hCh2 _ HW.out).mono ?_
    rintro e w3 ⟨rfl, h3⟩
    have HW := Lib.hid (Below.step HW.out h3)
    have R0 := HQ.out _ HW.out
    refine hK.out _ _ (by exact R0) (fun hHeld2 => ?_)
    clear hHeld hK K
    try simp only [Act.put, List.setIfInBounds_toArray, List.set_cons_zero, List.set_cons_succ]
    have hHeld := hHeld2
    clear hHeld2
    refine wpAnyH_ready (rs := [11]) (by kernel_rfl) (by simp) ?_
    refine AllReadyH.cons (o := _) (by simp only [List.getElem?_toArray, List.getElem?_cons_succ, List.getElem?_cons_zero]; rfl) (fun K hK => ?_) AllReadyH.nil
    go_simp
    refine (rtail4 n hcl _).mono ?_
    rintro e w5 ⟨A5, k5, rfl, y5, h5⟩
    have HW := Lib.hid (Below.step HW.out h5)
    have R0 := HQ.out _ HW.out
    have V5 := run_bytes_string w5 A5 (tail4 n) k5 y5
    rw [tail4_len] at V5
    rw [HEQ.out] at V5
    refine hK.out _ _ (by exact R0) (fun hHeld2 => ?_)
    clear hHeld hK K
    try simp only [Act.put, List.setIfInBounds_toArray, List.set_cons_zero, List.set_cons_succ]
    refine wpAnyH_mono (S' := (fun w' => (convert 22 9 (.slice A5 4 k5)).run Try.prog w' = .ok (.string ⟨q.toArray⟩) w' ∧ (convert 22 9 (.slice (some (ad.add t)) 4 (cap - t))).run Try.prog w' = .ok (.string ⟨q.toArray⟩) w')) (by exact fun _ h => h.2) _ _ _ _ ?_
    have hHeld : ((fun w' => (convert 22 9 (.slice A5 4 k5)).run Try.prog w' = .ok (.string ⟨q.toArray⟩) w' ∧ (convert 22 9 (.slice (some (ad.add t)) 4 (cap - t))).run Try.prog w' = .ok (.string ⟨q.toArray⟩) w')) _ := ⟨V5, R0⟩
    clear hHeld2
    refine wpAnyH_take (i := 12) (oi := _) (v := ?_) (by simp only [List.getElem?_toArray, List.getElem?_cons_succ, List.getElem?_cons_zero]; rfl) (by kernel_rfl) (by kernel_rfl) (by kernel_rfl) (by intro _ _ _ h; exact h) (Or.inl ⟨by rfl, ?_⟩) (by assumption) ?_
    rotate_left
    · (intro w hSw; (try dsimp only at hSw); go_simp; try with_reducible rfl)
    try simp only [Act.put, List.setIfInBounds_toArray, List.set_cons_zero, List.set_cons_succ]
    refine wpAnyH_take (i := 13) (oi := _) (v := ?_) (by simp only [List.getElem?_toArray, List.getElem?_cons_succ, List.getElem?_cons_zero]; rfl) (by kernel_rfl) (by kernel_rfl) (by kernel_rfl) (by intro _ _ _ h; exact h) (Or.inl ⟨by rfl, ?_⟩) (by assumption) ?_
    rotate_left
    · (intro w hSw; (try dsimp only at hSw); go_simp; try with_reducible rfl)
    try simp only [Act.put, List.setIfInBounds_toArray, List.set_cons_zero, List.set_cons_succ]
    refine wpAnyH_done (by kernel_rfl) ?_ _
    have hcD := HCell.out _ HW.out.drew
    have hwc : IntKind.i64.wrap (c.toNat : Int) = (c.toNat : Int) := by rw [IntKind.wrap_i64]; have := c.toNat_lt; omega
    have HA6 : Hid (Below w.heap.size w (w5.alloc (.cells #[] 5)).drew) := Lib.hid (HW.out.alloc HW.out.size _).drew
    have hcA := HCell.out _ HA6.out
    have hPD := Lib.hid (HPc2.out _ HW.out)
    go_wp2_with fail
    go_region_held3 (fun w' => w'.cell? ⟨ad.block, ad.off + (a + 1), none⟩ = some (.int .u8 (c.toNat : Int)))
      (first | assumption | go_keep)
      (first | (refine step_append_any _ rfl (.tmp 87) (.tmp 91) _ rfl w5.heap.size 5 i0 _ 1 1 Try.underlying22 hi0 hz0 hz1 hz2 rfl (by omega) _ 0 [] rfl (own_empty w5 _) w5.heap.size (some (ad.add f)) (t - f) (cap - f) _ rfl (Reads.drew (Reads.alloc hPD.out (Nat.le_refl _) _)) (one_u8 _) (by simp only [maxLen]; omega) (by omega) (by simp) ?_; intro v6 w6 hown6 hg6 hat6; obtain ⟨A6, c6, rfl⟩ := own_form hown6; have HB6 : Hid (Below w.heap.size w w6) := Lib.hid (HA6.out.grown hg6 (by have := HW.out.size; simp; omega) (fun k hk => by have h : some w5.heap.size = some k := hk; injection h with h; have := HW.out.size; omega)); have hcE := HCell.out _ HB6.out; have Y6 := Lib.hid hown6; clear hown6 hg6 hat6))
    go_wp2
    (try simp only [Exit.inBlock, Exit.then]); refine bodyPost_ret (results_tmp4 rfl _ _ _) rfl ?_
    have hy := Bytes.of_own (l := opC l (a : Int)) (n := 0 + (t - f)) (by rw [HLC2.out]; omega) (by simpa [u8s] using Y6.out)
    exact ⟨A6, c6, by rw [HR.out.1, HR.out.2.2.1, HR.out.2.2.2, HT.out, HK1.out, HLC2.out, Nat.zero_add]; rfl, hy, HB6.out⟩
  · have HR := Lib.hid (show opE l (a : Int) = 6 by rw [HE.out, if_neg c9])
    have c10 : ¬ (l.drop t).take 4 = tail4 n := fun h => c9 h.symm
    clear c9
    generalize (l.drop t).take 4 = q at *
    generalize htl : tail4 n = tl at *
    have HTL := Lib.hid htl
    clear htl
    have c11 : (q == tl) = false := by simpa using c10
    have c12 : (q != tl) = true := by simpa using c10
    go_enter Try.func16, Try.ntmps16
    go_wp2_with fail
    refine (hI _ (Below.refl _ _)).mono ?_
    rintro e w1 ⟨rfl, h1⟩
    clear hI
    have HW := Lib.hid h1.drew
    have R0 := HQ.out _ HW.out
    go_wp2_with fail
    refine wp_region_held_drew (S := (fun w' => (convert 22 9 (.slice (some (ad.add t)) 4 (cap - t))).run Try.prog w' = .ok (.string ⟨q.toArray⟩) w')) (by kernel_rfl) (by exact R0) (fun hHeld => ?_)
    refine wpAnyH_take (i := 0) (oi := _) (v := ?_) (by simp only [List.getElem?_toArray, List.getElem?_cons_succ, List.getElem?_cons_zero]; rfl) (by kernel_rfl) (by kernel_rfl) (by kernel_rfl) (by intro _ _ _ h; exact h) (Or.inl ⟨by rfl, ?_⟩) (by assumption) ?_
    rotate_left
    · (intro w hSw; (try dsimp only at hSw); go_simp; try with_reducible rfl)
    try simp only [Act.put, List.setIfInBounds_toArray, List.set_cons_zero, List.set_cons_succ]
    refine wpAnyH_take (i := 1) (oi := _) (v := ?_) (by simp only [List.getElem?_toArray, List.getElem?_cons_succ, List.getElem?_cons_zero]; rfl) (by kernel_rfl) (by kernel_rfl) (by kernel_rfl) (by intro _ _ _ h; exact h) (Or.inl ⟨by rfl, ?_⟩) (by assumption) ?_
    rotate_left
    · (intro w hSw; (try dsimp only at hSw); go_simp; try with_reducible rfl)
    try simp only [Act.put, List.setIfInBounds_toArray, List.set_cons_zero, List.set_cons_succ]
    refine wpAnyH_take (i := 2) (oi := _) (v := ?_) (by simp only [List.getElem?_toArray, List.getElem?_cons_succ, List.getElem?_cons_zero]; rfl) (by kernel_rfl) (by kernel_rfl) (by kernel_rfl) (by intro _ _ _ h; exact h) (Or.inl ⟨by rfl, ?_⟩) (by assumption) ?_
    rotate_left
    · (intro w hSw; (try dsimp only at hSw); go_simp; try with_reducible rfl)
    try simp only [Act.put, List.setIfInBounds_toArray, List.set_cons_zero, List.set_cons_succ]
    refine wpAnyH_take (i := 3) (oi := _) (v := ?_) (by simp only [List.getElem?_toArray, List.getElem?_cons_succ, List.getElem?_cons_zero]; rfl) (by kernel_rfl) (by kernel_rfl) (by kernel_rfl) (by intro _ _ _ h; exact h) (Or.inl ⟨by rfl, ?_⟩) (by assumption) ?_
    rotate_left
    · (intro w hSw; (try dsimp only at hSw); go_simp; try with_reducible rfl)
    try simp only [Act.put, List.setIfInBounds_toArray, List.set_cons_zero, List.set_cons_succ]
    refine wpAnyH_take (i := 4) (oi := _) (v := ?_) (by simp only [List.getElem?_toArray, List.getElem?_cons_succ, List.getElem?_cons_zero]; rfl) (by kernel_rfl) (by kernel_rfl) (by kernel_rfl) (by intro _ _ _ h; exact h) (Or.inl ⟨by rfl, ?_⟩) (by assumption) ?_
    rotate_left
    · (intro w hSw; (try dsimp only at hSw); go_simp; try with_reducible rfl)
    try simp only [Act.put, List.setIfInBounds_toArray, List.set_cons_zero, List.set_cons_succ]
    refine wpAnyH_take (i := 5) (oi := _) (v := ?_) (by simp only [List.getElem?_toArray, List.getElem?_cons_succ, List.getElem?_cons_zero]; rfl) (by kernel_rfl) (by kernel_rfl) (by kernel_rfl) (by intro _ _ _ h; exact h) (Or.inl ⟨by rfl, ?_⟩) (by assumption) ?_
    rotate_left
    · (intro w hSw; (try dsimp only at hSw); go_simp; try with_reducible rfl)
    try simp only [Act.put, List.setIfInBounds_toArray, List.set_cons_zero, List.set_cons_succ]
    refine wpAnyH_take (i := 6) (oi := _) (v := ?_) (by simp only [List.getElem?_toArray, List.getElem?_cons_succ, List.getElem?_cons_zero]; rfl) (by kernel_rfl) (by kernel_rfl) (by kernel_rfl) (by intro _ _ _ h; exact h) (Or.inl ⟨by rfl, ?_⟩) (by assumption) ?_
    rotate_left
    · (intro w hSw; (try dsimp only at hSw); go_simp; try with_reducible rfl)
    try simp only [Act.put, List.setIfInBounds_toArray, List.set_cons_zero, List.set_cons_succ]
    refine wpAnyH_take (i := 7) (oi := _) (v := ?_) (by simp only [List.getElem?_toArray, List.getElem?_cons_succ, List.getElem?_cons_zero]; rfl) (by kernel_rfl) (by kernel_rfl) (by kernel_rfl) (by intro _ _ _ h; exact h) (Or.inl ⟨by rfl, ?_⟩) (by assumption) ?_
    rotate_left
    · (intro w hSw; (try dsimp only at hSw); go_simp; try with_reducible rfl)
    try simp only [Act.put, List.setIfInBounds_toArray, List.set_cons_zero, List.set_cons_succ]
    refine wpAnyH_take (i := 8) (oi := _) (v := ?_) (by simp only [List.getElem?_toArray, List.getElem?_cons_succ, List.getElem?_cons_zero]; rfl) (by kernel_rfl) (by kernel_rfl) (by kernel_rfl) (by intro _ _ _ h; exact h) (Or.inl ⟨by rfl, ?_⟩) (by assumption) ?_
    rotate_left
    · (intro w hSw; (try dsimp only at hSw); go_simp; try with_reducible rfl)
    try simp only [Act.put, List.setIfInBounds_toArray, List.set_cons_zero, List.set_cons_succ]
    refine wpAnyH_take (i := 9) (oi := _) (v := ?_) (by simp only [List.getElem?_toArray, List.getElem?_cons_succ, List.getElem?_cons_zero]; rfl) (by kernel_rfl) (by kernel_rfl) (by kernel_rfl) (by intro _ _ _ h; exact h) (Or.inl ⟨by rfl, ?_⟩) (by assumption) ?_
    rotate_left
    · (intro w hSw; (try dsimp only at hSw); go_simp; try with_reducible rfl)
    try simp only [Act.put, List.setIfInBounds_toArray, List.set_cons_zero, List.set_cons_succ]
    refine wpAnyH_ready (rs := [10]) (by kernel_rfl) (by simp) ?_
    refine AllReadyH.cons (o := _) (by simp only [List.getElem?_toArray, List.getElem?_cons_succ, List.getElem?_cons_zero]; rfl) (fun K hK => ?_) AllReadyH.nil
    go_simp
    refine (hCh2 _ HW.out).mono ?_
    rintro e w3 ⟨rfl, h3⟩
    have HW := Lib.hid (Below.step HW.out h3)
    have R0 := HQ.out _ HW.out
    refine hK.out _ _ (by exact R0) (fun hHeld2 => ?_)
    clear hHeld hK K
    try simp only [Act.put, List.setIfInBounds_toArray, List.set_cons_zero, List.set_cons_succ]
    have hHeld := hHeld2
    clear hHeld2
    refine wpAnyH_ready (rs := [11]) (by kernel_rfl) (by simp) ?_
    refine AllReadyH.cons (o := _) (by simp only [List.getElem?_toArray, List.getElem?_cons_succ, List.getElem?_cons_zero]; rfl) (fun K hK => ?_) AllReadyH.nil
    go_simp
    refine (rtail4 n hcl _).mono ?_
    rintro e w5 ⟨A5, k5, rfl, y5, h5⟩
    have HW := Lib.hid (Below.step HW.out h5)
    have R0 := HQ.out _ HW.out
    have V5 := run_bytes_string w5 A5 (tail4 n) k5 y5
    rw [tail4_len] at V5
    rw [HTL.out] at V5
    refine hK.out _ _ (by exact R0) (fun hHeld2 => ?_)
    clear hHeld hK K
    try simp only [Act.put, List.setIfInBounds_toArray, List.set_cons_zero, List.set_cons_succ]
    refine wpAnyH_mono (S' := (fun w' => (convert 22 9 (.slice A5 4 k5)).run Try.prog w' = .ok (.string ⟨tl.toArray⟩) w' ∧ (convert 22 9 (.slice (some (ad.add t)) 4 (cap - t))).run Try.prog w' = .ok (.string ⟨q.toArray⟩) w')) (by exact fun _ h => h.2) _ _ _ _ ?_
    have hHeld : ((fun w' => (convert 22 9 (.slice A5 4 k5)).run Try.prog w' = .ok (.string ⟨tl.toArray⟩) w' ∧ (convert 22 9 (.slice (some (ad.add t)) 4 (cap - t))).run Try.prog w' = .ok (.string ⟨q.toArray⟩) w')) _ := ⟨V5, R0⟩
    clear hHeld2
    refine wpAnyH_take (i := 12) (oi := _) (v := ?_) (by simp only [List.getElem?_toArray, List.getElem?_cons_succ, List.getElem?_cons_zero]; rfl) (by kernel_rfl) (by kernel_rfl) (by kernel_rfl) (by intro _ _ _ h; exact h) (Or.inl ⟨by rfl, ?_⟩) (by assumption) ?_
    rotate_left
    · (intro w hSw; (try dsimp only at hSw); go_simp; try with_reducible rfl)
    try simp only [Act.put, List.setIfInBounds_toArray, List.set_cons_zero, List.set_cons_succ]
    refine wpAnyH_take (i := 13) (oi := _) (v := ?_) (by simp only [List.getElem?_toArray, List.getElem?_cons_succ, List.getElem?_cons_zero]; rfl) (by kernel_rfl) (by kernel_rfl) (by kernel_rfl) (by intro _ _ _ h; exact h) (Or.inl ⟨by rfl, ?_⟩) (by assumption) ?_
    rotate_left
    · (intro w hSw; (try dsimp only at hSw); go_simp; try with_reducible rfl)
    try simp only [Act.put, List.setIfInBounds_toArray, List.set_cons_zero, List.set_cons_succ]
    refine wpAnyH_done (by kernel_rfl) ?_ _
    go_wp2
    (try simp only [Exit.inBlock, Exit.then]); refine bodyPost_ret (results_tmp4 rfl _ _ _) rfl ?_
    exact RetOpen.bad HR.out (by decide) rfl HW.out
end Go.Proofs.Ytefjjjclgcidnaa
