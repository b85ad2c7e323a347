/- The laws Days: their walks. -/
import Derived.Test.YthbagggcfdgnfaaCnU
namespace Go.Proofs.Ythbagggcfdgnfaa
open Go.RowKit

theorem days_range {l : List Cn} {ps : List Pn} (hg : ∀ c ∈ l, GoodC ps c) {rid : Int} {sp : List Int} {k : Nat} (hk : k < (daysC l rid sp).length) : 1 ≤ (daysC l rid sp)[k] ∧ (daysC l rid sp)[k] ≤ 109573 := by
  obtain ⟨c, hc, e⟩ := daysC_in (List.getElem_mem hk)
  have := (hg c hc).2.2.1
  omega
theorem days_up {l : List Cn} {rid : Int} {sp : List Int} {k : Nat} (hk : k + 1 < (daysC l rid sp).length) : (daysC l rid sp)[k] < (daysC l rid sp)[k + 1] :=
  List.pairwise_iff_getElem.1 (inc_daysC l rid sp) k (k + 1) (by omega) hk (by omega)
theorem days_facts {ps : List Pn} {l : List Cn} (hg : ∀ c ∈ l, GoodC ps c) (hso : SortedC l) (y z : Int) (sp : List Int) : ∃ (D : List Int) (f : Int → Int) (kd : Nat → Int), daysC l y sp = D ∧ leastK l y sp = f ∧ Hid (kd 0 = 0) ∧
    Hid (∀ k (hk : k < D.length), 1 ≤ D[k] ∧ D[k] ≤ 109573) ∧ Hid (∀ k (hk : k + 1 < D.length), D[k] < D[k + 1]) ∧ Hid (∀ k (hk : k < D.length), f (D[k] - 1) = kd k) ∧ Hid (∀ k (hk : k < D.length), f D[k] ≠ f (D[k] - 1)) ∧
    Hid (∀ k (hk : k < D.length), kd (k + 1) = f D[k]) ∧ Hid (f 109573 = kd D.length) ∧ Hid (D.contains z = !(f z == f (z - 1))) ∧ D.length ≤ l.length :=
  ⟨_, _, kindAt l y sp, rfl, rfl, Lib.hid (kindAt_zero l y sp), Lib.hid (fun _ hk => days_range hg hk), Lib.hid (fun _ hk => days_up hk), Lib.hid (fun _ hk => kind_before hg y sp hk), Lib.hid (fun _ hk => kind_changes hk), Lib.hid (fun _ hk => kindAt_succ hk), Lib.hid (kind_end hg y sp), Lib.hid (has_days l y sp z), daysC_len hso y sp⟩
/-- A cell holds v. -/
def CellI (W : World) (p : Addr) (v : Value) : Prop := p.block < W.heap.size ∧ W.cell? p = some v
theorem CellI.below {W W' : World} {p : Addr} {v : Value} (h : CellI W p v) (hb : Below W.heap.size W W') : CellI W' p v := ⟨Nat.lt_of_lt_of_le h.1 hb.size, (hb.cell h.1).trans h.2⟩
/-- What the walk keeps. -/
def CtxD (w : World) (A : Option Addr) (ps : List Pn) (ca : Nat) (B : Option Addr) (l : List Cn) (cb : Nat) (x y z : Int) (S : Option Addr) (sp : List Int) (rb cs : Nat) (V : Option Addr) (D : List Int) (wr : World) : Prop :=
  AskC wr w.heap.size A ps.length ca B l.length cb x y z ∧ RecC wr rb y [] 0 0 S sp.length cs ∧ Cons wr B l ∧ Ints wr S sp ∧ Ints wr V D ∧ Below w.heap.size w wr
theorem CtxD.below {w : World} {A : Option Addr} {ps : List Pn} {ca : Nat} {B : Option Addr} {l : List Cn} {cb : Nat} {x y z : Int} {S : Option Addr} {sp : List Int} {rb cs : Nat} {V : Option Addr} {D : List Int} {wr wr' : World} (h : CtxD w A ps ca B l cb x y z S sp rb cs V D wr) (hb : Below wr.heap.size wr wr') : CtxD w A ps ca B l cb x y z S sp rb cs V D wr' :=
  ⟨h.1.below hb, h.2.1.below hb, h.2.2.1.below hb, h.2.2.2.1.below hb, h.2.2.2.2.1.below hb, Below.step h.2.2.2.2.2 hb⟩

set_option maxRecDepth 20000 in
set_option maxHeartbeats 4000000 in
theorem days_walk (w : World) (ps : List Pn) (l : List Cn) (A B : Option Addr) (ca cb : Nat) (x y z : Int) (sp : List Int) (S : Option Addr) (cs : Nat) (ha : People w A ps) (hb : Cons w B l) (hs : Ints w S sp) :
    Calls Try.prog 9 #[.agg #[.slice A ps.length ca, .slice B l.length cb, .int .i64 x, .int .i64 y, .int .i64 z], .slice S sp.length cs] w (Ret (.bool true) w) := by
  have k1 := fun w' h1 h2 => right_any ps l A B ca cb w' h1 h2
  rcases hr : (fewB ps l.length && (checkE ps l == 0)) with _ | _
  · rw [hr] at k1
    clear hr
    go_enter Try.func9, Try.ntmps9
    have HA := Lib.hid (AskC.new w A ps ca B l cb x y z 29)
    obtain ⟨za, a0, a1, a2, a3, a4⟩ := HA.out
    have HB : Hid (Below w.heap.size w (w.alloc (.cells #[.slice A ps.length ca, .slice B l.length cb, .int .i64 x, .int .i64 y, .int .i64 z] 29))) := Lib.hid (by repeat (first | assumption | exact Below.refl _ _ | refine Below.alloc ?_ (by first | omega | (simp; done) | (simp; omega)) _ | refine Below.setCell ?_ (by first | omega | (simp; done) | (simp; omega)) _ | refine Below.drew ?_ | refine Below.drewN_ ?_ _ | refine Below.step ?_ (by assumption)))
    have HP := Lib.hid (ha.below HB.out)
    have HL := Lib.hid (hb.below HB.out)
    go_wp2_with fail
    refine (k1 _ HP.out HL.out).mono ?_
    rintro e W1 ⟨rfl, hc⟩
    replace HA := Lib.hid (HA.out.below hc)
    replace HP := Lib.hid (HP.out.below hc)
    replace HL := Lib.hid (HL.out.below hc)
    clear za a0 a1 a2 a3 a4
    obtain ⟨za, a0, a1, a2, a3, a4⟩ := HA.out
    replace HB := Lib.hid (Below.step HB.out hc)
    clear hc
    go_wp2_with fail
    refine (awake_any _).mono ?_
    rintro e W2 ⟨rfl, hc⟩
    replace HA := Lib.hid (HA.out.below hc)
    replace HP := Lib.hid (HP.out.below hc)
    replace HL := Lib.hid (HL.out.below hc)
    clear za a0 a1 a2 a3 a4
    obtain ⟨za, a0, a1, a2, a3, a4⟩ := HA.out
    replace HB := Lib.hid (Below.step HB.out hc)
    clear hc
    go_wp2
    go_ret
    exact Ret.mk rfl HB.out
  · rw [hr] at k1
    obtain ⟨hf, hck⟩ : fewB ps l.length = true ∧ checkE ps l = 0 := by simpa using hr
    have hle := few_le hf
    obtain ⟨hl60, hso, hgo⟩ := right_of hck
    clear hr hf
    rcases Nat.lt_or_ge 50 sp.length with hsl | hsl
    · go_enter Try.func9, Try.ntmps9
      have HA := Lib.hid (AskC.new w A ps ca B l cb x y z 29)
      obtain ⟨za, a0, a1, a2, a3, a4⟩ := HA.out
      have HB : Hid (Below w.heap.size w (w.alloc (.cells #[.slice A ps.length ca, .slice B l.length cb, .int .i64 x, .int .i64 y, .int .i64 z] 29))) := Lib.hid (by repeat (first | assumption | exact Below.refl _ _ | refine Below.alloc ?_ (by first | omega | (simp; done) | (simp; omega)) _ | refine Below.setCell ?_ (by first | omega | (simp; done) | (simp; omega)) _ | refine Below.drew ?_ | refine Below.drewN_ ?_ _ | refine Below.step ?_ (by assumption)))
      have HP := Lib.hid (ha.below HB.out)
      have HL := Lib.hid (hb.below HB.out)
      have HI := Lib.hid (hs.below HB.out)
      go_wp2_with fail
      refine (k1 _ HP.out HL.out).mono ?_
      rintro e W1 ⟨rfl, hc⟩
      replace HA := Lib.hid (HA.out.below hc)
      replace HP := Lib.hid (HP.out.below hc)
      replace HL := Lib.hid (HL.out.below hc)
      replace HI := Lib.hid (HI.out.below hc)
      clear za a0 a1 a2 a3 a4
      obtain ⟨za, a0, a1, a2, a3, a4⟩ := HA.out
      replace HB := Lib.hid (Below.step HB.out hc)
      clear hc
      have h6 : (50 : Int) < (sp.length : Int) := by omega
      go_wp2_with fail
      refine (awake_any _).mono ?_
      rintro e W2 ⟨rfl, hc⟩
      replace HA := Lib.hid (HA.out.below hc)
      replace HP := Lib.hid (HP.out.below hc)
      replace HL := Lib.hid (HL.out.below hc)
      replace HI := Lib.hid (HI.out.below hc)
      clear za a0 a1 a2 a3 a4
      obtain ⟨za, a0, a1, a2, a3, a4⟩ := HA.out
      replace HB := Lib.hid (Below.step HB.out hc)
      clear hc
      go_wp2
      go_ret
      exact Ret.mk rfl HB.out
    · have h6 : ¬ (50 : Int) < (sp.length : Int) := by omega
      have k2 := fun d w' h h2 => least_any l B S cb cs y 0 0 d [] sp w' h h2 (by omega) (by omega)
      have k4 := fun w' h h2 => days_any l B S cb cs y 0 0 [] sp w' h h2 (by omega) (by omega) (fun c hc => (hgo c hc).2.2.1)
      have k5 := fun w' A2 c2 h => rhas_any (daysC l y sp) A2 c2 z w' h (by have := daysC_len hso y sp; omega)
      obtain ⟨D, f, kd, hDD, hff, F0, F1, F2, F3, F4, F5, F6, F7, hD⟩ := days_facts hgo hso y z sp
      simp only [hDD, hff, F7.out] at k2 k4 k5
      clear hDD hff hso hgo
      go_enter Try.func9, Try.ntmps9
      have HA := Lib.hid (AskC.new w A ps ca B l cb x y z 29)
      obtain ⟨za, a0, a1, a2, a3, a4⟩ := HA.out
      have HB : Hid (Below w.heap.size w (w.alloc (.cells #[.slice A ps.length ca, .slice B l.length cb, .int .i64 x, .int .i64 y, .int .i64 z] 29))) := Lib.hid (by repeat (first | assumption | exact Below.refl _ _ | refine Below.alloc ?_ (by first | omega | (simp; done) | (simp; omega)) _ | refine Below.setCell ?_ (by first | omega | (simp; done) | (simp; omega)) _ | refine Below.drew ?_ | refine Below.drewN_ ?_ _ | refine Below.step ?_ (by assumption)))
      have HP := Lib.hid (ha.below HB.out)
      have HL := Lib.hid (hb.below HB.out)
      have HI := Lib.hid (hs.below HB.out)
      go_wp2_with fail
      refine (k1 _ HP.out HL.out).mono ?_
      rintro e W1 ⟨rfl, hc⟩
      replace HA := Lib.hid (HA.out.below hc)
      replace HP := Lib.hid (HP.out.below hc)
      replace HL := Lib.hid (HL.out.below hc)
      replace HI := Lib.hid (HI.out.below hc)
      clear za a0 a1 a2 a3 a4
      obtain ⟨za, a0, a1, a2, a3, a4⟩ := HA.out
      replace HB := Lib.hid (Below.step HB.out hc)
      clear hc
      go_wp2_with fail
      have hc := below_new W1 (.cells #[.int .i64 y, .string ⟨#[]⟩, .int .i64 0, .int .i64 0, .slice S sp.length cs] 34)
      replace HA := Lib.hid (HA.out.below hc)
      replace HP := Lib.hid (HP.out.below hc)
      replace HL := Lib.hid (HL.out.below hc)
      replace HI := Lib.hid (HI.out.below hc)
      clear za a0 a1 a2 a3 a4
      obtain ⟨za, a0, a1, a2, a3, a4⟩ := HA.out
      replace HB := Lib.hid (Below.step HB.out hc)
      clear hc
      have HR := Lib.hid (RecC.new W1 y [] 0 0 S sp cs 34)
      obtain ⟨zr, r0, r1, r2, r3, r4⟩ := HR.out
      refine (k4 _ HL.out HI.out).mono ?_
      rintro e W2 ⟨V, vc, rfl, i2, hc⟩
      replace HA := Lib.hid (HA.out.below hc)
      replace HP := Lib.hid (HP.out.below hc)
      replace HL := Lib.hid (HL.out.below hc)
      replace HI := Lib.hid (HI.out.below hc)
      replace HR := Lib.hid (HR.out.below hc)
      have HV := Lib.hid i2
      clear i2
      clear za a0 a1 a2 a3 a4
      obtain ⟨za, a0, a1, a2, a3, a4⟩ := HA.out
      clear zr r0 r1 r2 r3 r4
      obtain ⟨zr, r0, r1, r2, r3, r4⟩ := HR.out
      replace HB := Lib.hid (Below.step HB.out hc)
      clear hc
      have HX := Lib.hid (show CtxD w A ps ca B l cb x y z S sp W1.heap.size cs V D W2 from ⟨HA.out, HR.out, HL.out, HI.out, HV.out, HB.out⟩)
      clear HA HR HL HI HV HB HP k1 k4 hck
      clear za a0 a1 a2 a3 a4 zr r0 r1 r2 r3 r4
      obtain ⟨⟨za, a0, a1, a2, a3, a4⟩, ⟨zr, r0, r1, r2, r3, r4⟩, hL, hS, hV, hB⟩ := HX.out
      go_wp2
      go_loopw [7, 8] (fun o i wr => ∃ k : Nat, k ≤ D.length ∧ i = .int .i64 (k : Int) ∧ o = .int .i64 (kd k) ∧ CtxD w A ps ca B l cb x y z S sp W1.heap.size cs V D wr) (fun _ i _ => D.length + 1 - (intOf i).toNat)
      case atStart => exact ⟨0, by omega, rfl, by rw [F0.out], HX.out⟩
      case round =>
        clear za a0 a1 a2 a3 a4 zr r0 r1 r2 r3 r4 hL hS hV hB HX
        obtain ⟨k, hk, rfl, rfl, hctx⟩ := hrel
        have HX := Lib.hid hctx
        clear hctx
        obtain ⟨⟨za, a0, a1, a2, a3, a4⟩, ⟨zr, r0, r1, r2, r3, r4⟩, hL, hS, hV, hB⟩ := HX.out
        by_cases hlt : k < D.length
        · have f1 := F1.out k hlt
          have f3 := Lib.hid (F3.out k hlt)
          have f4 := Lib.hid (F4.out k hlt)
          have f5 := Lib.hid (F5.out k hlt)
          have f2 := Lib.hid (fun (h : 0 < k) => F2.out (k - 1) (by omega))
          obtain ⟨ad, rfl, zd, e1⟩ := hV.at_ hlt
          have HD := Lib.hid (show CellI wr (ad.add k) (.int .i64 D[k]) from ⟨by rw [block_of_add]; exact zd, e1⟩)
          rcases k with _ | k
          · rw [show ad.add 0 = ad by unfold Addr.add; simp] at e1 HD
            clear f2
            generalize hd : D[0] = d at *
            clear hd
            obtain ⟨f1a, f1b⟩ := f1
            generalize hK : kd (0) = K at *
            generalize hL2 : f d = L2 at *
            have g3 := f3
            have g4 := Lib.hid hL2
            have f4b : ¬ L2 = K := by have := f4.out; rw [f3.out] at this; exact this
            have hw : IntKind.i64.wrap (d - 1) = d - 1 := by rw [IntKind.wrap_i64]; omega
            clear f3 f4 hK hL2
            have p20 : ∀ a : Past wr, a.val.cell? (ad) = some (.int .i64 d) := fun a => (a.2.cell HD.out.1).trans HD.out.2
            go_wp2
            have f1c : decide (d < 1) = false := by simp; omega
            have f1d : decide (109573 < d) = false := by simp; omega
            refine region_past (by kernel_rfl) (by kernel_rfl) ?_
            repeat (go_big_quiet_step (fail))
            refine wpQuiet_nil ?_
            rintro w1 ⟨⟨_, hb1⟩, rfl⟩
            have HX1 := Lib.hid (HX.out.below hb1)
            have HD1 := Lib.hid (HD.out.below hb1)
            obtain ⟨zd1, e11⟩ := HD1.out
            clear hb1 p20 f1c f1d e1 za a0 a1 a2 a3 a4 zr r0 r1 r2 r3 r4 hL hS hV hB
            obtain ⟨⟨za, a0, a1, a2, a3, a4⟩, ⟨zr, r0, r1, r2, r3, r4⟩, hL, hS, hV, hB⟩ := HX1.out
            have q1 := fun w' (h : Below w1.heap.size w1 w') => k2 (d - 1) w' (hL.below h) (hS.below h)
            have q2 := fun w' (h : Below w1.heap.size w1 w') => k2 d w' (hL.below h) (hS.below h)
            rw [g3.out] at q1
            rw [g4.out] at q2
            go_wp2
            refine region_past (by kernel_rfl) (by kernel_rfl) ?_
            have p20 : ∀ a : Past w1, a.val.cell? (ad) = some (.int .i64 d) := fun a => (a.2.cell (p := ad) zd1).trans e11
            repeat (go_big_quiet_step (first | with_reducible exact Calls.past (q1 _ (Past.below _)) | with_reducible exact Calls.past (q2 _ (Past.below _))))
            refine wpQuiet_nil ?_
            rintro w2 ⟨⟨_, hb2⟩, rfl⟩
            have HX2 := Lib.hid (HX1.out.below hb2)
            have HD2 := Lib.hid (HD1.out.below hb2)
            obtain ⟨zd2, e12⟩ := HD2.out
            clear hb2 p20 e11 q1 q2 za a0 a1 a2 a3 a4 zr r0 r1 r2 r3 r4 hL hS hV hB
            obtain ⟨⟨za, a0, a1, a2, a3, a4⟩, ⟨zr, r0, r1, r2, r3, r4⟩, hL, hS, hV, hB⟩ := HX2.out
            have q2 := fun w' (h : Below w2.heap.size w2 w') => k2 d w' (hL.below h) (hS.below h)
            rw [g4.out] at q2
            go_wp2
            refine region_past (by kernel_rfl) (by kernel_rfl) ?_
            have p20 : ∀ a : Past w2, a.val.cell? (ad) = some (.int .i64 d) := fun a => (a.2.cell (p := ad) zd2).trans e12
            repeat (go_big_quiet_step (with_reducible exact Calls.past (q2 _ (Past.below _))))
            refine wpQuiet_nil ?_
            rintro w3 ⟨⟨_, hb3⟩, rfl⟩
            have HX3 := Lib.hid (HX2.out.below hb3)
            clear hb3 p20 q2
            go_wp2
            go_roundw
            case rel => exact ⟨0 + 1, by omega, by go_num, by rw [f5.out], HX3.out⟩
            case measure => simp [intOf]
          · rw [show ad.add (k + 1) = ⟨ad.block, ad.off + (k + 1), none⟩ by unfold Addr.add; simp] at e1 HD
            have e0 : wr.cell? (ad.add k) = some (.int .i64 D[k]) := by
              obtain ⟨ad2, e2, _, e3⟩ := hV.at_ (show k < D.length by omega)
              injection e2 with e2
              subst e2
              exact e3
            have f2b := F2.out k hlt
            clear f2
            generalize hd : D[k + 1] = d at *
            clear hd
            obtain ⟨f1a, f1b⟩ := f1
            generalize hd : D[k] = d0 at *
            clear hd
            generalize hK : kd (k + 1) = K at *
            generalize hL2 : f d = L2 at *
            have g3 := f3
            have g4 := Lib.hid hL2
            have f4b : ¬ L2 = K := by have := f4.out; rw [f3.out] at this; exact this
            have hw : IntKind.i64.wrap (d - 1) = d - 1 := by rw [IntKind.wrap_i64]; omega
            clear f3 f4 hK hL2
            have p20 : ∀ a : Past wr, a.val.cell? (⟨ad.block, ad.off + (k + 1), none⟩) = some (.int .i64 d) := fun a => (a.2.cell HD.out.1).trans HD.out.2
            have p21 : ∀ a : Past wr, a.val.cell? (ad.add k) = some (.int .i64 d0) := fun a => (a.2.cell (by rw [block_of_add]; exact zd)).trans e0
            go_wp2
            have f1c : decide (d < 1) = false := by simp; omega
            have f1d : decide (109573 < d) = false := by simp; omega
            have f2c : decide (d ≤ d0) = false := by simp; omega
            refine region_past (by kernel_rfl) (by kernel_rfl) ?_
            repeat (go_big_quiet_step (fail))
            refine wpQuiet_nil ?_
            rintro w1 ⟨⟨_, hb1⟩, rfl⟩
            have HX1 := Lib.hid (HX.out.below hb1)
            have HD1 := Lib.hid (HD.out.below hb1)
            obtain ⟨zd1, e11⟩ := HD1.out
            clear hb1 p20 f1c f1d e1 e0 p21 f2c za a0 a1 a2 a3 a4 zr r0 r1 r2 r3 r4 hL hS hV hB
            obtain ⟨⟨za, a0, a1, a2, a3, a4⟩, ⟨zr, r0, r1, r2, r3, r4⟩, hL, hS, hV, hB⟩ := HX1.out
            have q1 := fun w' (h : Below w1.heap.size w1 w') => k2 (d - 1) w' (hL.below h) (hS.below h)
            have q2 := fun w' (h : Below w1.heap.size w1 w') => k2 d w' (hL.below h) (hS.below h)
            rw [g3.out] at q1
            rw [g4.out] at q2
            go_wp2
            refine region_past (by kernel_rfl) (by kernel_rfl) ?_
            have p20 : ∀ a : Past w1, a.val.cell? (⟨ad.block, ad.off + (k + 1), none⟩) = some (.int .i64 d) := fun a => (a.2.cell (p := ⟨ad.block, ad.off + (k + 1), none⟩) zd1).trans e11
            repeat (go_big_quiet_step (first | with_reducible exact Calls.past (q1 _ (Past.below _)) | with_reducible exact Calls.past (q2 _ (Past.below _))))
            refine wpQuiet_nil ?_
            rintro w2 ⟨⟨_, hb2⟩, rfl⟩
            have HX2 := Lib.hid (HX1.out.below hb2)
            have HD2 := Lib.hid (HD1.out.below hb2)
            obtain ⟨zd2, e12⟩ := HD2.out
            clear hb2 p20 e11 q1 q2 za a0 a1 a2 a3 a4 zr r0 r1 r2 r3 r4 hL hS hV hB
            obtain ⟨⟨za, a0, a1, a2, a3, a4⟩, ⟨zr, r0, r1, r2, r3, r4⟩, hL, hS, hV, hB⟩ := HX2.out
            have q2 := fun w' (h : Below w2.heap.size w2 w') => k2 d w' (hL.below h) (hS.below h)
            rw [g4.out] at q2
            go_wp2
            refine region_past (by kernel_rfl) (by kernel_rfl) ?_
            have p20 : ∀ a : Past w2, a.val.cell? (⟨ad.block, ad.off + (k + 1), none⟩) = some (.int .i64 d) := fun a => (a.2.cell (p := ⟨ad.block, ad.off + (k + 1), none⟩) zd2).trans e12
            repeat (go_big_quiet_step (with_reducible exact Calls.past (q2 _ (Past.below _))))
            refine wpQuiet_nil ?_
            rintro w3 ⟨⟨_, hb3⟩, rfl⟩
            have HX3 := Lib.hid (HX2.out.below hb3)
            clear hb3 p20 q2
            go_wp2
            go_roundw
            case rel => exact ⟨k + 1 + 1, by omega, by go_num, by rw [f5.out], HX3.out⟩
            case measure => simp [intOf]; omega
        · obtain rfl : k = D.length := by omega
          have q1 := k2 109573
          rw [F6.out] at q1
          generalize kd D.length = K at *
          go_wp2_with fail
          refine (q1 _ hL hS).mono ?_
          rintro e W3 ⟨rfl, hc⟩
          have HX3 := Lib.hid (HX.out.below hc)
          clear hc q1 HX za a0 a1 a2 a3 a4 zr r0 r1 r2 r3 r4 hL hS hV hB
          obtain ⟨⟨za, a0, a1, a2, a3, a4⟩, ⟨zr, r0, r1, r2, r3, r4⟩, hL, hS, hV, hB⟩ := HX3.out
          have hbad : z < 1 ∨ (¬ z < 1 ∧ 109573 < z) ∨ (1 ≤ z ∧ z ≤ 109573) := by omega
          rcases hbad with h7 | ⟨h7, h8⟩ | ⟨h7, h8⟩
          · go_wp2_with fail
            refine (awake_any _).mono ?_
            rintro e W4 ⟨rfl, hc⟩
            have HE := Lib.hid (Below.step hB hc)
            clear hc
            go_wp2
            go_ret
            exact Ret.mk rfl HE.out
          · go_wp2_with fail
            refine (awake_any _).mono ?_
            rintro e W4 ⟨rfl, hc⟩
            have HE := Lib.hid (Below.step hB hc)
            clear hc
            go_wp2
            go_ret
            exact Ret.mk rfl HE.out
          · have h9 : ¬ z < 1 := by omega
            have h10 : ¬ 109573 < z := by omega
            have hw : IntKind.i64.wrap (z - 1) = z - 1 := by rw [IntKind.wrap_i64]; omega
            have q2 := fun w' (h : Below W3.heap.size W3 w') => k2 z w' (hL.below h) (hS.below h)
            have q3 := fun w' (h : Below W3.heap.size W3 w') => k2 (z - 1) w' (hL.below h) (hS.below h)
            have q4 := fun w' (h : Below W3.heap.size W3 w') => k5 w' V vc (hV.below h)
            clear k2 k5 F7
            generalize f z = U at *
            generalize f (z - 1) = U2 at *
            rcases hb : (U == U2) with _ | _
            · rw [hb] at q4
              rw [show (!false) = true from rfl] at q4
              go_wp2
              refine region_past (by kernel_rfl) (by kernel_rfl) ?_
              repeat (go_big_quiet_step (first | with_reducible exact Calls.past (q2 _ (Past.below _)) | with_reducible exact Calls.past (q3 _ (Past.below _)) | with_reducible exact Calls.past (q4 _ (Past.below _)) | with_reducible exact Calls.past (awake_any _)))
              refine wpQuiet_nil ?_
              rintro w4 ⟨⟨_, hb4⟩, rfl⟩
              have HE := Lib.hid (Below.step hB hb4)
              go_wp2
              go_ret
              exact Ret.mk rfl HE.out
            · rw [hb] at q4
              rw [show (!true) = false from rfl] at q4
              go_wp2
              refine region_past (by kernel_rfl) (by kernel_rfl) ?_
              repeat (go_big_quiet_step (first | with_reducible exact Calls.past (q2 _ (Past.below _)) | with_reducible exact Calls.past (q3 _ (Past.below _)) | with_reducible exact Calls.past (q4 _ (Past.below _)) | with_reducible exact Calls.past (awake_any _)))
              refine wpQuiet_nil ?_
              rintro w4 ⟨⟨_, hb4⟩, rfl⟩
              have HE := Lib.hid (Below.step hB hb4)
              go_wp2
              go_ret
              exact Ret.mk rfl HE.out

end Go.Proofs.Ythbagggcfdgnfaa
