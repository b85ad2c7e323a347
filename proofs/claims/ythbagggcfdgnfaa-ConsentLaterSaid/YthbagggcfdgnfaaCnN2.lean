/- The laws Give: their walks. -/
import Derived.Test.YthbagggcfdgnfaaCnU
namespace Go.Proofs.Ythbagggcfdgnfaa
open Go.RowKit

set_option maxRecDepth 20000 in
set_option maxHeartbeats 4000000 in
theorem give_walk (w : World) (ps : List Pn) (l : List Cn) (A B : Option Addr) (ca cb : Nat) (c : Cn) (ha : People w A ps) (hb : Cons w B l) (hcap : l.length ≤ cb) :
    Calls Try.prog 6 #[.slice A ps.length ca, .slice B l.length cb, .agg #[.int .i64 c.p, .int .i64 c.r, .int .i64 c.d, .int .i64 c.k]] w (Ret (.bool true) w) := by
  have k1 := fun w' h1 h2 => right_any ps l A B ca cb w' h1 h2
  rcases hr : (fewB ps l.length && (checkE ps l == 0)) with _ | _
  · rw [hr] at k1
    clear hr
    go_enter Try.func6, Try.ntmps6
    have HC := Lib.hid (FourC.new w c 40)
    obtain ⟨zc, c0, c1, c2, c3⟩ := HC.out
    have HB : Hid (Below w.heap.size w (w.alloc (.cells #[.int .i64 c.p, .int .i64 c.r, .int .i64 c.d, .int .i64 c.k] 40))) := Lib.hid (by repeat (first | assumption | exact Below.refl _ _ | refine Below.alloc ?_ (by first | omega | (simp; done) | (simp; omega)) _ | refine Below.setCell ?_ (by first | omega | (simp; done) | (simp; omega)) _ | refine Below.drew ?_ | refine Below.drewN_ ?_ _ | refine Below.step ?_ (by assumption)))
    have HP := Lib.hid (ha.below HB.out)
    have HL := Lib.hid (hb.below HB.out)
    go_wp2_with fail
    refine (k1 _ HP.out HL.out).mono ?_
    rintro e W1 ⟨rfl, hc⟩
    replace HC := Lib.hid (HC.out.below hc)
    replace HP := Lib.hid (HP.out.below hc)
    replace HL := Lib.hid (HL.out.below hc)
    clear zc c0 c1 c2 c3
    obtain ⟨zc, c0, c1, c2, c3⟩ := HC.out
    replace HB := Lib.hid (Below.step HB.out hc)
    clear hc
    go_wp2_with fail
    refine (awake_any _).mono ?_
    rintro e W2 ⟨rfl, hc⟩
    replace HC := Lib.hid (HC.out.below hc)
    replace HP := Lib.hid (HP.out.below hc)
    replace HL := Lib.hid (HL.out.below hc)
    clear zc c0 c1 c2 c3
    obtain ⟨zc, c0, c1, c2, c3⟩ := HC.out
    replace HB := Lib.hid (Below.step HB.out hc)
    clear hc
    go_wp2
    go_ret
    exact Ret.mk rfl HB.out
  · rw [hr] at k1
    obtain ⟨hf, hck⟩ : fewB ps l.length = true ∧ checkE ps l = 0 := by simpa using hr
    have hle := few_le hf
    obtain ⟨hl60, hso, hgo⟩ := right_of hck
    clear hr hf
    have k2 := fun w' h => give_any l B cb c w' h (by omega) hcap
    have k3 := fun w' h => rgive_any l B cb c w' h (by omega) hcap
    have hM : (giveL l c).length ≤ 100000 := by rw [giveL_length]; omega
    have hG := Lib.hid (fun h1 h2 => check_give (ps := ps) (l := l) (c := c) hck h1 h2)
    have k4 := fun A2 B2 c2 c3 w' h h2 => sameC_yes (giveL l c) A2 B2 c2 c3 w' h h2 hM
    have k5 := fun w' A2 h h2 => rcheck_any ps [c] A A2 ca 1 w' h h2 (by omega) (by simp)
    have k6 := fun w' A2 c2 h h2 => check_any ps (giveL l c) A A2 ca c2 w' h h2 (by omega) hM
    generalize giveL l c = M at *
    clear hck hso hgo
    go_enter Try.func6, Try.ntmps6
    have HC := Lib.hid (FourC.new w c 40)
    obtain ⟨zc, c0, c1, c2, c3⟩ := HC.out
    have HB : Hid (Below w.heap.size w (w.alloc (.cells #[.int .i64 c.p, .int .i64 c.r, .int .i64 c.d, .int .i64 c.k] 40))) := Lib.hid (by repeat (first | assumption | exact Below.refl _ _ | refine Below.alloc ?_ (by first | omega | (simp; done) | (simp; omega)) _ | refine Below.setCell ?_ (by first | omega | (simp; done) | (simp; omega)) _ | refine Below.drew ?_ | refine Below.drewN_ ?_ _ | refine Below.step ?_ (by assumption)))
    have HP := Lib.hid (ha.below HB.out)
    have HL := Lib.hid (hb.below HB.out)
    go_wp2_with fail
    refine (k1 _ HP.out HL.out).mono ?_
    rintro e W1 ⟨rfl, hc⟩
    replace HC := Lib.hid (HC.out.below hc)
    replace HP := Lib.hid (HP.out.below hc)
    replace HL := Lib.hid (HL.out.below hc)
    clear zc c0 c1 c2 c3
    obtain ⟨zc, c0, c1, c2, c3⟩ := HC.out
    replace HB := Lib.hid (Below.step HB.out hc)
    clear hc
    go_wp2_with fail
    refine (k2 _ HL.out).mono ?_
    rintro e W2 ⟨A2, m2, rfl, ⟨i2, q2⟩, hc⟩
    replace HC := Lib.hid (HC.out.below hc)
    replace HP := Lib.hid (HP.out.below hc)
    replace HL := Lib.hid (HL.out.below hc)
    have HM := Lib.hid i2
    clear i2 q2
    clear zc c0 c1 c2 c3
    obtain ⟨zc, c0, c1, c2, c3⟩ := HC.out
    replace HB := Lib.hid (Below.step HB.out hc)
    clear hc
    go_wp2_with fail
    refine (k3 _ HL.out).mono ?_
    rintro e W3 ⟨A3, m3, rfl, ⟨i3, q3⟩, hc⟩
    replace HC := Lib.hid (HC.out.below hc)
    replace HP := Lib.hid (HP.out.below hc)
    replace HL := Lib.hid (HL.out.below hc)
    replace HM := Lib.hid (HM.out.below hc)
    have HN := Lib.hid i3
    clear i3 q3
    clear zc c0 c1 c2 c3
    obtain ⟨zc, c0, c1, c2, c3⟩ := HC.out
    replace HB := Lib.hid (Below.step HB.out hc)
    clear hc
    go_wp2_with fail
    refine (k4 _ _ _ _ _ HM.out HN.out).mono ?_
    rintro e W4 ⟨rfl, hc⟩
    replace HC := Lib.hid (HC.out.below hc)
    replace HP := Lib.hid (HP.out.below hc)
    replace HL := Lib.hid (HL.out.below hc)
    replace HM := Lib.hid (HM.out.below hc)
    replace HN := Lib.hid (HN.out.below hc)
    clear zc c0 c1 c2 c3
    obtain ⟨zc, c0, c1, c2, c3⟩ := HC.out
    replace HB := Lib.hid (Below.step HB.out hc)
    clear hc
    clear HN k2 k3 k4
    rcases Nat.lt_or_ge l.length 60 with h60 | h60
    · have h6 : (l.length : Int) < 60 := by omega
      go_wp2_with fail
      have hc := below_new W4 (.cells #[.int .i64 c.p, .int .i64 c.r, .int .i64 c.d, .int .i64 c.k] 40)
      replace HC := Lib.hid (HC.out.below hc)
      replace HP := Lib.hid (HP.out.below hc)
      replace HL := Lib.hid (HL.out.below hc)
      replace HM := Lib.hid (HM.out.below hc)
      clear zc c0 c1 c2 c3
      obtain ⟨zc, c0, c1, c2, c3⟩ := HC.out
      replace HB := Lib.hid (Below.step HB.out hc)
      clear hc
      have HO := Lib.hid (Cons.one W4 c 40)
      generalize checkE ps [c] = E at *
      by_cases hE : E = 0
      · subst hE
        have hF := hG.out h60 rfl
        rw [hF] at k6
        clear hF hG
        refine (k5 _ _ HP.out HO.out).mono ?_
        rintro e W5 ⟨rfl, hc⟩
        replace HC := Lib.hid (HC.out.below hc)
        replace HP := Lib.hid (HP.out.below hc)
        replace HL := Lib.hid (HL.out.below hc)
        replace HM := Lib.hid (HM.out.below hc)
        replace HO := Lib.hid (HO.out.below hc)
        clear zc c0 c1 c2 c3
        obtain ⟨zc, c0, c1, c2, c3⟩ := HC.out
        replace HB := Lib.hid (Below.step HB.out hc)
        clear hc
        go_wp2_with fail
        refine (k6 _ _ _ HP.out HM.out).mono ?_
        rintro e W6 ⟨rfl, hc⟩
        replace HC := Lib.hid (HC.out.below hc)
        replace HP := Lib.hid (HP.out.below hc)
        replace HL := Lib.hid (HL.out.below hc)
        replace HM := Lib.hid (HM.out.below hc)
        replace HO := Lib.hid (HO.out.below hc)
        clear zc c0 c1 c2 c3
        obtain ⟨zc, c0, c1, c2, c3⟩ := HC.out
        replace HB := Lib.hid (Below.step HB.out hc)
        clear hc
        go_wp2_with fail
        refine (awake_any _).mono ?_
        rintro e W7 ⟨rfl, hc⟩
        replace HC := Lib.hid (HC.out.below hc)
        replace HP := Lib.hid (HP.out.below hc)
        replace HL := Lib.hid (HL.out.below hc)
        replace HM := Lib.hid (HM.out.below hc)
        replace HO := Lib.hid (HO.out.below hc)
        clear zc c0 c1 c2 c3
        obtain ⟨zc, c0, c1, c2, c3⟩ := HC.out
        replace HB := Lib.hid (Below.step HB.out hc)
        clear hc
        go_wp2
        go_ret
        exact Ret.mk rfl HB.out
      · clear hG k6
        refine (k5 _ _ HP.out HO.out).mono ?_
        rintro e W5 ⟨rfl, hc⟩
        replace HC := Lib.hid (HC.out.below hc)
        replace HP := Lib.hid (HP.out.below hc)
        replace HL := Lib.hid (HL.out.below hc)
        replace HM := Lib.hid (HM.out.below hc)
        replace HO := Lib.hid (HO.out.below hc)
        clear zc c0 c1 c2 c3
        obtain ⟨zc, c0, c1, c2, c3⟩ := HC.out
        replace HB := Lib.hid (Below.step HB.out hc)
        clear hc
        go_wp2_with fail
        refine (awake_any _).mono ?_
        rintro e W6 ⟨rfl, hc⟩
        replace HC := Lib.hid (HC.out.below hc)
        replace HP := Lib.hid (HP.out.below hc)
        replace HL := Lib.hid (HL.out.below hc)
        replace HM := Lib.hid (HM.out.below hc)
        replace HO := Lib.hid (HO.out.below hc)
        clear zc c0 c1 c2 c3
        obtain ⟨zc, c0, c1, c2, c3⟩ := HC.out
        replace HB := Lib.hid (Below.step HB.out hc)
        clear hc
        go_wp2
        go_ret
        exact Ret.mk rfl HB.out
    · have h6 : ¬ (l.length : Int) < 60 := by omega
      go_wp2_with fail
      refine (awake_any _).mono ?_
      rintro e W5 ⟨rfl, hc⟩
      replace HC := Lib.hid (HC.out.below hc)
      replace HP := Lib.hid (HP.out.below hc)
      replace HL := Lib.hid (HL.out.below hc)
      replace HM := Lib.hid (HM.out.below hc)
      clear zc c0 c1 c2 c3
      obtain ⟨zc, c0, c1, c2, c3⟩ := HC.out
      replace HB := Lib.hid (Below.step HB.out hc)
      clear hc
      go_wp2
      go_ret
      exact Ret.mk rfl HB.out

end Go.Proofs.Ythbagggcfdgnfaa
