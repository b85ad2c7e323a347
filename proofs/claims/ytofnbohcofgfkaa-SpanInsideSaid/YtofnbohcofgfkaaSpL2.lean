/- SpanSets, SpanTimes. -/
import Derived.Test.YtofnbohcofgfkaaSpK
import Derived.Test.YtofnbohcofgfkaaSpR
import Derived.Test.YtofnbohcofgfkaaSpM
namespace Go.Proofs.Ytofnbohcofgfkaa
open Go.RowKit

theorem bothN_len {a b : List Sp} (ha : a.length ≤ 60) (hb : b.length ≤ 60) : (bothN a b).length ≤ 3600 := by
  rw [← bAt_all]
  have := bAt_len a b hb a.length (Nat.le_refl _)
  omega
theorem minusN_len (a b : List Sp) : (minusN a b).length ≤ a.length + b.length := by
  rw [← minAt_all]; exact minAt_len a b _ (Nat.le_refl _)
theorem inB_eq {l m : List Sp} {t : Int} (h : Tin l t ↔ Tin m t) : inB l t = inB m t := by rw [Bool.eq_iff_iff, inB_iff, inB_iff]; exact h
theorem inB_union (a : List Sp) (t : Int) : inB (norm a) t = inB a t := inB_eq ((norm_spec a).2 t)
theorem inB_both (a b : List Sp) (t : Int) : inB (bothN a b) t = (inB a t && inB b t) := by
  rw [Bool.eq_iff_iff, Bool.and_eq_true, inB_iff, inB_iff, inB_iff]; exact (bothN_spec a b).2 t
theorem inB_minus (a b : List Sp) (t : Int) : inB (minusN a b) t = (inB a t && !inB b t) := by
  rw [Bool.eq_iff_iff, Bool.and_eq_true, Bool.not_eq_true', Bool.eq_false_iff, Ne, inB_iff, inB_iff, inB_iff]; exact (minusN_spec a b).2 t

set_option maxRecDepth 20000 in
set_option maxHeartbeats 4000000 in
theorem spanSets_walk (W : World) (a b : List Sp) (A B : Option Addr) (ca cb : Nat) (ha : Spans W A a) (hb : Spans W B b) :
    Calls Try.prog 7 #[.slice A a.length ca, .slice B b.length cb] W (Ret (.bool true) W) := by
  have kf := few_any a.length b.length A B ca cb W
  by_cases hf : a.length ≤ 60 ∧ b.length ≤ 60
  rotate_left
  · rw [show (decide (a.length ≤ 60) && decide (b.length ≤ 60)) = false by simp; omega] at kf
    clear hf
    go_enter Try.func7, Try.ntmps7
    go_wp2_with fail
    refine kf.mono ?_
    rintro e w1 ⟨rfl, h1⟩
    have H := Lib.hid h1
    clear h1 kf
    go_wp2_with fail
    refine (awake_any _).mono ?_
    rintro e w2 ⟨rfl, h⟩
    replace H := Lib.hid (Below.step H.out h)
    clear h
    go_wp2
    go_ret
    exact Ret.mk rfl H.out
  · obtain ⟨hla, hlb⟩ := hf
    rw [show (decide (a.length ≤ 60) && decide (b.length ≤ 60)) = true by simp [hla, hlb]] at kf
    have kca := fun A w' (h : Spans w' A a) c => copied_any a A c w' h (by omega)
    have kcb := fun A w' (h : Spans w' A b) c => copied_any b A c w' h (by omega)
    have kbo := fun A' c' B' d' w' (h : Spans w' A' a) (h' : Spans w' B' b) => both_any a b A' B' c' d' w' h h' (by omega) (by omega)
    have kmi := fun A' c' B' d' w' (h : Spans w' A' a) (h' : Spans w' B' b) => minus_any a b A' B' c' d' w' h h' (by omega) (by omega)
    have hxl := bothN_len hla hlb
    have hyl := minusN_len a b
    have krb := fun w' (h : Spans w' A a) (h' : Spans w' B b) => rboth_any a b A B ca cb w' h h' (by omega) (by omega)
    have krm := fun w' (h : Spans w' A a) (h' : Spans w' B b) => rminus_any a b A B ca cb w' h h' (by omega) (by omega)
    generalize bothN a b = x at *
    generalize minusN a b = y at *
    go_enter Try.func7, Try.ntmps7
    go_wp2_with fail
    refine kf.mono ?_
    rintro e w0 ⟨rfl, h⟩
    have Sa := Lib.hid (ha.below h)
    have Sb := Lib.hid (hb.below h)
    have H := Lib.hid h
    clear h kf ha hb
    go_wp2_with fail
    refine (kca _ _ Sa.out _).mono ?_
    rintro e w1 ⟨Ap, cp, rfl, ho, h⟩
    have Sp := Lib.hid (Spans.of_own ho)
    replace Sa := Lib.hid (Sa.out.below h)
    replace Sb := Lib.hid (Sb.out.below h)
    replace H := Lib.hid (Below.step H.out h)
    clear h ho
    go_wp2_with fail
    refine (kcb _ _ Sb.out _).mono ?_
    rintro e w2 ⟨Aq, cq, rfl, ho, h⟩
    have Sq := Lib.hid (Spans.of_own ho)
    replace Sa := Lib.hid (Sa.out.below h)
    replace Sb := Lib.hid (Sb.out.below h)
    replace Sp := Lib.hid (Sp.out.below h)
    replace H := Lib.hid (Below.step H.out h)
    clear h ho
    go_wp2_with fail
    refine (kbo _ _ _ _ _ Sp.out Sq.out).mono ?_
    rintro e w3 ⟨A1, c1, rfl, ho, h⟩
    have S1 := Lib.hid (Spans.of_own ho)
    replace Sa := Lib.hid (Sa.out.below h)
    replace Sb := Lib.hid (Sb.out.below h)
    replace Sp := Lib.hid (Sp.out.below h)
    replace Sq := Lib.hid (Sq.out.below h)
    replace H := Lib.hid (Below.step H.out h)
    clear h ho
    clear Sp Sq
    go_wp2_with fail
    refine (krb _ Sa.out Sb.out).mono ?_
    rintro e w4 ⟨A2, c2, rfl, ho, h⟩
    have S2 := Lib.hid (Spans.of_own ho)
    replace Sa := Lib.hid (Sa.out.below h)
    replace Sb := Lib.hid (Sb.out.below h)
    replace S1 := Lib.hid (S1.out.below h)
    replace H := Lib.hid (Below.step H.out h)
    clear h ho
    go_wp2_with fail
    refine (sameS_yes x A1 A2 c1 c2 _ S1.out S2.out (by omega)).mono ?_
    rintro e w5 ⟨rfl, h⟩
    replace Sa := Lib.hid (Sa.out.below h)
    replace Sb := Lib.hid (Sb.out.below h)
    replace S1 := Lib.hid (S1.out.below h)
    replace S2 := Lib.hid (S2.out.below h)
    replace H := Lib.hid (Below.step H.out h)
    clear h
    clear S1 S2
    go_wp2_with fail
    refine (kca _ _ Sa.out _).mono ?_
    rintro e w6 ⟨Ap, cp, rfl, ho, h⟩
    have Sp := Lib.hid (Spans.of_own ho)
    replace Sa := Lib.hid (Sa.out.below h)
    replace Sb := Lib.hid (Sb.out.below h)
    replace H := Lib.hid (Below.step H.out h)
    clear h ho
    go_wp2_with fail
    refine (kcb _ _ Sb.out _).mono ?_
    rintro e w7 ⟨Aq, cq, rfl, ho, h⟩
    have Sq := Lib.hid (Spans.of_own ho)
    replace Sa := Lib.hid (Sa.out.below h)
    replace Sb := Lib.hid (Sb.out.below h)
    replace Sp := Lib.hid (Sp.out.below h)
    replace H := Lib.hid (Below.step H.out h)
    clear h ho
    go_wp2_with fail
    refine (kmi _ _ _ _ _ Sp.out Sq.out).mono ?_
    rintro e w8 ⟨A3, c3, rfl, ho, h⟩
    have S3 := Lib.hid (Spans.of_own ho)
    replace Sa := Lib.hid (Sa.out.below h)
    replace Sb := Lib.hid (Sb.out.below h)
    replace Sp := Lib.hid (Sp.out.below h)
    replace Sq := Lib.hid (Sq.out.below h)
    replace H := Lib.hid (Below.step H.out h)
    clear h ho
    clear Sp Sq
    go_wp2_with fail
    refine (krm _ Sa.out Sb.out).mono ?_
    rintro e w9 ⟨A4, c4, rfl, ho, h⟩
    have S4 := Lib.hid (Spans.of_own ho)
    replace Sa := Lib.hid (Sa.out.below h)
    replace Sb := Lib.hid (Sb.out.below h)
    replace S3 := Lib.hid (S3.out.below h)
    replace H := Lib.hid (Below.step H.out h)
    clear h ho
    go_wp2_with fail
    refine (sameS_yes y A3 A4 c3 c4 _ S3.out S4.out (by omega)).mono ?_
    rintro e w10 ⟨rfl, h⟩
    replace Sa := Lib.hid (Sa.out.below h)
    replace Sb := Lib.hid (Sb.out.below h)
    replace S3 := Lib.hid (S3.out.below h)
    replace S4 := Lib.hid (S4.out.below h)
    replace H := Lib.hid (Below.step H.out h)
    clear h
    clear S3 S4
    go_wp2_with fail
    refine (awake_any _).mono ?_
    rintro e w11 ⟨rfl, h⟩
    replace Sa := Lib.hid (Sa.out.below h)
    replace Sb := Lib.hid (Sb.out.below h)
    replace H := Lib.hid (Below.step H.out h)
    clear h
    go_wp2
    go_ret
    exact Ret.mk rfl H.out

set_option maxRecDepth 20000 in
set_option maxHeartbeats 4000000 in
theorem spanTimes_walk (W : World) (a b : List Sp) (A B : Option Addr) (ca cb : Nat) (t : Int) (ha : Spans W A a) (hb : Spans W B b) :
    Calls Try.prog 9 #[.slice A a.length ca, .slice B b.length cb, .int .i64 t] W (Ret (.bool true) W) := by
  have kf := few_any a.length b.length A B ca cb W
  by_cases hf : a.length ≤ 60 ∧ b.length ≤ 60
  rotate_left
  · rw [show (decide (a.length ≤ 60) && decide (b.length ≤ 60)) = false by simp; omega] at kf
    clear hf
    go_enter Try.func9, Try.ntmps9
    go_wp2_with fail
    refine kf.mono ?_
    rintro e w1 ⟨rfl, h1⟩
    have H := Lib.hid h1
    clear h1 kf
    go_wp2_with fail
    refine (awake_any _).mono ?_
    rintro e w2 ⟨rfl, h⟩
    replace H := Lib.hid (Below.step H.out h)
    clear h
    go_wp2
    go_ret
    exact Ret.mk rfl H.out
  · obtain ⟨hla, hlb⟩ := hf
    rw [show (decide (a.length ≤ 60) && decide (b.length ≤ 60)) = true by simp [hla, hlb]] at kf
    have kca := fun A w' (h : Spans w' A a) c => copied_any a A c w' h (by omega)
    have kcb := fun A w' (h : Spans w' A b) c => copied_any b A c w' h (by omega)
    have kbo := fun A' c' B' d' w' (h : Spans w' A' a) (h' : Spans w' B' b) => both_any a b A' B' c' d' w' h h' (by omega) (by omega)
    have kmi := fun A' c' B' d' w' (h : Spans w' A' a) (h' : Spans w' B' b) => minus_any a b A' B' c' d' w' h h' (by omega) (by omega)
    have hxl := bothN_len hla hlb
    have hyl := minusN_len a b
    have kun := fun A' c' w' (h : Spans w' A' a) => union_any a A' c' w' h (by omega)
    have hul := norm_len a
    have nu := Lib.hid (norm_spec a).1
    have nx := Lib.hid (bothN_spec a b).1
    have ny := Lib.hid (minusN_spec a b).1
    have iu := inB_union a t
    have ix := inB_both a b t
    have iy := inB_minus a b t
    generalize norm a = u at *
    generalize bothN a b = x at *
    generalize minusN a b = y at *
    have ku := fun A' c' w' (h : Spans w' A' u) => in_any u t A' c' w' h (by omega)
    have kx := fun A' c' w' (h : Spans w' A' x) => in_any x t A' c' w' h (by omega)
    have ky := fun A' c' w' (h : Spans w' A' y) => in_any y t A' c' w' h (by omega)
    have ka := fun w' (h : Spans w' A a) => in_any a t A ca w' h (by omega)
    have kb := fun w' (h : Spans w' B b) => in_any b t B cb w' h (by omega)
    rw [iu] at ku
    rw [ix] at kx
    rw [iy] at ky
    clear iu ix iy
    generalize inB a t = P at *
    generalize inB b t = Q at *
    go_enter Try.func9, Try.ntmps9
    go_wp2_with fail
    refine kf.mono ?_
    rintro e w0 ⟨rfl, h⟩
    have Sa := Lib.hid (ha.below h)
    have Sb := Lib.hid (hb.below h)
    have H := Lib.hid h
    clear h kf ha hb
    go_wp2_with fail
    refine (kca _ _ Sa.out _).mono ?_
    rintro e w1 ⟨Ap, cp, rfl, ho, h⟩
    have Sp := Lib.hid (Spans.of_own ho)
    replace Sa := Lib.hid (Sa.out.below h)
    replace Sb := Lib.hid (Sb.out.below h)
    replace H := Lib.hid (Below.step H.out h)
    clear h ho
    go_wp2_with fail
    refine (kun _ _ _ Sp.out).mono ?_
    rintro e w2 ⟨Au, cu, rfl, ho, h⟩
    have Su := Lib.hid (Spans.of_own ho)
    replace Sa := Lib.hid (Sa.out.below h)
    replace Sb := Lib.hid (Sb.out.below h)
    replace Sp := Lib.hid (Sp.out.below h)
    replace H := Lib.hid (Below.step H.out h)
    clear h ho
    clear Sp
    go_wp2_with fail
    refine (kca _ _ Sa.out _).mono ?_
    rintro e w3 ⟨Ap, cp, rfl, ho, h⟩
    have Sp := Lib.hid (Spans.of_own ho)
    replace Sa := Lib.hid (Sa.out.below h)
    replace Sb := Lib.hid (Sb.out.below h)
    replace Su := Lib.hid (Su.out.below h)
    replace H := Lib.hid (Below.step H.out h)
    clear h ho
    go_wp2_with fail
    refine (kcb _ _ Sb.out _).mono ?_
    rintro e w4 ⟨Aq, cq, rfl, ho, h⟩
    have Sq := Lib.hid (Spans.of_own ho)
    replace Sa := Lib.hid (Sa.out.below h)
    replace Sb := Lib.hid (Sb.out.below h)
    replace Su := Lib.hid (Su.out.below h)
    replace Sp := Lib.hid (Sp.out.below h)
    replace H := Lib.hid (Below.step H.out h)
    clear h ho
    go_wp2_with fail
    refine (kbo _ _ _ _ _ Sp.out Sq.out).mono ?_
    rintro e w5 ⟨Ax, cx, rfl, ho, h⟩
    have Sx := Lib.hid (Spans.of_own ho)
    replace Sa := Lib.hid (Sa.out.below h)
    replace Sb := Lib.hid (Sb.out.below h)
    replace Su := Lib.hid (Su.out.below h)
    replace Sp := Lib.hid (Sp.out.below h)
    replace Sq := Lib.hid (Sq.out.below h)
    replace H := Lib.hid (Below.step H.out h)
    clear h ho
    clear Sp Sq
    go_wp2_with fail
    refine (kca _ _ Sa.out _).mono ?_
    rintro e w6 ⟨Ap, cp, rfl, ho, h⟩
    have Sp := Lib.hid (Spans.of_own ho)
    replace Sa := Lib.hid (Sa.out.below h)
    replace Sb := Lib.hid (Sb.out.below h)
    replace Su := Lib.hid (Su.out.below h)
    replace Sx := Lib.hid (Sx.out.below h)
    replace H := Lib.hid (Below.step H.out h)
    clear h ho
    go_wp2_with fail
    refine (kcb _ _ Sb.out _).mono ?_
    rintro e w7 ⟨Aq, cq, rfl, ho, h⟩
    have Sq := Lib.hid (Spans.of_own ho)
    replace Sa := Lib.hid (Sa.out.below h)
    replace Sb := Lib.hid (Sb.out.below h)
    replace Su := Lib.hid (Su.out.below h)
    replace Sx := Lib.hid (Sx.out.below h)
    replace Sp := Lib.hid (Sp.out.below h)
    replace H := Lib.hid (Below.step H.out h)
    clear h ho
    go_wp2_with fail
    refine (kmi _ _ _ _ _ Sp.out Sq.out).mono ?_
    rintro e w8 ⟨Ay, cy, rfl, ho, h⟩
    have Sy := Lib.hid (Spans.of_own ho)
    replace Sa := Lib.hid (Sa.out.below h)
    replace Sb := Lib.hid (Sb.out.below h)
    replace Su := Lib.hid (Su.out.below h)
    replace Sx := Lib.hid (Sx.out.below h)
    replace Sp := Lib.hid (Sp.out.below h)
    replace Sq := Lib.hid (Sq.out.below h)
    replace H := Lib.hid (Below.step H.out h)
    clear h ho
    clear Sp Sq
    go_wp2_with fail
    refine (normal_yes u Au cu _ Su.out (by omega) nu.out).mono ?_
    rintro e w9 ⟨rfl, h⟩
    replace Sa := Lib.hid (Sa.out.below h)
    replace Sb := Lib.hid (Sb.out.below h)
    replace Su := Lib.hid (Su.out.below h)
    replace Sx := Lib.hid (Sx.out.below h)
    replace Sy := Lib.hid (Sy.out.below h)
    replace H := Lib.hid (Below.step H.out h)
    clear h
    go_wp2_with fail
    refine (normal_yes x Ax cx _ Sx.out (by omega) nx.out).mono ?_
    rintro e w10 ⟨rfl, h⟩
    replace Sa := Lib.hid (Sa.out.below h)
    replace Sb := Lib.hid (Sb.out.below h)
    replace Su := Lib.hid (Su.out.below h)
    replace Sx := Lib.hid (Sx.out.below h)
    replace Sy := Lib.hid (Sy.out.below h)
    replace H := Lib.hid (Below.step H.out h)
    clear h
    go_wp2_with fail
    refine (normal_yes y Ay cy _ Sy.out (by omega) ny.out).mono ?_
    rintro e w11 ⟨rfl, h⟩
    replace Sa := Lib.hid (Sa.out.below h)
    replace Sb := Lib.hid (Sb.out.below h)
    replace Su := Lib.hid (Su.out.below h)
    replace Sx := Lib.hid (Sx.out.below h)
    replace Sy := Lib.hid (Sy.out.below h)
    replace H := Lib.hid (Below.step H.out h)
    clear h
    clear nu nx ny kca kcb kbo kmi kun
    rcases P with _ | _
    · skip
      go_wp2_with fail
      refine (ku _ _ _ Su.out).mono ?_
      rintro e w12 ⟨rfl, h⟩
      replace Sa := Lib.hid (Sa.out.below h)
      replace Sb := Lib.hid (Sb.out.below h)
      replace Su := Lib.hid (Su.out.below h)
      replace Sx := Lib.hid (Sx.out.below h)
      replace Sy := Lib.hid (Sy.out.below h)
      replace H := Lib.hid (Below.step H.out h)
      clear h
      go_wp2_with fail
      refine (ka _ Sa.out).mono ?_
      rintro e w13 ⟨rfl, h⟩
      replace Sa := Lib.hid (Sa.out.below h)
      replace Sb := Lib.hid (Sb.out.below h)
      replace Su := Lib.hid (Su.out.below h)
      replace Sx := Lib.hid (Sx.out.below h)
      replace Sy := Lib.hid (Sy.out.below h)
      replace H := Lib.hid (Below.step H.out h)
      clear h
      go_wp2_with fail
      refine (kx _ _ _ Sx.out).mono ?_
      rintro e w14 ⟨rfl, h⟩
      replace Sa := Lib.hid (Sa.out.below h)
      replace Sb := Lib.hid (Sb.out.below h)
      replace Su := Lib.hid (Su.out.below h)
      replace Sx := Lib.hid (Sx.out.below h)
      replace Sy := Lib.hid (Sy.out.below h)
      replace H := Lib.hid (Below.step H.out h)
      clear h
      go_wp2_with fail
      refine (ka _ Sa.out).mono ?_
      rintro e w15 ⟨rfl, h⟩
      replace Sa := Lib.hid (Sa.out.below h)
      replace Sb := Lib.hid (Sb.out.below h)
      replace Su := Lib.hid (Su.out.below h)
      replace Sx := Lib.hid (Sx.out.below h)
      replace Sy := Lib.hid (Sy.out.below h)
      replace H := Lib.hid (Below.step H.out h)
      clear h
      go_wp2_with fail
      refine (ky _ _ _ Sy.out).mono ?_
      rintro e w16 ⟨rfl, h⟩
      replace Sa := Lib.hid (Sa.out.below h)
      replace Sb := Lib.hid (Sb.out.below h)
      replace Su := Lib.hid (Su.out.below h)
      replace Sx := Lib.hid (Sx.out.below h)
      replace Sy := Lib.hid (Sy.out.below h)
      replace H := Lib.hid (Below.step H.out h)
      clear h
      go_wp2_with fail
      refine (ka _ Sa.out).mono ?_
      rintro e w17 ⟨rfl, h⟩
      replace Sa := Lib.hid (Sa.out.below h)
      replace Sb := Lib.hid (Sb.out.below h)
      replace Su := Lib.hid (Su.out.below h)
      replace Sx := Lib.hid (Sx.out.below h)
      replace Sy := Lib.hid (Sy.out.below h)
      replace H := Lib.hid (Below.step H.out h)
      clear h
      go_wp2_with fail
      refine (awake_any _).mono ?_
      rintro e w18 ⟨rfl, h⟩
      replace Sa := Lib.hid (Sa.out.below h)
      replace Sb := Lib.hid (Sb.out.below h)
      replace Su := Lib.hid (Su.out.below h)
      replace Sx := Lib.hid (Sx.out.below h)
      replace Sy := Lib.hid (Sy.out.below h)
      replace H := Lib.hid (Below.step H.out h)
      clear h
      go_wp2
      go_ret
      exact Ret.mk rfl H.out
    · rcases Q with _ | _
      · skip
        go_wp2_with fail
        refine (ku _ _ _ Su.out).mono ?_
        rintro e w12 ⟨rfl, h⟩
        replace Sa := Lib.hid (Sa.out.below h)
        replace Sb := Lib.hid (Sb.out.below h)
        replace Su := Lib.hid (Su.out.below h)
        replace Sx := Lib.hid (Sx.out.below h)
        replace Sy := Lib.hid (Sy.out.below h)
        replace H := Lib.hid (Below.step H.out h)
        clear h
        go_wp2_with fail
        refine (ka _ Sa.out).mono ?_
        rintro e w13 ⟨rfl, h⟩
        replace Sa := Lib.hid (Sa.out.below h)
        replace Sb := Lib.hid (Sb.out.below h)
        replace Su := Lib.hid (Su.out.below h)
        replace Sx := Lib.hid (Sx.out.below h)
        replace Sy := Lib.hid (Sy.out.below h)
        replace H := Lib.hid (Below.step H.out h)
        clear h
        go_wp2_with fail
        refine (kx _ _ _ Sx.out).mono ?_
        rintro e w14 ⟨rfl, h⟩
        replace Sa := Lib.hid (Sa.out.below h)
        replace Sb := Lib.hid (Sb.out.below h)
        replace Su := Lib.hid (Su.out.below h)
        replace Sx := Lib.hid (Sx.out.below h)
        replace Sy := Lib.hid (Sy.out.below h)
        replace H := Lib.hid (Below.step H.out h)
        clear h
        go_wp2_with fail
        refine (ka _ Sa.out).mono ?_
        rintro e w15 ⟨rfl, h⟩
        replace Sa := Lib.hid (Sa.out.below h)
        replace Sb := Lib.hid (Sb.out.below h)
        replace Su := Lib.hid (Su.out.below h)
        replace Sx := Lib.hid (Sx.out.below h)
        replace Sy := Lib.hid (Sy.out.below h)
        replace H := Lib.hid (Below.step H.out h)
        clear h
        go_wp2_with fail
        refine (kb _ Sb.out).mono ?_
        rintro e w16 ⟨rfl, h⟩
        replace Sa := Lib.hid (Sa.out.below h)
        replace Sb := Lib.hid (Sb.out.below h)
        replace Su := Lib.hid (Su.out.below h)
        replace Sx := Lib.hid (Sx.out.below h)
        replace Sy := Lib.hid (Sy.out.below h)
        replace H := Lib.hid (Below.step H.out h)
        clear h
        go_wp2_with fail
        refine (ky _ _ _ Sy.out).mono ?_
        rintro e w17 ⟨rfl, h⟩
        replace Sa := Lib.hid (Sa.out.below h)
        replace Sb := Lib.hid (Sb.out.below h)
        replace Su := Lib.hid (Su.out.below h)
        replace Sx := Lib.hid (Sx.out.below h)
        replace Sy := Lib.hid (Sy.out.below h)
        replace H := Lib.hid (Below.step H.out h)
        clear h
        go_wp2_with fail
        refine (ka _ Sa.out).mono ?_
        rintro e w18 ⟨rfl, h⟩
        replace Sa := Lib.hid (Sa.out.below h)
        replace Sb := Lib.hid (Sb.out.below h)
        replace Su := Lib.hid (Su.out.below h)
        replace Sx := Lib.hid (Sx.out.below h)
        replace Sy := Lib.hid (Sy.out.below h)
        replace H := Lib.hid (Below.step H.out h)
        clear h
        go_wp2_with fail
        refine (kb _ Sb.out).mono ?_
        rintro e w19 ⟨rfl, h⟩
        replace Sa := Lib.hid (Sa.out.below h)
        replace Sb := Lib.hid (Sb.out.below h)
        replace Su := Lib.hid (Su.out.below h)
        replace Sx := Lib.hid (Sx.out.below h)
        replace Sy := Lib.hid (Sy.out.below h)
        replace H := Lib.hid (Below.step H.out h)
        clear h
        go_wp2_with fail
        refine (awake_any _).mono ?_
        rintro e w20 ⟨rfl, h⟩
        replace Sa := Lib.hid (Sa.out.below h)
        replace Sb := Lib.hid (Sb.out.below h)
        replace Su := Lib.hid (Su.out.below h)
        replace Sx := Lib.hid (Sx.out.below h)
        replace Sy := Lib.hid (Sy.out.below h)
        replace H := Lib.hid (Below.step H.out h)
        clear h
        go_wp2
        go_ret
        exact Ret.mk rfl H.out
      · skip
        go_wp2_with fail
        refine (ku _ _ _ Su.out).mono ?_
        rintro e w12 ⟨rfl, h⟩
        replace Sa := Lib.hid (Sa.out.below h)
        replace Sb := Lib.hid (Sb.out.below h)
        replace Su := Lib.hid (Su.out.below h)
        replace Sx := Lib.hid (Sx.out.below h)
        replace Sy := Lib.hid (Sy.out.below h)
        replace H := Lib.hid (Below.step H.out h)
        clear h
        go_wp2_with fail
        refine (ka _ Sa.out).mono ?_
        rintro e w13 ⟨rfl, h⟩
        replace Sa := Lib.hid (Sa.out.below h)
        replace Sb := Lib.hid (Sb.out.below h)
        replace Su := Lib.hid (Su.out.below h)
        replace Sx := Lib.hid (Sx.out.below h)
        replace Sy := Lib.hid (Sy.out.below h)
        replace H := Lib.hid (Below.step H.out h)
        clear h
        go_wp2_with fail
        refine (kx _ _ _ Sx.out).mono ?_
        rintro e w14 ⟨rfl, h⟩
        replace Sa := Lib.hid (Sa.out.below h)
        replace Sb := Lib.hid (Sb.out.below h)
        replace Su := Lib.hid (Su.out.below h)
        replace Sx := Lib.hid (Sx.out.below h)
        replace Sy := Lib.hid (Sy.out.below h)
        replace H := Lib.hid (Below.step H.out h)
        clear h
        go_wp2_with fail
        refine (ka _ Sa.out).mono ?_
        rintro e w15 ⟨rfl, h⟩
        replace Sa := Lib.hid (Sa.out.below h)
        replace Sb := Lib.hid (Sb.out.below h)
        replace Su := Lib.hid (Su.out.below h)
        replace Sx := Lib.hid (Sx.out.below h)
        replace Sy := Lib.hid (Sy.out.below h)
        replace H := Lib.hid (Below.step H.out h)
        clear h
        go_wp2_with fail
        refine (kb _ Sb.out).mono ?_
        rintro e w16 ⟨rfl, h⟩
        replace Sa := Lib.hid (Sa.out.below h)
        replace Sb := Lib.hid (Sb.out.below h)
        replace Su := Lib.hid (Su.out.below h)
        replace Sx := Lib.hid (Sx.out.below h)
        replace Sy := Lib.hid (Sy.out.below h)
        replace H := Lib.hid (Below.step H.out h)
        clear h
        go_wp2_with fail
        refine (ky _ _ _ Sy.out).mono ?_
        rintro e w17 ⟨rfl, h⟩
        replace Sa := Lib.hid (Sa.out.below h)
        replace Sb := Lib.hid (Sb.out.below h)
        replace Su := Lib.hid (Su.out.below h)
        replace Sx := Lib.hid (Sx.out.below h)
        replace Sy := Lib.hid (Sy.out.below h)
        replace H := Lib.hid (Below.step H.out h)
        clear h
        go_wp2_with fail
        refine (ka _ Sa.out).mono ?_
        rintro e w18 ⟨rfl, h⟩
        replace Sa := Lib.hid (Sa.out.below h)
        replace Sb := Lib.hid (Sb.out.below h)
        replace Su := Lib.hid (Su.out.below h)
        replace Sx := Lib.hid (Sx.out.below h)
        replace Sy := Lib.hid (Sy.out.below h)
        replace H := Lib.hid (Below.step H.out h)
        clear h
        go_wp2_with fail
        refine (kb _ Sb.out).mono ?_
        rintro e w19 ⟨rfl, h⟩
        replace Sa := Lib.hid (Sa.out.below h)
        replace Sb := Lib.hid (Sb.out.below h)
        replace Su := Lib.hid (Su.out.below h)
        replace Sx := Lib.hid (Sx.out.below h)
        replace Sy := Lib.hid (Sy.out.below h)
        replace H := Lib.hid (Below.step H.out h)
        clear h
        go_wp2_with fail
        refine (awake_any _).mono ?_
        rintro e w20 ⟨rfl, h⟩
        replace Sa := Lib.hid (Sa.out.below h)
        replace Sb := Lib.hid (Sb.out.below h)
        replace Su := Lib.hid (Su.out.below h)
        replace Sx := Lib.hid (Sx.out.below h)
        replace Sy := Lib.hid (Sy.out.below h)
        replace H := Lib.hid (Below.step H.out h)
        clear h
        go_wp2
        go_ret
        exact Ret.mk rfl H.out

end Go.Proofs.Ytofnbohcofgfkaa
