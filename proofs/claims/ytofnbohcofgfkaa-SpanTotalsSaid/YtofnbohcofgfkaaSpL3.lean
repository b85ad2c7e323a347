/- SpanTotals. -/
import Derived.Test.YtofnbohcofgfkaaSpL2
import Derived.Test.YtofnbohcofgfkaaSpR
import Derived.Test.YtofnbohcofgfkaaSpM
namespace Go.Proofs.Ytofnbohcofgfkaa
open Go.RowKit

/-- append at an operation that is guarded. -/
theorem wpList_append_anyG {P : Program} {w : World} {ops : Array Oper} {rest : List Oper} {o : Oper} {a : Act} {Q : Exit → Act → World → Prop} (hw : Region.wanted o (yielded ops a.tmps) = true) (s x : Operand) (t : TypeId)
    (ho : o.op = .call { callee := .builtin .append, args := #[s, x], argTypes := #[t, t] })
    (base : Nat) (e : TypeId) (i : TypeInfo) (z : Value) (size bytes : Nat) (ht : P.underlying t = some (.slice e)) (hi : P.info? e = some i) (hz : i.zero = some z)
    (hsize : i.size = size) (hby : i.bytes = bytes) (hzs : z.cells.size = size) (hsz : 0 < size)
    (v : Value) (n : Nat) (xs : List Value) (hs : a.eval s = v) (hown : w.ownsRow base e size v n xs)
    (B : Nat) (A : Option Addr) (m c : Nat) (news : List Value) (hx : a.eval x = .slice A m c) (hr : Reads w B size A m news) (h1 : ∀ u ∈ news, u.oneCell' = true)
    (h63 : n + m ≤ maxLen) (hbytes : (n + m) * bytes ≤ 140737488355328) (hbase : base ≤ w.heap.size)
    (h : ∀ v' w', w'.ownsRow base e size v' (n + m) (xs ++ news) → w.grownBy w' v.ownBlock → (v'.ownBlock = v.ownBlock ∨ v'.ownBlock = some w.heap.size) → wpList P ops Q rest (a.put o.dst v') w') : wpList P ops Q (o :: rest) a w :=
  wpList_step fun K hK => by
    rw [if_pos hw]
    exact wp_append_any w s x t ho base e i z size bytes ht hi hz hsize hby hzs hsz v n xs hs hown B A m c news hx hr h1 h63 hbytes hbase fun v' w' h2 h3 h4 => hK _ _ (h v' w' h2 h3 h4)

set_option maxRecDepth 20000 in
set_option maxHeartbeats 4000000 in
theorem spanTotals_walk (W : World) (a b : List Sp) (A B : Option Addr) (ca cb : Nat) (ha : Spans W A a) (hb : Spans W B b) :
    Calls Try.prog 10 #[.slice A a.length ca, .slice B b.length cb] W (Ret (.bool true) W) := by
  have kf := few_any a.length b.length A B ca cb W
  by_cases hf : a.length ≤ 60 ∧ b.length ≤ 60
  rotate_left
  · rw [show (decide (a.length ≤ 60) && decide (b.length ≤ 60)) = false by simp; omega] at kf
    clear hf
    go_enter Try.func10, Try.ntmps10
    go_wp2_with fail
    refine kf.mono ?_
    rintro e w1 ⟨rfl, h1⟩
    have H := Lib.hid h1
    clear h1 kf
    go_wp2_with fail
    refine (awake_any _).mono ?_
    rintro e w2 ⟨rfl, h⟩
    replace H := Lib.hid (Below.step H.out h)
    clear h
    go_wp2
    go_ret
    exact Ret.mk rfl H.out
  · obtain ⟨hla, hlb⟩ := hf
    rw [show (decide (a.length ≤ 60) && decide (b.length ≤ 60)) = true by simp [hla, hlb]] at kf
    have kca := fun A w' (h : Spans w' A a) c => copied_any a A c w' h (by omega)
    have kcb := fun A w' (h : Spans w' A b) c => copied_any b A c w' h (by omega)
    have kbo := fun A' c' B' d' w' (h : Spans w' A' a) (h' : Spans w' B' b) => both_any a b A' B' c' d' w' h h' (by omega) (by omega)
    have kmi := fun A' c' B' d' w' (h : Spans w' A' a) (h' : Spans w' B' b) => minus_any a b A' B' c' d' w' h h' (by omega) (by omega)
    have hxl := bothN_len hla hlb
    have hyl := minusN_len a b
    have kun := fun A' c' w' (h : Spans w' A' a) => union_any a A' c' w' h (by omega)
    have hul := norm_len a
    obtain ⟨i0, hi, hz0, hz1, hz2⟩ := info_parts info_span
    have kta := fun A' c' w' (h : Spans w' A' a) => total_any a A' c' w' h (by omega)
    have ktu := fun A' c' w' (h : Spans w' A' (norm a)) => total_any (norm a) A' c' w' h (by omega)
    have ktx := fun A' c' w' (h : Spans w' A' (bothN a b)) => total_any (bothN a b) A' c' w' h (by omega)
    have kty := fun A' c' w' (h : Spans w' A' (minusN a b)) => total_any (minusN a b) A' c' w' h (by omega)
    have kuu := fun A' c' w' (h : Spans w' A' (norm a)) => union_any (norm a) A' c' w' h (by omega)
    have kxy := fun A' c' w' (h : Spans w' A' (bothN a b ++ minusN a b)) => union_any (bothN a b ++ minusN a b) A' c' w' h (by rw [List.length_append]; omega)
    rw [norm_norm (norm_spec a).1] at ktu kuu
    rw [norm_bothN] at ktx
    rw [norm_minusN] at kty
    rw [union_split] at kxy
    have hsp := total_split a b
    have hsx := total_small (bothN a b) (bothN_spec a b).1 _ (Nat.le_refl _)
    have hsy := total_small (minusN a b) (minusN_spec a b).1 _ (Nat.le_refl _)
    rw [List.take_length] at hsx hsy
    rw [hsp] at kta ktu
    clear hsp
    generalize norm a = u at *
    generalize bothN a b = x at *
    generalize minusN a b = y at *
    generalize total x = tx at *
    generalize total y = ty at *
    have hw : IntKind.i64.wrap (tx + ty) = tx + ty := by rw [IntKind.wrap_i64] <;> omega
    clear hsx hsy
    have kcx := fun A' c' w' (h : Spans w' A' x) => copied_any x A' c' w' h (by omega)
    have kcy := fun A' c' w' (h : Spans w' A' y) => copied_any y A' c' w' h (by omega)
    have kcu := fun A' c' w' (h : Spans w' A' u) => copied_any u A' c' w' h (by omega)
    go_enter Try.func10, Try.ntmps10
    go_wp2_with fail
    refine kf.mono ?_
    rintro e w0 ⟨rfl, h⟩
    have Sa := Lib.hid (ha.below h)
    have Sb := Lib.hid (hb.below h)
    have H := Lib.hid h
    clear h kf ha hb
    go_wp2_with fail
    refine (kca _ _ Sa.out _).mono ?_
    rintro e w1 ⟨Ap, cp, rfl, ho, h⟩
    have Sp := Lib.hid (Spans.of_own ho)
    replace Sa := Lib.hid (Sa.out.below h)
    replace Sb := Lib.hid (Sb.out.below h)
    replace H := Lib.hid (Below.step H.out h)
    clear h ho
    go_wp2_with fail
    refine (kun _ _ _ Sp.out).mono ?_
    rintro e w2 ⟨Au, cu, rfl, ho, h⟩
    have Su := Lib.hid (Spans.of_own ho)
    replace Sa := Lib.hid (Sa.out.below h)
    replace Sb := Lib.hid (Sb.out.below h)
    replace Sp := Lib.hid (Sp.out.below h)
    replace H := Lib.hid (Below.step H.out h)
    clear h ho
    clear Sp
    go_wp2_with fail
    refine (kca _ _ Sa.out _).mono ?_
    rintro e w3 ⟨Ap, cp, rfl, ho, h⟩
    have Sp := Lib.hid (Spans.of_own ho)
    replace Sa := Lib.hid (Sa.out.below h)
    replace Sb := Lib.hid (Sb.out.below h)
    replace Su := Lib.hid (Su.out.below h)
    replace H := Lib.hid (Below.step H.out h)
    clear h ho
    go_wp2_with fail
    refine (kcb _ _ Sb.out _).mono ?_
    rintro e w4 ⟨Aq, cq, rfl, ho, h⟩
    have Sq := Lib.hid (Spans.of_own ho)
    replace Sa := Lib.hid (Sa.out.below h)
    replace Sb := Lib.hid (Sb.out.below h)
    replace Su := Lib.hid (Su.out.below h)
    replace Sp := Lib.hid (Sp.out.below h)
    replace H := Lib.hid (Below.step H.out h)
    clear h ho
    go_wp2_with fail
    refine (kbo _ _ _ _ _ Sp.out Sq.out).mono ?_
    rintro e w5 ⟨Ax, cx, rfl, ho, h⟩
    have Sx := Lib.hid (Spans.of_own ho)
    replace Sa := Lib.hid (Sa.out.below h)
    replace Sb := Lib.hid (Sb.out.below h)
    replace Su := Lib.hid (Su.out.below h)
    replace Sp := Lib.hid (Sp.out.below h)
    replace Sq := Lib.hid (Sq.out.below h)
    replace H := Lib.hid (Below.step H.out h)
    clear h ho
    clear Sp Sq
    go_wp2_with fail
    refine (kca _ _ Sa.out _).mono ?_
    rintro e w6 ⟨Ap, cp, rfl, ho, h⟩
    have Sp := Lib.hid (Spans.of_own ho)
    replace Sa := Lib.hid (Sa.out.below h)
    replace Sb := Lib.hid (Sb.out.below h)
    replace Su := Lib.hid (Su.out.below h)
    replace Sx := Lib.hid (Sx.out.below h)
    replace H := Lib.hid (Below.step H.out h)
    clear h ho
    go_wp2_with fail
    refine (kcb _ _ Sb.out _).mono ?_
    rintro e w7 ⟨Aq, cq, rfl, ho, h⟩
    have Sq := Lib.hid (Spans.of_own ho)
    replace Sa := Lib.hid (Sa.out.below h)
    replace Sb := Lib.hid (Sb.out.below h)
    replace Su := Lib.hid (Su.out.below h)
    replace Sx := Lib.hid (Sx.out.below h)
    replace Sp := Lib.hid (Sp.out.below h)
    replace H := Lib.hid (Below.step H.out h)
    clear h ho
    go_wp2_with fail
    refine (kmi _ _ _ _ _ Sp.out Sq.out).mono ?_
    rintro e w8 ⟨Ay, cy, rfl, ho, h⟩
    have Sy := Lib.hid (Spans.of_own ho)
    replace Sa := Lib.hid (Sa.out.below h)
    replace Sb := Lib.hid (Sb.out.below h)
    replace Su := Lib.hid (Su.out.below h)
    replace Sx := Lib.hid (Sx.out.below h)
    replace Sp := Lib.hid (Sp.out.below h)
    replace Sq := Lib.hid (Sq.out.below h)
    replace H := Lib.hid (Below.step H.out h)
    clear h ho
    clear Sp Sq
    clear kbo kmi kun kcb
    go_wp2_with fail
    refine (kca _ _ Sa.out _).mono ?_
    rintro e w9 ⟨Ap, cp, rfl, ho, h⟩
    have Sp := Lib.hid (Spans.of_own ho)
    replace Sa := Lib.hid (Sa.out.below h)
    replace Sb := Lib.hid (Sb.out.below h)
    replace Su := Lib.hid (Su.out.below h)
    replace Sx := Lib.hid (Sx.out.below h)
    replace Sy := Lib.hid (Sy.out.below h)
    replace H := Lib.hid (Below.step H.out h)
    clear h ho
    go_wp2_with fail
    refine (kta _ _ _ Sp.out).mono ?_
    rintro e w10 ⟨rfl, h⟩
    replace Sa := Lib.hid (Sa.out.below h)
    replace Sb := Lib.hid (Sb.out.below h)
    replace Su := Lib.hid (Su.out.below h)
    replace Sx := Lib.hid (Sx.out.below h)
    replace Sy := Lib.hid (Sy.out.below h)
    replace Sp := Lib.hid (Sp.out.below h)
    replace H := Lib.hid (Below.step H.out h)
    clear h
    clear Sp
    go_wp2_with fail
    refine (kcx _ _ _ Sx.out).mono ?_
    rintro e w11 ⟨Ap, cp, rfl, ho, h⟩
    have Sp := Lib.hid (Spans.of_own ho)
    replace Sa := Lib.hid (Sa.out.below h)
    replace Sb := Lib.hid (Sb.out.below h)
    replace Su := Lib.hid (Su.out.below h)
    replace Sx := Lib.hid (Sx.out.below h)
    replace Sy := Lib.hid (Sy.out.below h)
    replace H := Lib.hid (Below.step H.out h)
    clear h ho
    go_wp2_with fail
    refine (ktx _ _ _ Sp.out).mono ?_
    rintro e w12 ⟨rfl, h⟩
    replace Sa := Lib.hid (Sa.out.below h)
    replace Sb := Lib.hid (Sb.out.below h)
    replace Su := Lib.hid (Su.out.below h)
    replace Sx := Lib.hid (Sx.out.below h)
    replace Sy := Lib.hid (Sy.out.below h)
    replace Sp := Lib.hid (Sp.out.below h)
    replace H := Lib.hid (Below.step H.out h)
    clear h
    clear Sp
    go_wp2_with fail
    refine (kcy _ _ _ Sy.out).mono ?_
    rintro e w13 ⟨Ap, cp, rfl, ho, h⟩
    have Sp := Lib.hid (Spans.of_own ho)
    replace Sa := Lib.hid (Sa.out.below h)
    replace Sb := Lib.hid (Sb.out.below h)
    replace Su := Lib.hid (Su.out.below h)
    replace Sx := Lib.hid (Sx.out.below h)
    replace Sy := Lib.hid (Sy.out.below h)
    replace H := Lib.hid (Below.step H.out h)
    clear h ho
    go_wp2_with fail
    refine (kty _ _ _ Sp.out).mono ?_
    rintro e w14 ⟨rfl, h⟩
    replace Sa := Lib.hid (Sa.out.below h)
    replace Sb := Lib.hid (Sb.out.below h)
    replace Su := Lib.hid (Su.out.below h)
    replace Sx := Lib.hid (Sx.out.below h)
    replace Sy := Lib.hid (Sy.out.below h)
    replace Sp := Lib.hid (Sp.out.below h)
    replace H := Lib.hid (Below.step H.out h)
    clear h
    clear Sp
    go_wp2_with fail
    refine (kcu _ _ _ Su.out).mono ?_
    rintro e w15 ⟨Ap, cp, rfl, ho, h⟩
    have Sp := Lib.hid (Spans.of_own ho)
    replace Sa := Lib.hid (Sa.out.below h)
    replace Sb := Lib.hid (Sb.out.below h)
    replace Su := Lib.hid (Su.out.below h)
    replace Sx := Lib.hid (Sx.out.below h)
    replace Sy := Lib.hid (Sy.out.below h)
    replace H := Lib.hid (Below.step H.out h)
    clear h ho
    go_wp2_with fail
    refine (ktu _ _ _ Sp.out).mono ?_
    rintro e w16 ⟨rfl, h⟩
    replace Sa := Lib.hid (Sa.out.below h)
    replace Sb := Lib.hid (Sb.out.below h)
    replace Su := Lib.hid (Su.out.below h)
    replace Sx := Lib.hid (Sx.out.below h)
    replace Sy := Lib.hid (Sy.out.below h)
    replace Sp := Lib.hid (Sp.out.below h)
    replace H := Lib.hid (Below.step H.out h)
    clear h
    clear Sp
    go_wp2_with fail
    refine (kca _ _ Sa.out _).mono ?_
    rintro e w17 ⟨Ap, cp, rfl, ho, h⟩
    have Sp := Lib.hid (Spans.of_own ho)
    replace Sa := Lib.hid (Sa.out.below h)
    replace Sb := Lib.hid (Sb.out.below h)
    replace Su := Lib.hid (Su.out.below h)
    replace Sx := Lib.hid (Sx.out.below h)
    replace Sy := Lib.hid (Sy.out.below h)
    replace H := Lib.hid (Below.step H.out h)
    clear h ho
    go_wp2_with fail
    refine (kta _ _ _ Sp.out).mono ?_
    rintro e w18 ⟨rfl, h⟩
    replace Sa := Lib.hid (Sa.out.below h)
    replace Sb := Lib.hid (Sb.out.below h)
    replace Su := Lib.hid (Su.out.below h)
    replace Sx := Lib.hid (Sx.out.below h)
    replace Sy := Lib.hid (Sy.out.below h)
    replace Sp := Lib.hid (Sp.out.below h)
    replace H := Lib.hid (Below.step H.out h)
    clear h
    clear Sp
    clear kta ktx kty ktu kca kcy hw
    go_wp2_with fail
    refine (kcu _ _ _ Su.out).mono ?_
    rintro e w19 ⟨Ap, cp, rfl, ho, h⟩
    have Sp := Lib.hid (Spans.of_own ho)
    replace Sa := Lib.hid (Sa.out.below h)
    replace Sb := Lib.hid (Sb.out.below h)
    replace Su := Lib.hid (Su.out.below h)
    replace Sx := Lib.hid (Sx.out.below h)
    replace Sy := Lib.hid (Sy.out.below h)
    replace H := Lib.hid (Below.step H.out h)
    clear h ho
    go_wp2_with fail
    refine (kuu _ _ _ Sp.out).mono ?_
    rintro e w20 ⟨Aq, cq, rfl, ho, h⟩
    have Sq := Lib.hid (Spans.of_own ho)
    replace Sa := Lib.hid (Sa.out.below h)
    replace Sb := Lib.hid (Sb.out.below h)
    replace Su := Lib.hid (Su.out.below h)
    replace Sx := Lib.hid (Sx.out.below h)
    replace Sy := Lib.hid (Sy.out.below h)
    replace Sp := Lib.hid (Sp.out.below h)
    replace H := Lib.hid (Below.step H.out h)
    clear h ho
    clear Sp
    go_wp2_with fail
    refine (sameS_yes u Aq Au cq cu _ Sq.out Su.out (by omega)).mono ?_
    rintro e w21 ⟨rfl, h⟩
    replace Sa := Lib.hid (Sa.out.below h)
    replace Sb := Lib.hid (Sb.out.below h)
    replace Su := Lib.hid (Su.out.below h)
    replace Sx := Lib.hid (Sx.out.below h)
    replace Sy := Lib.hid (Sy.out.below h)
    replace Sq := Lib.hid (Sq.out.below h)
    replace H := Lib.hid (Below.step H.out h)
    clear h
    clear Sq
    have Su0 := Su
    have H0 := H
    go_wp2_with fail
    refine (kcx _ _ _ Sx.out).mono ?_
    rintro e w22 ⟨Ap, cp, rfl, ho, h⟩
    have Sp := Lib.hid (Spans.of_own ho)
    have Op := Lib.hid ho
    have hbp := h
    replace Sa := Lib.hid (Sa.out.below h)
    replace Sb := Lib.hid (Sb.out.below h)
    replace Su := Lib.hid (Su.out.below h)
    replace Sx := Lib.hid (Sx.out.below h)
    replace Sy := Lib.hid (Sy.out.below h)
    replace H := Lib.hid (Below.step H.out h)
    clear h ho
    have hle := hbp.size
    go_wp2_with (first
      | (at_builtin
         refine wpList_append_anyG (by rfl) _ _ _ rfl w21.heap.size 23 i0 _ 2 16 Try.underlying30 hi hz0 hz1 hz2 rfl (by omega) _ x.length _ rfl Op.out w22.heap.size Ay y.length cy (y.flatMap encS) rfl (Spans.reads Sy.out) (one_spans _) (by simp only [maxLen]; omega) (by omega) hle ?_
         intro v4 w23 hown4 hg4 _
         obtain ⟨A4, c4, rfl⟩ := own_form hown4
         have S4 : Hid (Spans w23 A4 (x ++ y)) := Lib.hid (Spans.of_own (by rw [List.length_append, List.flatMap_append]; exact hown4))
         have HG : Hid (Below w21.heap.size w21 w23) := Lib.hid (hbp.grown hg4 hle (fun g hg => (Op.out.lt g hg).1))
         clear hown4 hg4))
    replace Su := Lib.hid ((Su0.out).below HG.out)
    replace H := Lib.hid (Below.step H0.out HG.out)
    have kxy' := kxy A4 c4 _ S4.out
    rw [List.length_append] at kxy'
    clear hbp hle Sp Sx Sy Op Sa Sb H0 Su0 HG kxy S4
    go_wp2_with fail
    refine (kxy').mono ?_
    rintro e w24 ⟨Aq, cq, rfl, ho, h⟩
    have Sq := Lib.hid (Spans.of_own ho)
    replace Su := Lib.hid (Su.out.below h)
    replace H := Lib.hid (Below.step H.out h)
    clear h ho
    go_wp2_with fail
    refine (sameS_yes u Aq Au cq cu _ Sq.out Su.out (by omega)).mono ?_
    rintro e w25 ⟨rfl, h⟩
    replace Su := Lib.hid (Su.out.below h)
    replace Sq := Lib.hid (Sq.out.below h)
    replace H := Lib.hid (Below.step H.out h)
    clear h
    clear Sq
    go_wp2_with fail
    refine (awake_any _).mono ?_
    rintro e w26 ⟨rfl, h⟩
    replace Su := Lib.hid (Su.out.below h)
    replace H := Lib.hid (Below.step H.out h)
    clear h
    go_wp2
    go_ret
    exact Ret.mk rfl H.out

end Go.Proofs.Ytofnbohcofgfkaa
