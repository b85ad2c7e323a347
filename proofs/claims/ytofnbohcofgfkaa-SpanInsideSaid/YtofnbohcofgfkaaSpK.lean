/- The examples of the chapter. -/
import Derived.Test.YtofnbohcofgfkaaSpY
import Derived.Test.YtofnbohcofgfkaaSpB
namespace Go.Proofs.Ytofnbohcofgfkaa
open Go.RowKit

instance decSp : DecidableEq Sp := fun a b => if h : a.f = b.f ∧ a.t = b.t then isTrue (Sp.ext' h.1 h.2) else isFalse fun e => h (by rw [e]; exact ⟨rfl, rfl⟩)
theorem Spans.lit (w : World) (l : List Sp) (t : TypeId) : Spans (w.alloc (.cells (l.flatMap encS).toArray t)) (some ⟨w.heap.size, 0, none⟩) l := fun i hi => by
  refine ⟨_, rfl, by simp, fun j v hv => ?_⟩
  have hj : j < 2 := by
    rcases Nat.lt_or_ge j 2 with h | h
    · exact h
    · rw [List.getElem?_eq_none (by simpa [encS] using h)] at hv; cases hv
  rw [show ((⟨w.heap.size, 0, none⟩ : Addr).add (i * 2 + j)) = ⟨w.heap.size, i * 2 + j, none⟩ by unfold Addr.add; split <;> simp_all, World.cell?_alloc_at _ _ _ _ rfl]
  have := flat_get l (i * 2 + j)
  rw [show (i * 2 + j) / 2 = i by omega, show (i * 2 + j) % 2 = j by omega, List.getElem?_eq_getElem hi] at this
  simp only [List.getElem?_toArray]
  rw [this]
  simpa using hv
abbrev exA : List Sp := [⟨5, 9⟩, ⟨0, 5⟩, ⟨20, 21⟩]
abbrev exU : List Sp := [⟨0, 9⟩, ⟨20, 21⟩]
abbrev exM : List Sp := [⟨0, 3⟩, ⟨4, 10⟩]
theorem ex1 (A : Option Addr) (c : Nat) (w : World) (h : Spans w A exA) : Calls Try.prog 20 #[.slice A 3 c] w (RetSpans exU w) := by
  have h := union_any exA A c w h (by simp)
  rw [show norm exA = exU by rw [← unionR_norm]; decide +kernel] at h
  exact h
theorem ex2 (A B : Option Addr) (c d : Nat) (w : World) (h : Spans w A [⟨0, 10⟩]) (k : Spans w B [⟨3, 4⟩]) : Calls Try.prog 26 #[.slice A 1 c, .slice B 1 d] w (RetSpans exM w) := by
  have h := minus_any [⟨0, 10⟩] [⟨3, 4⟩] A B c d w h k (by simp) (by simp)
  rw [show minusN [⟨0, 10⟩] [⟨3, 4⟩] = exM by rw [← minusR_eq]; decide +kernel] at h
  exact h
theorem ex3 (a b : Sp) (n : Int) (w : World) (h : relI a b = n) : Calls Try.prog 14 #[.agg #[.int .i64 a.f, .int .i64 a.t], .agg #[.int .i64 b.f, .int .i64 b.t]] w (Ret (.int .i64 n) w) := by
  rw [← h]; exact relation_any a b w
theorem ex4 (l : List Sp) (x : Sp) (A : Option Addr) (c : Nat) (v : Bool) (w : World) (h : Spans w A l) (hl : l.length ≤ 5) (hv : coversB l x = v) : Calls Try.prog 28 #[.slice A l.length c, .agg #[.int .i64 x.f, .int .i64 x.t]] w (Ret (.bool v) w) := by
  rw [← hv]; exact covers_any l x A c w h (by omega)
theorem ex5 (A : Option Addr) (c : Nat) (w : World) (h : Spans w A [⟨7, 7⟩]) : Calls Try.prog 30 #[.slice A 1 c] w (Ret (.int .i64 0) w) := by
  have h := total_any [⟨7, 7⟩] A c w h (by simp)
  rw [show total (norm [⟨7, 7⟩]) = 0 by rw [← unionR_norm]; decide +kernel] at h
  exact h
theorem covers_eval (l : List Sp) (x : Sp) : coversB l x = (rt x && (minusR [x] l).length == 0) := by rw [covers_ref, minusR_eq]

set_option maxRecDepth 20000 in
set_option maxHeartbeats 4000000 in
theorem awake_any (w : World) : Calls Try.prog 16 #[] w (Ret (.bool true) w) := by
  go_enter Try.func16, Try.ntmps16
  go_wp2_with fail
  have hW0 : Hid (Spans (((w.alloc (.cells #[.int .i64 0, .int .i64 5] 23)).alloc (.cells #[.int .i64 5, .int .i64 9] 23)).alloc (.cells #[.int .i64 5, .int .i64 9, .int .i64 0, .int .i64 5, .int .i64 20, .int .i64 21] 23)) (some ⟨w.heap.size + 1 + 1, 0, none⟩) exA) := Lib.hid (by
    have := Spans.lit ((w.alloc (.cells #[.int .i64 0, .int .i64 5] 23)).alloc (.cells #[.int .i64 5, .int .i64 9] 23)) exA 23
    rw [show ((w.alloc (.cells #[.int .i64 0, .int .i64 5] 23)).alloc (.cells #[.int .i64 5, .int .i64 9] 23)).heap.size = w.heap.size + 1 + 1 by simp] at this
    exact this)
  have hF : Hid (TwoS (((w.alloc (.cells #[.int .i64 0, .int .i64 5] 23)).alloc (.cells #[.int .i64 5, .int .i64 9] 23)).alloc (.cells #[.int .i64 5, .int .i64 9, .int .i64 0, .int .i64 5, .int .i64 20, .int .i64 21] 23)) w.heap.size ⟨0, 5⟩) := Lib.hid
    (((TwoS.new w ⟨0, 5⟩ _).below ((Below.refl _ _).alloc (Nat.le_refl _) _)).below ((Below.refl _ _).alloc (Nat.le_refl _) _))
  have hN : Hid (TwoS (((w.alloc (.cells #[.int .i64 0, .int .i64 5] 23)).alloc (.cells #[.int .i64 5, .int .i64 9] 23)).alloc (.cells #[.int .i64 5, .int .i64 9, .int .i64 0, .int .i64 5, .int .i64 20, .int .i64 21] 23)) (w.heap.size + 1) ⟨5, 9⟩) := Lib.hid (by
    have := (TwoS.new (w.alloc (.cells #[.int .i64 0, .int .i64 5] 23)) ⟨5, 9⟩ 23).below ((Below.refl _ _).alloc (Nat.le_refl _) (.cells #[.int .i64 5, .int .i64 9, .int .i64 0, .int .i64 5, .int .i64 20, .int .i64 21] 23))
    rw [show (w.alloc (.cells #[.int .i64 0, .int .i64 5] 23)).heap.size = w.heap.size + 1 by simp] at this
    exact this)
  have hB : Hid (Below w.heap.size w (((w.alloc (.cells #[.int .i64 0, .int .i64 5] 23)).alloc (.cells #[.int .i64 5, .int .i64 9] 23)).alloc (.cells #[.int .i64 5, .int .i64 9, .int .i64 0, .int .i64 5, .int .i64 20, .int .i64 21] 23))) := Lib.hid (by repeat (first | assumption | exact Below.refl _ _ | refine Below.alloc ?_ (by first | omega | (simp; done) | (simp; omega)) _ | refine Below.setCell ?_ (by first | omega | (simp; done) | (simp; omega)) _ | refine Below.drew ?_ | refine Below.drewN_ ?_ _ | refine Below.step ?_ (by assumption)))
  generalize ((w.alloc (.cells #[.int .i64 0, .int .i64 5] 23)).alloc (.cells #[.int .i64 5, .int .i64 9] 23)).alloc (.cells #[.int .i64 5, .int .i64 9, .int .i64 0, .int .i64 5, .int .i64 20, .int .i64 21] 23) = W at *
  refine (ex1 _ _ _ hW0.out).mono ?_
  rintro e w1 ⟨A1, c1, rfl, ho1, h1⟩
  have U1 := Lib.hid (Spans.of_own ho1)
  have F1 := Lib.hid (hF.out.below h1)
  have N1 := Lib.hid (hN.out.below h1)
  have B1 := Lib.hid (Below.step hB.out h1)
  clear ho1 h1 hW0 hF hN hB
  obtain ⟨z1, f10, f11⟩ := F1.out
  obtain ⟨_, n10, n11⟩ := N1.out
  go_wp2_with fail
  have G : Hid (Below w1.heap.size w1 ((w1.alloc (.cells #[.int .i64 0, .int .i64 10] 23)).alloc (.cells #[.int .i64 3, .int .i64 4] 23))) := Lib.hid (((Below.refl _ _).alloc (Nat.le_refl _) _).alloc (by simp) _)
  have L1 : Hid (Spans ((w1.alloc (.cells #[.int .i64 0, .int .i64 10] 23)).alloc (.cells #[.int .i64 3, .int .i64 4] 23)) (some ⟨w1.heap.size, 0, none⟩) [⟨0, 10⟩]) := Lib.hid ((Spans.lit w1 [⟨0, 10⟩] 23).alloc _)
  have L2 : Hid (Spans ((w1.alloc (.cells #[.int .i64 0, .int .i64 10] 23)).alloc (.cells #[.int .i64 3, .int .i64 4] 23)) (some ⟨w1.heap.size + 1, 0, none⟩) [⟨3, 4⟩]) := Lib.hid (by
    have := Spans.lit (w1.alloc (.cells #[.int .i64 0, .int .i64 10] 23)) [⟨3, 4⟩] 23
    rw [show (w1.alloc (.cells #[.int .i64 0, .int .i64 10] 23)).heap.size = w1.heap.size + 1 by simp] at this
    exact this)
  refine (ex2 _ _ _ _ _ L1.out L2.out).mono ?_
  rintro e w2 ⟨A2, c2, rfl, ho2, h2⟩
  have M2 := Lib.hid (Spans.of_own ho2)
  clear ho2 L1 L2
  have G2 := Lib.hid (Below.step G.out h2)
  have U2 := Lib.hid (U1.out.below G2.out)
  have F2 := Lib.hid (F1.out.below G2.out)
  have N2 := Lib.hid (N1.out.below G2.out)
  have B2 := Lib.hid (Below.step B1.out G2.out)
  clear h2 G G2  U1 F1 N1 B1 z1 f10 f11 n10 n11
  obtain ⟨z2, f20, f21⟩ := F2.out
  obtain ⟨_, n20, n21⟩ := N2.out
  go_wp2_with fail
  have G := Lib.hid (Below.refl w2.heap.size w2)
  refine (ex3 ⟨0, 5⟩ ⟨5, 9⟩ 2 _ (by decide +kernel)).mono ?_
  rintro e w3 ⟨rfl, h3⟩
  have G3 := Lib.hid (Below.step G.out h3)
  have U3 := Lib.hid (U2.out.below G3.out)
  have M3 := Lib.hid (M2.out.below G3.out)
  have F3 := Lib.hid (F2.out.below G3.out)
  have N3 := Lib.hid (N2.out.below G3.out)
  have B3 := Lib.hid (Below.step B2.out G3.out)
  clear h3 G G3 M2 U2 F2 N2 B2 z2 f20 f21 n20 n21
  obtain ⟨z3, f30, f31⟩ := F3.out
  obtain ⟨_, n30, n31⟩ := N3.out
  go_wp2_with fail
  have G := Lib.hid (Below.refl w3.heap.size w3)
  refine (ex3 ⟨5, 9⟩ ⟨0, 5⟩ 12 _ (by decide +kernel)).mono ?_
  rintro e w4 ⟨rfl, h4⟩
  have G4 := Lib.hid (Below.step G.out h4)
  have U4 := Lib.hid (U3.out.below G4.out)
  have M4 := Lib.hid (M3.out.below G4.out)
  have F4 := Lib.hid (F3.out.below G4.out)
  have N4 := Lib.hid (N3.out.below G4.out)
  have B4 := Lib.hid (Below.step B3.out G4.out)
  clear h4 G G4 M3 U3 F3 N3 B3 z3 f30 f31 n30 n31
  obtain ⟨z4, f40, f41⟩ := F4.out
  obtain ⟨_, n40, n41⟩ := N4.out
  go_wp2_with fail
  have G := Lib.hid (Below.refl w4.heap.size w4)
  refine (flip_any 2 _).mono ?_
  rintro e w5 ⟨rfl, h5⟩
  have G5 := Lib.hid (Below.step G.out h5)
  have U5 := Lib.hid (U4.out.below G5.out)
  have M5 := Lib.hid (M4.out.below G5.out)
  have F5 := Lib.hid (F4.out.below G5.out)
  have N5 := Lib.hid (N4.out.below G5.out)
  have B5 := Lib.hid (Below.step B4.out G5.out)
  clear h5 G G5 M4 U4 F4 N4 B4 z4 f40 f41 n40 n41
  obtain ⟨z5, f50, f51⟩ := F5.out
  obtain ⟨_, n50, n51⟩ := N5.out
  go_wp2_with fail
  have G := Lib.hid ((Below.refl w5.heap.size w5).alloc (Nat.le_refl _) (.cells #[.int .i64 0, .int .i64 9, .int .i64 20, .int .i64 21] 23))
  refine (sameS_yes exU A1 (some ⟨w5.heap.size, 0, none⟩) c1 2 _ (U5.out.below G.out) (Spans.lit w5 exU 23) (by simp)).mono ?_
  rintro e w6 ⟨rfl, h6⟩
  have G6 := Lib.hid (Below.step G.out h6)
  have U6 := Lib.hid (U5.out.below G6.out)
  have M6 := Lib.hid (M5.out.below G6.out)
  have F6 := Lib.hid (F5.out.below G6.out)
  have N6 := Lib.hid (N5.out.below G6.out)
  have B6 := Lib.hid (Below.step B5.out G6.out)
  clear h6 G G6 M5 U5 F5 N5 B5 z5 f50 f51 n50 n51
  obtain ⟨z6, f60, f61⟩ := F6.out
  obtain ⟨_, n60, n61⟩ := N6.out
  go_wp2_with fail
  have G := Lib.hid ((Below.refl w6.heap.size w6).alloc (Nat.le_refl _) (.cells #[.int .i64 0, .int .i64 3, .int .i64 4, .int .i64 10] 23))
  refine (sameS_yes exM A2 (some ⟨w6.heap.size, 0, none⟩) c2 2 _ (M6.out.below G.out) (Spans.lit w6 exM 23) (by simp)).mono ?_
  rintro e w7 ⟨rfl, h7⟩
  have G7 := Lib.hid (Below.step G.out h7)
  have U7 := Lib.hid (U6.out.below G7.out)
  have M7 := Lib.hid (M6.out.below G7.out)
  have F7 := Lib.hid (F6.out.below G7.out)
  have N7 := Lib.hid (N6.out.below G7.out)
  have B7 := Lib.hid (Below.step B6.out G7.out)
  clear h7 G G7 M6 U6 F6 N6 B6 z6 f60 f61 n60 n61
  obtain ⟨z7, f70, f71⟩ := F7.out
  obtain ⟨_, n70, n71⟩ := N7.out
  go_wp2_with fail
  have G := Lib.hid ((Below.refl w7.heap.size w7).alloc (Nat.le_refl _) (.cells #[.int .i64 0, .int .i64 5, .int .i64 5, .int .i64 9] 23))
  refine (ex4 [⟨0, 5⟩, ⟨5, 9⟩] ⟨3, 8⟩ (some ⟨w7.heap.size, 0, none⟩) 2 true _ (Spans.lit w7 [⟨0, 5⟩, ⟨5, 9⟩] 23) (by simp) (by rw [covers_eval]; decide +kernel)).mono ?_
  rintro e w8 ⟨rfl, h8⟩
  have G8 := Lib.hid (Below.step G.out h8)
  have U8 := Lib.hid (U7.out.below G8.out)
  have M8 := Lib.hid (M7.out.below G8.out)
  have F8 := Lib.hid (F7.out.below G8.out)
  have N8 := Lib.hid (N7.out.below G8.out)
  have B8 := Lib.hid (Below.step B7.out G8.out)
  clear h8 G G8 M7 U7 F7 N7 B7 z7 f70 f71 n70 n71
  obtain ⟨z8, f80, f81⟩ := F8.out
  obtain ⟨_, n80, n81⟩ := N8.out
  go_wp2_with fail
  have G := Lib.hid ((Below.refl w8.heap.size w8).alloc (Nat.le_refl _) (.cells #[.int .i64 0, .int .i64 5] 23))
  refine (ex4 [⟨0, 5⟩] ⟨3, 8⟩ (some ⟨w8.heap.size, 0, none⟩) 1 false _ (Spans.lit w8 [⟨0, 5⟩] 23) (by simp) (by rw [covers_eval]; decide +kernel)).mono ?_
  rintro e w9 ⟨rfl, h9⟩
  have G9 := Lib.hid (Below.step G.out h9)
  have U9 := Lib.hid (U8.out.below G9.out)
  have M9 := Lib.hid (M8.out.below G9.out)
  have F9 := Lib.hid (F8.out.below G9.out)
  have N9 := Lib.hid (N8.out.below G9.out)
  have B9 := Lib.hid (Below.step B8.out G9.out)
  clear h9 G G9 M8 U8 F8 N8 B8 z8 f80 f81 n80 n81
  obtain ⟨z9, f90, f91⟩ := F9.out
  obtain ⟨_, n90, n91⟩ := N9.out
  go_wp2_with fail
  have G := Lib.hid ((Below.refl w9.heap.size w9).alloc (Nat.le_refl _) (.cells #[.int .i64 7, .int .i64 7] 23))
  refine (ex5 (some ⟨w9.heap.size, 0, none⟩) 1 _ (Spans.lit w9 [⟨7, 7⟩] 23)).mono ?_
  rintro e w10 ⟨rfl, h10⟩
  have G10 := Lib.hid (Below.step G.out h10)
  have U10 := Lib.hid (U9.out.below G10.out)
  have M10 := Lib.hid (M9.out.below G10.out)
  have F10 := Lib.hid (F9.out.below G10.out)
  have N10 := Lib.hid (N9.out.below G10.out)
  have B10 := Lib.hid (Below.step B9.out G10.out)
  clear h10 G G10 M9 U9 F9 N9 B9 z9 f90 f91 n90 n91
  obtain ⟨z10, f100, f101⟩ := F10.out
  obtain ⟨_, n100, n101⟩ := N10.out
  go_wp2_with fail
  refine (right_any ⟨0, 5⟩ _).mono ?_
  rintro e w11 ⟨rfl, h⟩
  have HE := Lib.hid (Below.step B10.out h)
  clear h
  go_wp2
  go_ret
  exact Ret.mk rfl HE.out
end Go.Proofs.Ytofnbohcofgfkaa
