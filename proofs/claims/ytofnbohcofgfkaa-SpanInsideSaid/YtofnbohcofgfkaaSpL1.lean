/- SpanRelates, SpanFlips, SpanInverse, SpanUnions. -/
import Derived.Test.YtofnbohcofgfkaaSpK
namespace Go.Proofs.Ytofnbohcofgfkaa
open Go.RowKit

set_option maxRecDepth 20000 in
set_option maxHeartbeats 4000000 in
theorem flips_walk (W : World) (n : Int) : Calls Try.prog 4 #[.int .i64 n] W (Ret (.bool true) W) := by
  have k1 := fun w' => flip_any n w'
  have k2 := fun w' => rflip_any n w'
  generalize flipI n = m at *
  go_enter Try.func4, Try.ntmps4
  go_wp2_with fail
  refine (k1 _).mono ?_
  rintro e w1 ⟨rfl, h1⟩
  go_wp2_with fail
  refine (k2 _).mono ?_
  rintro e w2 ⟨rfl, h2⟩
  have H2 := Lib.hid (Below.step h1 h2)
  clear h1 h2 k1 k2
  go_wp2_with fail
  refine (awake_any _).mono ?_
  rintro e w3 ⟨rfl, h3⟩
  have H3 := Lib.hid (Below.step H2.out h3)
  clear h3
  go_wp2
  go_ret
  exact Ret.mk rfl H3.out

set_option maxRecDepth 20000 in
set_option maxHeartbeats 4000000 in
theorem relates_walk (W : World) (x y : Sp) : Calls Try.prog 3 #[.agg #[.int .i64 x.f, .int .i64 x.t], .agg #[.int .i64 y.f, .int .i64 y.t]] W (Ret (.bool true) W) := by
  have k1 := fun w' => right_any x w'
  have k2 := fun w' => rright_any x w'
  have k3 := fun w' => relation_any x y w'
  have k4 := fun w' => rrelation_any x y w'
  have k5 := fun w' => awake_any w'
  generalize rt x = v at *
  generalize relI x y = m at *
  have hB : Hid (Below W.heap.size W ((W.alloc (.cells #[.int .i64 x.f, .int .i64 x.t] 23)).alloc (.cells #[.int .i64 y.f, .int .i64 y.t] 23))) := Lib.hid (by repeat (first | assumption | exact Below.refl _ _ | refine Below.alloc ?_ (by first | omega | (simp; done) | (simp; omega)) _ | refine Below.setCell ?_ (by first | omega | (simp; done) | (simp; omega)) _ | refine Below.drew ?_ | refine Below.drewN_ ?_ _ | refine Below.step ?_ (by assumption)))
  go_enter Try.func3, Try.ntmps3
  go_wp2_with fail
  refine region_past (by kernel_rfl) (by kernel_rfl) ?_
  repeat (go_big_quiet_step (first | with_reducible exact Calls.past (k1 _) | with_reducible exact Calls.past (k2 _) | with_reducible exact Calls.past (k3 _) | with_reducible exact Calls.past (k4 _) | with_reducible exact Calls.past (k5 _)))
  refine wpQuiet_nil ?_
  rintro w1 ⟨⟨_, hb1⟩, rfl⟩
  have HE := Lib.hid (Below.step hB.out hb1)
  clear hb1
  go_wp2
  go_ret
  exact Ret.mk rfl HE.out

theorem relI_zero {a b : Sp} (h : rt a = false ∨ rt b = false) : relI a b = 0 ∧ relI b a = 0 := by
  unfold relI
  rcases h with h | h <;> simp [h]
set_option maxRecDepth 20000 in
set_option maxHeartbeats 4000000 in
theorem inverse_walk (W : World) (x y : Sp) : Calls Try.prog 5 #[.agg #[.int .i64 x.f, .int .i64 x.t], .agg #[.int .i64 y.f, .int .i64 y.t]] W (Ret (.bool true) W) := by
  have k1 := fun w' => relation_any x y w'
  have k2 := fun w' => relation_any y x w'
  have k3 := fun w' => right_any x w'
  have k4 := fun w' => right_any y w'
  have k5 := fun w' => awake_any w'
  have hq := eql_sp
  have hB : Hid (Below W.heap.size W ((W.alloc (.cells #[.int .i64 x.f, .int .i64 x.t] 23)).alloc (.cells #[.int .i64 y.f, .int .i64 y.t] 23))) := Lib.hid (by repeat (first | assumption | exact Below.refl _ _ | refine Below.alloc ?_ (by first | omega | (simp; done) | (simp; omega)) _ | refine Below.setCell ?_ (by first | omega | (simp; done) | (simp; omega)) _ | refine Below.drew ?_ | refine Below.drewN_ ?_ _ | refine Below.step ?_ (by assumption)))
  have hT : Hid (TwoS ((W.alloc (.cells #[.int .i64 x.f, .int .i64 x.t] 23)).alloc (.cells #[.int .i64 y.f, .int .i64 y.t] 23)) W.heap.size x ∧ TwoS ((W.alloc (.cells #[.int .i64 x.f, .int .i64 x.t] 23)).alloc (.cells #[.int .i64 y.f, .int .i64 y.t] 23)) (W.heap.size + 1) y) := Lib.hid (by
    refine ⟨(TwoS.new W x _).below ((Below.refl _ _).alloc (Nat.le_refl _) _), ?_⟩
    have := TwoS.new (W.alloc (.cells #[.int .i64 x.f, .int .i64 x.t] 23)) y 23
    rw [show (W.alloc (.cells #[.int .i64 x.f, .int .i64 x.t] 23)).heap.size = W.heap.size + 1 by simp] at this
    exact this)
  rcases hx : rt x with _ | _
  · have hz := relI_zero (a := x) (b := y) (.inl hx)
    rw [hx] at k3
    rw [hz.1] at k1
    rw [hz.2] at k2
    clear hz hx k4
    go_enter Try.func5, Try.ntmps5
    go_wp2_with fail
    refine region_past (by kernel_rfl) (by kernel_rfl) ?_
    repeat (go_big_quiet_step (first | with_reducible exact Calls.past (k1 _) | with_reducible exact Calls.past (k2 _)))
    refine wpQuiet_nil ?_
    rintro w1 ⟨⟨_, hb1⟩, rfl⟩
    obtain ⟨_, x0, x1⟩ := hT.out.1.below hb1
    have HE := Lib.hid (Below.step hB.out hb1)
    clear hb1 k1 k2
    go_wp2_with fail
    refine (k3 _).mono ?_
    rintro e w2 ⟨rfl, h2⟩
    have HE2 := Lib.hid (Below.step HE.out h2)
    clear h2 k3
    go_wp2_with fail
    refine (k5 _).mono ?_
    rintro e w3 ⟨rfl, h3⟩
    have HE3 := Lib.hid (Below.step HE2.out h3)
    clear h3 k5
    go_wp2
    go_ret
    exact Ret.mk rfl HE3.out
  · rcases hy : rt y with _ | _
    · have hz := relI_zero (a := x) (b := y) (.inr hy)
      rw [hx] at k3
      rw [hy] at k4
      rw [hz.1] at k1
      rw [hz.2] at k2
      clear hz hx hy
      go_enter Try.func5, Try.ntmps5
      go_wp2_with fail
      refine region_past (by kernel_rfl) (by kernel_rfl) ?_
      repeat (go_big_quiet_step (first | with_reducible exact Calls.past (k1 _) | with_reducible exact Calls.past (k2 _)))
      refine wpQuiet_nil ?_
      rintro w1 ⟨⟨_, hb1⟩, rfl⟩
      obtain ⟨_, x0, x1⟩ := hT.out.1.below hb1
      have HY := Lib.hid (hT.out.2.below hb1)
      have HE := Lib.hid (Below.step hB.out hb1)
      clear hb1 k1 k2
      go_wp2_with fail
      refine (k3 _).mono ?_
      rintro e w2 ⟨rfl, h2⟩
      have HE2 := Lib.hid (Below.step HE.out h2)
      obtain ⟨_, y0, y1⟩ := HY.out.below h2
      clear h2 k3
      go_wp2_with fail
      refine (k4 _).mono ?_
      rintro e w2' ⟨rfl, h2⟩
      have HE2 := Lib.hid (Below.step HE2.out h2)
      clear h2 k4
      go_wp2_with fail
      refine (k5 _).mono ?_
      rintro e w3 ⟨rfl, h3⟩
      have HE3 := Lib.hid (Below.step HE2.out h3)
      clear h3 k5
      go_wp2
      go_ret
      exact Ret.mk rfl HE3.out
    · obtain ⟨r1, r2, r3, r4⟩ := relI_inverse hx hy
      rw [hx] at k3
      rw [hy] at k4
      rw [r3] at k2
      have k6 := fun w' => flip_any (relI x y) w'
      have k7 := fun w' => flip_any (14 - relI x y) w'
      rw [show flipI (relI x y) = 14 - relI x y by unfold flipI; rw [if_neg (by omega)]] at k6
      rw [show flipI (14 - relI x y) = relI x y by unfold flipI; rw [if_neg (by omega)]; omega] at k7
      have hs : Hid (((relI x y == 7) == (x.f == y.f && x.t == y.t)) = true) := Lib.hid (by
        rw [beq_iff_eq, Bool.eq_iff_iff]; simp [r4])
      clear r3 r4 hx hy
      generalize relI x y = r at *
      have hw : IntKind.i64.wrap (14 - r) = 14 - r := by rw [IntKind.wrap_i64] <;> omega
      go_enter Try.func5, Try.ntmps5
      go_wp2_with fail
      refine region_past (by kernel_rfl) (by kernel_rfl) ?_
      repeat (go_big_quiet_step (first | with_reducible exact Calls.past (k1 _) | with_reducible exact Calls.past (k2 _)))
      refine wpQuiet_nil ?_
      rintro w1 ⟨⟨_, hb1⟩, rfl⟩
      have HX := Lib.hid (hT.out.1.below hb1)
      obtain ⟨_, x0, x1⟩ := HX.out
      have HY := Lib.hid (hT.out.2.below hb1)
      have HE := Lib.hid (Below.step hB.out hb1)
      clear hb1 k1 k2
      go_wp2_with fail
      refine (k3 _).mono ?_
      rintro e w2 ⟨rfl, h2⟩
      have HE2 := Lib.hid (Below.step HE.out h2)
      have HY2 := Lib.hid (HY.out.below h2)
      have HX2 := Lib.hid (HX.out.below h2)
      obtain ⟨_, y0, y1⟩ := HY2.out
      clear h2 k3 x0 x1 HX HY
      go_wp2_with fail
      refine (k4 _).mono ?_
      rintro e w3 ⟨rfl, h2⟩
      have HE3 := Lib.hid (Below.step HE2.out h2)
      have HY3 := Lib.hid (HY2.out.below h2)
      have HX3 := Lib.hid (HX2.out.below h2)
      clear h2 k4 y0 y1 HX2 HY2
      go_wp2_with fail
      refine (k6 _).mono ?_
      rintro e w4 ⟨rfl, h2⟩
      have HE4 := Lib.hid (Below.step HE3.out h2)
      have HY4 := Lib.hid (HY3.out.below h2)
      have HX4 := Lib.hid (HX3.out.below h2)
      clear h2 k6 HX3 HY3
      go_wp2_with fail
      refine (k7 _).mono ?_
      rintro e w5 ⟨rfl, h2⟩
      have HE5 := Lib.hid (Below.step HE4.out h2)
      obtain ⟨_, y0, y1⟩ := HY4.out.below h2
      obtain ⟨_, x0, x1⟩ := HX4.out.below h2
      have hs := hs.out
      clear h2 k7 HX4 HY4
      go_wp2_with fail
      refine (k5 _).mono ?_
      rintro e w6 ⟨rfl, h3⟩
      have HE6 := Lib.hid (Below.step HE5.out h3)
      clear h3 k5
      go_wp2
      go_ret
      exact Ret.mk rfl HE6.out

set_option maxRecDepth 20000 in
set_option maxHeartbeats 4000000 in
theorem unions_walk (W : World) (l : List Sp) (A : Option Addr) (ca : Nat) (ha : Spans W A l) : Calls Try.prog 6 #[.slice A l.length ca] W (Ret (.bool true) W) := by
  have k5 := fun w' => awake_any w'
  by_cases hl : 60 < l.length
  · go_enter Try.func6, Try.ntmps6
    go_wp2_with fail
    refine (k5 _).mono ?_
    rintro e w3 ⟨rfl, h3⟩
    have HE3 := Lib.hid h3
    clear h3 k5
    go_wp2
    go_ret
    exact Ret.mk rfl HE3.out
  · have k1 := copied_any l A ca W ha (by omega)
    have hnl := norm_len l
    have k2 := fun A' c' w' (h : Spans w' A' l) => union_any l A' c' w' h (by omega)
    have k3 := fun w' (h : Below W.heap.size W w') => runion_any l A ca w' (ha.below h) (by omega)
    have hl2 : (norm l).length ≤ 100000 := by omega
    generalize norm l = n at *
    go_enter Try.func6, Try.ntmps6
    go_wp2_with fail
    refine k1.mono ?_
    rintro e w1 ⟨A1, c1, rfl, ho1, h1⟩
    have k2' := k2 A1 c1 w1 (Spans.of_own ho1)
    have H1 := Lib.hid h1
    clear h1 k1 k2 ho1
    go_wp2_with fail
    refine k2'.mono ?_
    rintro e w2 ⟨A2, c2, rfl, ho2, h2⟩
    have S2 := Lib.hid (Spans.of_own ho2)
    have H2 := Lib.hid (Below.step H1.out h2)
    clear h2 k2' ho2
    go_wp2_with fail
    refine (k3 _ H2.out).mono ?_
    rintro e w3 ⟨A3, c3, rfl, ho3, h3⟩
    have k4 := sameS_yes n A2 A3 c2 c3 w3 (S2.out.below h3) (Spans.of_own ho3) hl2
    have H3 := Lib.hid (Below.step H2.out h3)
    clear h3 k3 ho3 S2
    go_wp2_with fail
    refine k4.mono ?_
    rintro e w4 ⟨rfl, h4⟩
    have H4 := Lib.hid (Below.step H3.out h4)
    clear h4 k4
    go_wp2_with fail
    refine (k5 _).mono ?_
    rintro e w5 ⟨rfl, h5⟩
    have H5 := Lib.hid (Below.step H4.out h5)
    clear h5 k5
    go_wp2
    go_ret
    exact Ret.mk rfl H5.out
end Go.Proofs.Ytofnbohcofgfkaa
