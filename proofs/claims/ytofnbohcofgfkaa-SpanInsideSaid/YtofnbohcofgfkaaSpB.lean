/- Relation, both sides. -/
import Derived.Test.YtofnbohcofgfkaaSpA
namespace Go.Proofs.Ytofnbohcofgfkaa
open Go.RowKit

theorem relI_no {a b : Sp} (h : (rt a && rt b) = false) : relI a b = 0 := by unfold relI; rw [h]; rfl
theorem relI_one {a b : Sp} (ha : rt a = true) (hb : rt b = true) (h : firstR a b ≠ 0) : relI a b = firstR a b := by unfold relI; rw [ha, hb]; simp [h]
theorem relI_two {a b : Sp} (ha : rt a = true) (hb : rt b = true) (h : firstR a b = 0) : relI a b = 14 - firstR b a := by unfold relI; rw [ha, hb]; simp [h]

set_option maxHeartbeats 1000000 in
theorem relation_any (a b : Sp) (w : World) : Calls Try.prog 14 #[.agg #[.int .i64 a.f, .int .i64 a.t], .agg #[.int .i64 b.f, .int .i64 b.t]] w (Ret (.int .i64 (relI a b)) w) := by
  have k1 := fun w' => right_any a w'
  have k2 := fun w' => right_any b w'
  have hb0 : Hid (Below w.heap.size w ((w.alloc (.cells #[.int .i64 a.f, .int .i64 a.t] 23)).alloc (.cells #[.int .i64 b.f, .int .i64 b.t] 23))) := Lib.hid (by repeat (first | assumption | exact Below.refl _ _ | refine Below.alloc ?_ (by first | omega | (simp; done) | (simp; omega)) _ | refine Below.setCell ?_ (by first | omega | (simp; done) | (simp; omega)) _ | refine Below.drew ?_ | refine Below.drewN_ ?_ _ | refine Below.step ?_ (by assumption)))
  have hA : ∀ W, Below ((w.alloc (.cells #[.int .i64 a.f, .int .i64 a.t] 23)).alloc (.cells #[.int .i64 b.f, .int .i64 b.t] 23)).heap.size ((w.alloc (.cells #[.int .i64 a.f, .int .i64 a.t] 23)).alloc (.cells #[.int .i64 b.f, .int .i64 b.t] 23)) W →
      W.cell? ⟨w.heap.size, 0, none⟩ = some (.int .i64 a.f) ∧ W.cell? ⟨w.heap.size, 1, none⟩ = some (.int .i64 a.t) ∧ W.cell? ⟨w.heap.size + 1, 0, none⟩ = some (.int .i64 b.f) ∧ W.cell? ⟨w.heap.size + 1, 1, none⟩ = some (.int .i64 b.t) := fun W h =>
    ⟨((bcell h).1 _ 0 (by simp; omega)).trans (by simp [go_sem]), ((bcell h).1 _ 1 (by simp; omega)).trans (by simp [go_sem]), ((bcell h).1 _ 0 (by simp)).trans (by simp [go_sem]), ((bcell h).1 _ 1 (by simp)).trans (by simp [go_sem])⟩
  have HA := Lib.hid hA
  clear hA
  rcases h1 : rt a with _ | _
  · rw [h1] at k1
    have HR := Lib.hid (relI_no (a := a) (b := b) (by rw [h1]; rfl))
    clear h1
    go_enter Try.func14, Try.ntmps14
    go_wp2_with fail
    refine (k1 _).mono ?_
    rintro e W1 ⟨rfl, hc1⟩
    have HE := Lib.hid (Below.step hb0.out hc1)
    clear hc1
    go_wp2
    go_ret
    exact Ret.mk (by rw [HR.out]; rfl) HE.out
  · rw [h1] at k1
    rcases h2 : rt b with _ | _
    · rw [h2] at k2
      have HR := Lib.hid (relI_no (a := a) (b := b) (by rw [h1, h2]; rfl))
      clear h1 h2
      go_enter Try.func14, Try.ntmps14
      go_wp2_with fail
      refine (k1 _).mono ?_
      rintro e W1 ⟨rfl, hc1⟩
      obtain ⟨c0, c1, c2, c3⟩ := HA.out W1 hc1
      have HB1 := Lib.hid (Below.step hb0.out hc1)
      clear hc1
      go_wp2_with fail
      refine (k2 _).mono ?_
      rintro e W2 ⟨rfl, hc2⟩
      have HE := Lib.hid (Below.step HB1.out hc2)
      clear hc2
      go_wp2
      go_ret
      exact Ret.mk (by rw [HR.out]; rfl) HE.out
    · rw [h2] at k2
      have k3 := fun w' => direct_any a b w' h1 h2
      have k4 := fun w' => direct_any b a w' h2 h1
      have hsd := firstR_sides h1 h2
      have hsd2 := firstR_sides h2 h1
      by_cases hz : firstR a b = 0
      · have HR := Lib.hid (relI_two h1 h2 hz)
        have HF : Hid (flipI (firstR b a) = 14 - firstR b a) := Lib.hid (by have := hsd.1 hz; unfold flipI; rw [if_neg (by omega)])
        rw [hz] at k3
        clear h1 h2 hz hsd hsd2
        go_enter Try.func14, Try.ntmps14
        go_wp2_with fail
        refine (k1 _).mono ?_
        rintro e W1 ⟨rfl, hc1⟩
        have HC1 := Lib.hid hc1
        obtain ⟨c0, c1, c2, c3⟩ := HA.out W1 hc1
        clear hc1
        go_wp2_with fail
        refine (k2 _).mono ?_
        rintro e W2 ⟨rfl, hc2⟩
        have HC2 := Lib.hid (Below.step HC1.out hc2)
        clear hc2 c0 c1 c2 c3
        obtain ⟨c0, c1, c2, c3⟩ := HA.out W2 HC2.out
        go_wp2_with fail
        refine (k3 _).mono ?_
        rintro e W3 ⟨rfl, hc3⟩
        have HC3 := Lib.hid (Below.step HC2.out hc3)
        clear hc3 c0 c1 c2 c3
        obtain ⟨c0, c1, c2, c3⟩ := HA.out W3 HC3.out
        go_wp2_with fail
        refine (k4 _).mono ?_
        rintro e W4 ⟨rfl, hc4⟩
        have HC4 := Lib.hid (Below.step HC3.out hc4)
        clear hc4 c0 c1 c2 c3
        go_wp2_with fail
        refine (flip_any _ _).mono ?_
        rintro e W5 ⟨rfl, hc5⟩
        have HE := Lib.hid (Below.step hb0.out (Below.step HC4.out hc5))
        clear hc5
        go_wp2
        go_ret
        exact Ret.mk (by rw [HR.out, ← HF.out]; rfl) HE.out
      · have HR := Lib.hid (relI_one h1 h2 hz)
        clear h1 h2 hsd hsd2 k4
        generalize firstR a b = R at *
        have hz1 : (R != 0) = true := by simpa using hz
        clear hz
        go_enter Try.func14, Try.ntmps14
        go_wp2_with fail
        refine (k1 _).mono ?_
        rintro e W1 ⟨rfl, hc1⟩
        have HC1 := Lib.hid hc1
        obtain ⟨c0, c1, c2, c3⟩ := HA.out W1 hc1
        clear hc1
        go_wp2_with fail
        refine (k2 _).mono ?_
        rintro e W2 ⟨rfl, hc2⟩
        have HC2 := Lib.hid (Below.step HC1.out hc2)
        clear hc2 c0 c1 c2 c3
        obtain ⟨c0, c1, c2, c3⟩ := HA.out W2 HC2.out
        go_wp2_with fail
        refine (k3 _).mono ?_
        rintro e W3 ⟨rfl, hc3⟩
        have HE := Lib.hid (Below.step hb0.out (Below.step HC2.out hc3))
        clear hc3 c0 c1 c2 c3
        go_wp2
        go_ret
        exact Ret.mk (by rw [HR.out]; rfl) HE.out
set_option maxHeartbeats 1000000 in
theorem rrelation_any (a b : Sp) (w : World) : Calls Try.prog 15 #[.agg #[.int .i64 a.f, .int .i64 a.t], .agg #[.int .i64 b.f, .int .i64 b.t]] w (Ret (.int .i64 (relI a b)) w) := by
  have k1 := fun w' => rright_any a w'
  have k2 := fun w' => rright_any b w'
  have hb0 : Hid (Below w.heap.size w ((w.alloc (.cells #[.int .i64 a.f, .int .i64 a.t] 23)).alloc (.cells #[.int .i64 b.f, .int .i64 b.t] 23))) := Lib.hid (by repeat (first | assumption | exact Below.refl _ _ | refine Below.alloc ?_ (by first | omega | (simp; done) | (simp; omega)) _ | refine Below.setCell ?_ (by first | omega | (simp; done) | (simp; omega)) _ | refine Below.drew ?_ | refine Below.drewN_ ?_ _ | refine Below.step ?_ (by assumption)))
  have hA : ∀ W, Below ((w.alloc (.cells #[.int .i64 a.f, .int .i64 a.t] 23)).alloc (.cells #[.int .i64 b.f, .int .i64 b.t] 23)).heap.size ((w.alloc (.cells #[.int .i64 a.f, .int .i64 a.t] 23)).alloc (.cells #[.int .i64 b.f, .int .i64 b.t] 23)) W →
      W.cell? ⟨w.heap.size, 0, none⟩ = some (.int .i64 a.f) ∧ W.cell? ⟨w.heap.size, 1, none⟩ = some (.int .i64 a.t) ∧ W.cell? ⟨w.heap.size + 1, 0, none⟩ = some (.int .i64 b.f) ∧ W.cell? ⟨w.heap.size + 1, 1, none⟩ = some (.int .i64 b.t) := fun W h =>
    ⟨((bcell h).1 _ 0 (by simp; omega)).trans (by simp [go_sem]), ((bcell h).1 _ 1 (by simp; omega)).trans (by simp [go_sem]), ((bcell h).1 _ 0 (by simp)).trans (by simp [go_sem]), ((bcell h).1 _ 1 (by simp)).trans (by simp [go_sem])⟩
  have HA := Lib.hid hA
  clear hA
  rcases h1 : rt a with _ | _
  · rw [h1] at k1
    have HR := Lib.hid (relI_no (a := a) (b := b) (by rw [h1]; rfl))
    clear h1
    go_enter Try.func15, Try.ntmps15
    go_wp2_with fail
    refine (k1 _).mono ?_
    rintro e W1 ⟨rfl, hc1⟩
    have HE := Lib.hid (Below.step hb0.out hc1)
    clear hc1
    go_wp2
    go_ret
    exact Ret.mk (by rw [HR.out]; rfl) HE.out
  · rw [h1] at k1
    rcases h2 : rt b with _ | _
    · rw [h2] at k2
      have HR := Lib.hid (relI_no (a := a) (b := b) (by rw [h1, h2]; rfl))
      clear h1 h2
      go_enter Try.func15, Try.ntmps15
      go_wp2_with fail
      refine (k1 _).mono ?_
      rintro e W1 ⟨rfl, hc1⟩
      obtain ⟨c0, c1, c2, c3⟩ := HA.out W1 hc1
      have HB1 := Lib.hid (Below.step hb0.out hc1)
      clear hc1
      go_wp2_with fail
      refine (k2 _).mono ?_
      rintro e W2 ⟨rfl, hc2⟩
      have HE := Lib.hid (Below.step HB1.out hc2)
      clear hc2
      go_wp2
      go_ret
      exact Ret.mk (by rw [HR.out]; rfl) HE.out
    · rw [h2] at k2
      have k3 := fun w' => first_any a b w'
      have k4 := fun w' => first_any b a w'
      have hsd := firstR_sides h1 h2
      have hsd2 := firstR_sides h2 h1
      by_cases hz : firstR a b = 0
      · have HR := Lib.hid (relI_two h1 h2 hz)
        have hw : IntKind.i64.wrap (14 - firstR b a) = 14 - firstR b a := by have := hsd.1 hz; rw [IntKind.wrap_i64]; omega
        generalize firstR b a = R2 at *
        rw [hz] at k3
        clear h1 h2 hz hsd hsd2
        go_enter Try.func15, Try.ntmps15
        go_wp2_with fail
        refine (k1 _).mono ?_
        rintro e W1 ⟨rfl, hc1⟩
        have HC1 := Lib.hid hc1
        obtain ⟨c0, c1, c2, c3⟩ := HA.out W1 hc1
        clear hc1
        go_wp2_with fail
        refine (k2 _).mono ?_
        rintro e W2 ⟨rfl, hc2⟩
        have HC2 := Lib.hid (Below.step HC1.out hc2)
        clear hc2 c0 c1 c2 c3
        obtain ⟨c0, c1, c2, c3⟩ := HA.out W2 HC2.out
        go_wp2_with fail
        refine (k3 _).mono ?_
        rintro e W3 ⟨rfl, hc3⟩
        have HC3 := Lib.hid (Below.step HC2.out hc3)
        clear hc3 c0 c1 c2 c3
        obtain ⟨c0, c1, c2, c3⟩ := HA.out W3 HC3.out
        go_wp2_with fail
        refine (k4 _).mono ?_
        rintro e W4 ⟨rfl, hc4⟩
        have HC4 := Lib.hid (Below.step HC3.out hc4)
        clear hc4 c0 c1 c2 c3
        have HE := Lib.hid (Below.step hb0.out HC4.out)
        go_wp2
        go_ret
        exact Ret.mk (by rw [HR.out]; rfl) HE.out
      · have HR := Lib.hid (relI_one h1 h2 hz)
        have hs0 := hsd.2.1
        clear h1 h2 hsd hsd2 k4
        generalize firstR a b = R at *
        have hz1 : 0 < R := by omega
        clear hz
        go_enter Try.func15, Try.ntmps15
        go_wp2_with fail
        refine (k1 _).mono ?_
        rintro e W1 ⟨rfl, hc1⟩
        have HC1 := Lib.hid hc1
        obtain ⟨c0, c1, c2, c3⟩ := HA.out W1 hc1
        clear hc1
        go_wp2_with fail
        refine (k2 _).mono ?_
        rintro e W2 ⟨rfl, hc2⟩
        have HC2 := Lib.hid (Below.step HC1.out hc2)
        clear hc2 c0 c1 c2 c3
        obtain ⟨c0, c1, c2, c3⟩ := HA.out W2 HC2.out
        go_wp2_with fail
        refine (k3 _).mono ?_
        rintro e W3 ⟨rfl, hc3⟩
        have HE := Lib.hid (Below.step hb0.out (Below.step HC2.out hc3))
        clear hc3 c0 c1 c2 c3
        go_wp2
        go_ret
        exact Ret.mk (by rw [HR.out]; rfl) HE.out
end Go.Proofs.Ytofnbohcofgfkaa
