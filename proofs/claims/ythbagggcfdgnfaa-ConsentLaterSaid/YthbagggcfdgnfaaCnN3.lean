/- The laws Later: their walks. -/
import Derived.Test.YthbagggcfdgnfaaCnU
namespace Go.Proofs.Ythbagggcfdgnfaa
open Go.RowKit

theorem eq_of {a b : Int} (h : (a == b) = true) : a = b := by simpa using h
theorem ne_t {a b : Int} (h : (a == b) = false) : (a != b) = true := by simpa using h
theorem ne_f {a b : Int} (h : (a == b) = true) : (a != b) = false := by simpa using h
theorem not_of {a b : Int} (h : (a == b) = false) : ¬ a = b := by simpa using h
theorem FourC.at (w : World) (c : Cn) (t : TypeId) {b : Nat} (h : b = w.heap.size) : FourC (w.alloc (.cells #[.int .i64 c.p, .int .i64 c.r, .int .i64 c.d, .int .i64 c.k] t)) b c := by subst h; exact FourC.new w c t
theorem later_cases (l : List Cn) (c : Cn) (x y z : Int) : (z < c.d ∧ atK l x y z = atK (giveL l c) x y z) ∨ (¬ z < c.d ∧ (x == c.p) = false ∧ atK l x y z = atK (giveL l c) x y z) ∨
    (¬ z < c.d ∧ (x == c.p) = true ∧ (c.r == 0) = false ∧ (c.r == y) = false ∧ atK l x y z = atK (giveL l c) x y z) ∨
    (¬ z < c.d ∧ (x == c.p) = true ∧ (c.r == 0) = true ∧ atK l x y z = atK (giveL l c) x y z) ∨ (¬ z < c.d ∧ (x == c.p) = true ∧ (c.r == 0) = false ∧ (c.r == y) = true ∧ atK l x y z = atK (giveL l c) x y z) ∨
    (¬ z < c.d ∧ (x == c.p) = true ∧ (c.r == 0) = true ∧ (atK l x y z == c.k) = false ∧ atK (giveL l c) x y z = c.k) ∨ (¬ z < c.d ∧ (x == c.p) = true ∧ (c.r == 0) = false ∧ (c.r == y) = true ∧ (atK l x y z == c.k) = false ∧ atK (giveL l c) x y z = c.k) := by
  have hno := later_no (l := l) (c := c) (p := x) (r := y) (d := z)
  have hor := later_or l c x y z
  unfold fits at hno
  by_cases h1 : z < c.d
  · left; refine ⟨h1, (hno ?_).symm⟩; simp; omega
  rcases h2 : (x == c.p) with _ | _
  · right; left; refine ⟨h1, rfl, (hno ?_).symm⟩
    have : (c.p == x) = false := by simp at h2 ⊢; exact fun e => h2 e.symm
    rw [this]; simp
  rcases h3 : (c.r == 0) with _ | _
  · rcases h4 : (c.r == y) with _ | _
    · right; right; left; refine ⟨h1, rfl, rfl, rfl, (hno ?_).symm⟩; rw [h3, h4]; simp
    · rcases hor with h | h
      · right; right; right; right; left; exact ⟨h1, rfl, rfl, rfl, h.symm⟩
      · rcases h5 : (atK l x y z == c.k) with _ | _
        · right; right; right; right; right; right; exact ⟨h1, rfl, rfl, rfl, rfl, h⟩
        · right; right; right; right; left; exact ⟨h1, rfl, rfl, rfl, by rw [h]; simpa using h5⟩
  · rcases hor with h | h
    · right; right; right; left; exact ⟨h1, rfl, rfl, h.symm⟩
    · rcases h5 : (atK l x y z == c.k) with _ | _
      · right; right; right; right; right; left; exact ⟨h1, rfl, rfl, rfl, h⟩
      · right; right; right; left; exact ⟨h1, rfl, rfl, by rw [h]; simpa using h5⟩

set_option maxRecDepth 20000 in
set_option maxHeartbeats 4000000 in
theorem later_walk (w : World) (ps : List Pn) (l : List Cn) (A B : Option Addr) (ca cb : Nat) (x y z : Int) (c : Cn) (ha : People w A ps) (hb : Cons w B l) (hcap : l.length ≤ cb) :
    Calls Try.prog 7 #[.agg #[.slice A ps.length ca, .slice B l.length cb, .int .i64 x, .int .i64 y, .int .i64 z], .agg #[.int .i64 c.p, .int .i64 c.r, .int .i64 c.d, .int .i64 c.k]] w (Ret (.bool true) w) := by
  have k1 := fun w' h1 h2 => right_any ps l A B ca cb w' h1 h2
  rcases hr : (fewB ps l.length && (checkE ps l == 0)) with _ | _
  · rw [hr] at k1
    clear hr
    go_enter Try.func7, Try.ntmps7
    have HA := Lib.hid ((AskC.new w A ps ca B l cb x y z 29).alloc (.cells #[.int .i64 c.p, .int .i64 c.r, .int .i64 c.d, .int .i64 c.k] 40))
    obtain ⟨za, a0, a1, a2, a3, a4⟩ := HA.out
    have HC := Lib.hid (FourC.at (w.alloc (.cells #[.slice A ps.length ca, .slice B l.length cb, .int .i64 x, .int .i64 y, .int .i64 z] 29)) c 40 (b := w.heap.size + 1) (by simp))
    obtain ⟨zc, c0, c1, c2, c3⟩ := HC.out
    have HB : Hid (Below w.heap.size w ((w.alloc (.cells #[.slice A ps.length ca, .slice B l.length cb, .int .i64 x, .int .i64 y, .int .i64 z] 29)).alloc (.cells #[.int .i64 c.p, .int .i64 c.r, .int .i64 c.d, .int .i64 c.k] 40))) := Lib.hid (by repeat (first | assumption | exact Below.refl _ _ | refine Below.alloc ?_ (by first | omega | (simp; done) | (simp; omega)) _ | refine Below.setCell ?_ (by first | omega | (simp; done) | (simp; omega)) _ | refine Below.drew ?_ | refine Below.drewN_ ?_ _ | refine Below.step ?_ (by assumption)))
    have HP := Lib.hid (ha.below HB.out)
    have HL := Lib.hid (hb.below HB.out)
    go_wp2_with fail
    refine (k1 _ HP.out HL.out).mono ?_
    rintro e W1 ⟨rfl, hc⟩
    replace HA := Lib.hid (HA.out.below hc)
    replace HC := Lib.hid (HC.out.below hc)
    replace HP := Lib.hid (HP.out.below hc)
    replace HL := Lib.hid (HL.out.below hc)
    clear za a0 a1 a2 a3 a4
    obtain ⟨za, a0, a1, a2, a3, a4⟩ := HA.out
    clear zc c0 c1 c2 c3
    obtain ⟨zc, c0, c1, c2, c3⟩ := HC.out
    replace HB := Lib.hid (Below.step HB.out hc)
    clear hc
    go_wp2_with fail
    refine (awake_any _).mono ?_
    rintro e W2 ⟨rfl, hc⟩
    replace HA := Lib.hid (HA.out.below hc)
    replace HC := Lib.hid (HC.out.below hc)
    replace HP := Lib.hid (HP.out.below hc)
    replace HL := Lib.hid (HL.out.below hc)
    clear za a0 a1 a2 a3 a4
    obtain ⟨za, a0, a1, a2, a3, a4⟩ := HA.out
    clear zc c0 c1 c2 c3
    obtain ⟨zc, c0, c1, c2, c3⟩ := HC.out
    replace HB := Lib.hid (Below.step HB.out hc)
    clear hc
    go_wp2
    go_ret
    exact Ret.mk rfl HB.out
  · rw [hr] at k1
    obtain ⟨hf, hck⟩ : fewB ps l.length = true ∧ checkE ps l = 0 := by simpa using hr
    have hle := few_le hf
    obtain ⟨hl60, hso, hgo⟩ := right_of hck
    clear hr hf
    have k2 := fun w' h => at_any l B cb x y z w' h (by omega)
    have k3 := fun w' h => give_any l B cb c w' h (by omega) hcap
    have hM : (giveL l c).length ≤ 100000 := by rw [giveL_length]; omega
    have HV := Lib.hid (later_cases l c x y z)
    have k4 := fun A2 c2 w' h => at_any (giveL l c) A2 c2 x y z w' h hM
    have k5 := fun w' A2 h h2 => rcheck_any ps [c] A A2 ca 1 w' h h2 (by omega) (by simp)
    generalize atK (giveL l c) x y z = V at *
    generalize atK l x y z = U at *
    generalize giveL l c = M at *
    clear hck hso hgo
    go_enter Try.func7, Try.ntmps7
    have HA := Lib.hid ((AskC.new w A ps ca B l cb x y z 29).alloc (.cells #[.int .i64 c.p, .int .i64 c.r, .int .i64 c.d, .int .i64 c.k] 40))
    obtain ⟨za, a0, a1, a2, a3, a4⟩ := HA.out
    have HC := Lib.hid (FourC.at (w.alloc (.cells #[.slice A ps.length ca, .slice B l.length cb, .int .i64 x, .int .i64 y, .int .i64 z] 29)) c 40 (b := w.heap.size + 1) (by simp))
    obtain ⟨zc, c0, c1, c2, c3⟩ := HC.out
    have HB : Hid (Below w.heap.size w ((w.alloc (.cells #[.slice A ps.length ca, .slice B l.length cb, .int .i64 x, .int .i64 y, .int .i64 z] 29)).alloc (.cells #[.int .i64 c.p, .int .i64 c.r, .int .i64 c.d, .int .i64 c.k] 40))) := Lib.hid (by repeat (first | assumption | exact Below.refl _ _ | refine Below.alloc ?_ (by first | omega | (simp; done) | (simp; omega)) _ | refine Below.setCell ?_ (by first | omega | (simp; done) | (simp; omega)) _ | refine Below.drew ?_ | refine Below.drewN_ ?_ _ | refine Below.step ?_ (by assumption)))
    have HP := Lib.hid (ha.below HB.out)
    have HL := Lib.hid (hb.below HB.out)
    go_wp2_with fail
    refine (k1 _ HP.out HL.out).mono ?_
    rintro e W1 ⟨rfl, hc⟩
    replace HA := Lib.hid (HA.out.below hc)
    replace HC := Lib.hid (HC.out.below hc)
    replace HP := Lib.hid (HP.out.below hc)
    replace HL := Lib.hid (HL.out.below hc)
    clear za a0 a1 a2 a3 a4
    obtain ⟨za, a0, a1, a2, a3, a4⟩ := HA.out
    clear zc c0 c1 c2 c3
    obtain ⟨zc, c0, c1, c2, c3⟩ := HC.out
    replace HB := Lib.hid (Below.step HB.out hc)
    clear hc
    rcases Nat.lt_or_ge l.length 60 with h60 | h60
    · have h6 : ¬ (60 : Int) ≤ (l.length : Int) := by omega
      go_wp2_with fail
      have hc := below_new W1 (.cells #[.int .i64 c.p, .int .i64 c.r, .int .i64 c.d, .int .i64 c.k] 40)
      replace HA := Lib.hid (HA.out.below hc)
      replace HC := Lib.hid (HC.out.below hc)
      replace HP := Lib.hid (HP.out.below hc)
      replace HL := Lib.hid (HL.out.below hc)
      clear za a0 a1 a2 a3 a4
      obtain ⟨za, a0, a1, a2, a3, a4⟩ := HA.out
      clear zc c0 c1 c2 c3
      obtain ⟨zc, c0, c1, c2, c3⟩ := HC.out
      replace HB := Lib.hid (Below.step HB.out hc)
      clear hc
      have HO := Lib.hid (Cons.one W1 c 40)
      generalize checkE ps [c] = E at *
      by_cases hE : E = 0
      · subst hE
        refine (k5 _ _ HP.out HO.out).mono ?_
        rintro e W2 ⟨rfl, hc⟩
        replace HA := Lib.hid (HA.out.below hc)
        replace HC := Lib.hid (HC.out.below hc)
        replace HP := Lib.hid (HP.out.below hc)
        replace HL := Lib.hid (HL.out.below hc)
        replace HO := Lib.hid (HO.out.below hc)
        clear za a0 a1 a2 a3 a4
        obtain ⟨za, a0, a1, a2, a3, a4⟩ := HA.out
        clear zc c0 c1 c2 c3
        obtain ⟨zc, c0, c1, c2, c3⟩ := HC.out
        replace HB := Lib.hid (Below.step HB.out hc)
        clear hc
        go_wp2_with fail
        refine (k2 _ HL.out).mono ?_
        rintro e W3 ⟨rfl, hc⟩
        replace HA := Lib.hid (HA.out.below hc)
        replace HC := Lib.hid (HC.out.below hc)
        replace HP := Lib.hid (HP.out.below hc)
        replace HL := Lib.hid (HL.out.below hc)
        replace HO := Lib.hid (HO.out.below hc)
        clear za a0 a1 a2 a3 a4
        obtain ⟨za, a0, a1, a2, a3, a4⟩ := HA.out
        clear zc c0 c1 c2 c3
        obtain ⟨zc, c0, c1, c2, c3⟩ := HC.out
        replace HB := Lib.hid (Below.step HB.out hc)
        clear hc
        go_wp2_with fail
        go_region_held3 (fun w' => w'.cell? ⟨w.heap.size, 1, none⟩ = some (.slice B l.length cb) ∧ w'.cell? ⟨w.heap.size, 2, none⟩ = some (.int .i64 x) ∧ w'.cell? ⟨w.heap.size, 3, none⟩ = some (.int .i64 y) ∧ w'.cell? ⟨w.heap.size, 4, none⟩ = some (.int .i64 z) ∧ w'.cell? ⟨w.heap.size + 1, 0, none⟩ = some (.int .i64 c.p) ∧ w'.cell? ⟨w.heap.size + 1, 1, none⟩ = some (.int .i64 c.r) ∧ w'.cell? ⟨w.heap.size + 1, 2, none⟩ = some (.int .i64 c.d) ∧ w'.cell? ⟨w.heap.size + 1, 3, none⟩ = some (.int .i64 c.k))
          (first | exact ⟨a1, a2, a3, a4, c0, c1, c2, c3⟩)
          (first
            | (go_at_call 22; refine (k3 _ (by exact HL.out)).mono ?_; rintro e W4 ⟨A2, m2, rfl, ⟨i2, q2⟩, hc⟩; replace HA := Lib.hid (AskC.below (by exact HA.out) hc); replace HC := Lib.hid (FourC.below (by exact HC.out) hc); replace HP := Lib.hid (Structs.below (by exact HP.out) hc); replace HL := Lib.hid (Structs.below (by exact HL.out) hc); replace HO := Lib.hid (Structs.below (by exact HO.out) hc); clear za a0 a1 a2 a3 a4; obtain ⟨za, a0, a1, a2, a3, a4⟩ := HA.out; clear zc c0 c1 c2 c3; obtain ⟨zc, c0, c1, c2, c3⟩ := HC.out; replace HB := Lib.hid (Below.step (by exact ⟨HB.out.os, HB.out.tape, HB.out.output, HB.out.size, HB.out.block⟩) hc); have HM := Lib.hid i2; clear i2 q2; clear hc)
            | (go_at_call 15; refine (k4 _ _ _ (by exact HM.out)).mono ?_; rintro e W5 ⟨rfl, hc⟩; replace HA := Lib.hid (AskC.below (by exact HA.out) hc); replace HC := Lib.hid (FourC.below (by exact HC.out) hc); replace HP := Lib.hid (Structs.below (by exact HP.out) hc); replace HL := Lib.hid (Structs.below (by exact HL.out) hc); replace HO := Lib.hid (Structs.below (by exact HO.out) hc); replace HM := Lib.hid (Structs.below (by exact HM.out) hc); clear za a0 a1 a2 a3 a4; obtain ⟨za, a0, a1, a2, a3, a4⟩ := HA.out; clear zc c0 c1 c2 c3; obtain ⟨zc, c0, c1, c2, c3⟩ := HC.out; replace HB := Lib.hid (Below.step (by exact ⟨HB.out.os, HB.out.tape, HB.out.output, HB.out.size, HB.out.block⟩) hc); clear hc))
        clear k1 k2 k3 k4 k5
        rcases HV.out with ⟨h1, rfl⟩ | ⟨h1, h2, rfl⟩ | ⟨h1, h2, h3, h4, rfl⟩ | ⟨h1, h2, h3, rfl⟩ | ⟨h1, h2, h3, h4, rfl⟩ | ⟨h1, h2, h3, hn, rfl⟩ | ⟨h1, h2, h3, h4, hn, rfl⟩
        · go_wp2_with fail
          refine (awake_any _).mono ?_
          rintro e W6 ⟨rfl, hc⟩
          replace HA := Lib.hid (HA.out.below hc)
          replace HC := Lib.hid (HC.out.below hc)
          replace HP := Lib.hid (HP.out.below hc)
          replace HL := Lib.hid (HL.out.below hc)
          replace HO := Lib.hid (HO.out.below hc)
          replace HM := Lib.hid (HM.out.below hc)
          clear za a0 a1 a2 a3 a4
          obtain ⟨za, a0, a1, a2, a3, a4⟩ := HA.out
          clear zc c0 c1 c2 c3
          obtain ⟨zc, c0, c1, c2, c3⟩ := HC.out
          replace HB := Lib.hid (Below.step HB.out hc)
          clear hc
          go_wp2
          go_ret
          exact Ret.mk rfl HB.out
        · have gh2 := not_of h2
          clear h2
          go_wp2_with fail
          refine (awake_any _).mono ?_
          rintro e W6 ⟨rfl, hc⟩
          replace HA := Lib.hid (HA.out.below hc)
          replace HC := Lib.hid (HC.out.below hc)
          replace HP := Lib.hid (HP.out.below hc)
          replace HL := Lib.hid (HL.out.below hc)
          replace HO := Lib.hid (HO.out.below hc)
          replace HM := Lib.hid (HM.out.below hc)
          clear za a0 a1 a2 a3 a4
          obtain ⟨za, a0, a1, a2, a3, a4⟩ := HA.out
          clear zc c0 c1 c2 c3
          obtain ⟨zc, c0, c1, c2, c3⟩ := HC.out
          replace HB := Lib.hid (Below.step HB.out hc)
          clear hc
          go_wp2
          go_ret
          exact Ret.mk rfl HB.out
        · obtain rfl := eq_of h2
          clear h2
          have gh3 := ne_t h3
          clear h3
          have gh4 := ne_t h4
          clear h4
          go_wp2_with fail
          refine (awake_any _).mono ?_
          rintro e W6 ⟨rfl, hc⟩
          replace HA := Lib.hid (HA.out.below hc)
          replace HC := Lib.hid (HC.out.below hc)
          replace HP := Lib.hid (HP.out.below hc)
          replace HL := Lib.hid (HL.out.below hc)
          replace HO := Lib.hid (HO.out.below hc)
          replace HM := Lib.hid (HM.out.below hc)
          clear za a0 a1 a2 a3 a4
          obtain ⟨za, a0, a1, a2, a3, a4⟩ := HA.out
          clear zc c0 c1 c2 c3
          obtain ⟨zc, c0, c1, c2, c3⟩ := HC.out
          replace HB := Lib.hid (Below.step HB.out hc)
          clear hc
          go_wp2
          go_ret
          exact Ret.mk rfl HB.out
        · obtain rfl := eq_of h2
          clear h2
          have gh3 := ne_f h3
          clear h3
          go_wp2_with fail
          refine (awake_any _).mono ?_
          rintro e W6 ⟨rfl, hc⟩
          replace HA := Lib.hid (HA.out.below hc)
          replace HC := Lib.hid (HC.out.below hc)
          replace HP := Lib.hid (HP.out.below hc)
          replace HL := Lib.hid (HL.out.below hc)
          replace HO := Lib.hid (HO.out.below hc)
          replace HM := Lib.hid (HM.out.below hc)
          clear za a0 a1 a2 a3 a4
          obtain ⟨za, a0, a1, a2, a3, a4⟩ := HA.out
          clear zc c0 c1 c2 c3
          obtain ⟨zc, c0, c1, c2, c3⟩ := HC.out
          replace HB := Lib.hid (Below.step HB.out hc)
          clear hc
          go_wp2
          go_ret
          exact Ret.mk rfl HB.out
        · obtain rfl := eq_of h2
          clear h2
          have gh3 := ne_t h3
          clear h3
          have gh4 := ne_f h4
          clear h4
          go_wp2_with fail
          refine (awake_any _).mono ?_
          rintro e W6 ⟨rfl, hc⟩
          replace HA := Lib.hid (HA.out.below hc)
          replace HC := Lib.hid (HC.out.below hc)
          replace HP := Lib.hid (HP.out.below hc)
          replace HL := Lib.hid (HL.out.below hc)
          replace HO := Lib.hid (HO.out.below hc)
          replace HM := Lib.hid (HM.out.below hc)
          clear za a0 a1 a2 a3 a4
          obtain ⟨za, a0, a1, a2, a3, a4⟩ := HA.out
          clear zc c0 c1 c2 c3
          obtain ⟨zc, c0, c1, c2, c3⟩ := HC.out
          replace HB := Lib.hid (Below.step HB.out hc)
          clear hc
          go_wp2
          go_ret
          exact Ret.mk rfl HB.out
        · obtain rfl := eq_of h2
          clear h2
          have gh3 := ne_f h3
          clear h3
          have ghn := not_of hn
          clear hn
          go_wp2_with fail
          refine (awake_any _).mono ?_
          rintro e W6 ⟨rfl, hc⟩
          replace HA := Lib.hid (HA.out.below hc)
          replace HC := Lib.hid (HC.out.below hc)
          replace HP := Lib.hid (HP.out.below hc)
          replace HL := Lib.hid (HL.out.below hc)
          replace HO := Lib.hid (HO.out.below hc)
          replace HM := Lib.hid (HM.out.below hc)
          clear za a0 a1 a2 a3 a4
          obtain ⟨za, a0, a1, a2, a3, a4⟩ := HA.out
          clear zc c0 c1 c2 c3
          obtain ⟨zc, c0, c1, c2, c3⟩ := HC.out
          replace HB := Lib.hid (Below.step HB.out hc)
          clear hc
          go_wp2
          go_ret
          exact Ret.mk rfl HB.out
        · obtain rfl := eq_of h2
          clear h2
          have gh3 := ne_t h3
          clear h3
          have gh4 := ne_f h4
          clear h4
          have ghn := not_of hn
          clear hn
          go_wp2_with fail
          refine (awake_any _).mono ?_
          rintro e W6 ⟨rfl, hc⟩
          replace HA := Lib.hid (HA.out.below hc)
          replace HC := Lib.hid (HC.out.below hc)
          replace HP := Lib.hid (HP.out.below hc)
          replace HL := Lib.hid (HL.out.below hc)
          replace HO := Lib.hid (HO.out.below hc)
          replace HM := Lib.hid (HM.out.below hc)
          clear za a0 a1 a2 a3 a4
          obtain ⟨za, a0, a1, a2, a3, a4⟩ := HA.out
          clear zc c0 c1 c2 c3
          obtain ⟨zc, c0, c1, c2, c3⟩ := HC.out
          replace HB := Lib.hid (Below.step HB.out hc)
          clear hc
          go_wp2
          go_ret
          exact Ret.mk rfl HB.out
      · have hE1 : (E != 0) = true := by simpa using hE
        clear hE k2 k3 k4
        refine (k5 _ _ HP.out HO.out).mono ?_
        rintro e W2 ⟨rfl, hc⟩
        replace HA := Lib.hid (HA.out.below hc)
        replace HC := Lib.hid (HC.out.below hc)
        replace HP := Lib.hid (HP.out.below hc)
        replace HL := Lib.hid (HL.out.below hc)
        replace HO := Lib.hid (HO.out.below hc)
        clear za a0 a1 a2 a3 a4
        obtain ⟨za, a0, a1, a2, a3, a4⟩ := HA.out
        clear zc c0 c1 c2 c3
        obtain ⟨zc, c0, c1, c2, c3⟩ := HC.out
        replace HB := Lib.hid (Below.step HB.out hc)
        clear hc
        go_wp2_with fail
        refine (awake_any _).mono ?_
        rintro e W3 ⟨rfl, hc⟩
        replace HA := Lib.hid (HA.out.below hc)
        replace HC := Lib.hid (HC.out.below hc)
        replace HP := Lib.hid (HP.out.below hc)
        replace HL := Lib.hid (HL.out.below hc)
        replace HO := Lib.hid (HO.out.below hc)
        clear za a0 a1 a2 a3 a4
        obtain ⟨za, a0, a1, a2, a3, a4⟩ := HA.out
        clear zc c0 c1 c2 c3
        obtain ⟨zc, c0, c1, c2, c3⟩ := HC.out
        replace HB := Lib.hid (Below.step HB.out hc)
        clear hc
        go_wp2
        go_ret
        exact Ret.mk rfl HB.out
    · have h6 : (60 : Int) ≤ (l.length : Int) := by omega
      go_wp2_with fail
      refine (awake_any _).mono ?_
      rintro e W2 ⟨rfl, hc⟩
      replace HA := Lib.hid (HA.out.below hc)
      replace HC := Lib.hid (HC.out.below hc)
      replace HP := Lib.hid (HP.out.below hc)
      replace HL := Lib.hid (HL.out.below hc)
      clear za a0 a1 a2 a3 a4
      obtain ⟨za, a0, a1, a2, a3, a4⟩ := HA.out
      clear zc c0 c1 c2 c3
      obtain ⟨zc, c0, c1, c2, c3⟩ := HC.out
      replace HB := Lib.hid (Below.step HB.out hc)
      clear hc
      go_wp2
      go_ret
      exact Ret.mk rfl HB.out

end Go.Proofs.Ythbagggcfdgnfaa
