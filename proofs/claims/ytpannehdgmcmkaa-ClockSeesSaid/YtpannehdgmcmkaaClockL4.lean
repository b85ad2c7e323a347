/- The law ClockLeast: its walk. -/
import Derived.Test.YtpannehdgmcmkaaClockL3
namespace Go.Proofs.Ytpannehdgmcmkaa
open Go.RowKit

theorem leqTo_iff (a b : List Int) : ∀ n, leqTo a b n = true ↔ ∀ k, k < n → numZ a (k + 1) ≤ numZ b (k + 1)
  | 0 => by simp [leqTo]
  | n + 1 => by
    unfold leqTo
    rw [Bool.and_eq_true, leqTo_iff a b n, decide_eq_true_eq]
    constructor
    · rintro ⟨h1, h2⟩ k hk
      by_cases e : k = n
      · subst e; exact h2
      · exact h1 k (by omega)
    · intro h
      exact ⟨fun k hk => h k (by omega), h n (by omega)⟩
theorem numZ_join (a b : List Int) (k : Nat) (hk : k < 15) : numZ (joinL a b) (k + 1) = max (numZ a (k + 1)) (numZ b (k + 1)) := by
  have hl := joinL_len a b
  rw [numZ_in (by rw [hl]; exact hk) (by omega)]
  have h := joinL_at a b k hk
  rw [List.getElem?_eq_getElem (by rw [hl]; exact hk)] at h
  rw [Option.some.inj h]
  unfold mx
  have := numZ_nonneg a (k + 1)
  omega
theorem leq_join_left (a b : List Int) : leqTo a (joinL a b) 15 = true := (leqTo_iff _ _ _).2 fun k hk => by rw [numZ_join a b k hk]; omega
theorem leq_join_right (a b : List Int) : leqTo b (joinL a b) 15 = true := (leqTo_iff _ _ _).2 fun k hk => by rw [numZ_join a b k hk]; omega
theorem join_leq {a b c : List Int} (ha : leqTo a c 15 = true) (hb : leqTo b c 15 = true) : leqTo (joinL a b) c 15 = true := (leqTo_iff _ _ _).2 fun k hk => by
  rw [numZ_join a b k hk]
  have := (leqTo_iff _ _ _).1 ha k hk
  have := (leqTo_iff _ _ _).1 hb k hk
  omega

theorem few_two {a b : List Int} {x : Bool} (h : (decide (a.length ≤ 100) && decide (b.length ≤ 100)) = x) (A B : Option Addr) (ca cb : Nat) (w : World) :
    Calls Try.prog 20 #[.slice A a.length ca, .slice B b.length cb] w (Ret (.bool x) w) := h ▸ few_any a b A B ca cb w
theorem leq_is {a b : List Int} {x : Bool} (h : leqTo a b 15 = x) {A B : Option Addr} (ca cb : Nat) {w : World} (ha : Ints w A a) (hb : Ints w B b) :
    Calls Try.prog 23 #[.slice A a.length ca, .slice B b.length cb] w (Ret (.bool x) w) := h ▸ leq_any a b A B ca cb w ha hb
/-- Leq with a row of fifteen. -/
theorem leq_row_right {a b : List Int} {x : Bool} (h : leqTo a b 15 = x) (hb15 : b.length = 15) {A B : Option Addr} (ca cb : Nat) {w : World} (ha : Ints w A a) (hb : Ints w B b) :
    Calls Try.prog 23 #[.slice A a.length ca, .slice B 15 cb] w (Ret (.bool x) w) := by
  have := leq_is h ca cb ha hb
  rwa [hb15] at this
theorem leq_row_left {a b : List Int} {x : Bool} (h : leqTo a b 15 = x) (ha15 : a.length = 15) {A B : Option Addr} (ca cb : Nat) {w : World} (ha : Ints w A a) (hb : Ints w B b) :
    Calls Try.prog 23 #[.slice A 15 ca, .slice B b.length cb] w (Ret (.bool x) w) := by
  have := leq_is h ca cb ha hb
  rwa [ha15] at this
theorem join_row (a b : List Int) {A B : Option Addr} (ca cb : Nat) {w : World} (ha : Ints w A a) (hb : Ints w B b) :
    Calls Try.prog 26 #[.slice A a.length ca, .slice B b.length cb] w (RetRow (joinL a b) w) := (join_any a b A B ca cb w ha hb).mono fun _ _ h => RetRow.of (joinL_len _ _) h
theorem Ints.of_row {w : World} {base g cap : Nat} {l : List Int} (hl : l.length = 15) (h : w.ownsRow base 3 1 (.slice (some ⟨g, 0, none⟩) 15 cap) 15 (l.map (Value.int .i64))) : Ints w (some ⟨g, 0, none⟩) l := by
  rw [← hl] at h
  exact Ints.of_own h

set_option maxHeartbeats 1000000 in
theorem least_walk (w : World) (a : List Int) (A : Option Addr) (ca : Nat) (_ : Fit a) (_ : a.length ≤ maxLen) (ha : Ints w A a) (b : List Int) (B : Option Addr) (cb : Nat) (_ : Fit b) (_ : b.length ≤ maxLen) (hb : Ints w B b)
    (c : List Int) (C : Option Addr) (cc : Nat) (_ : Fit c) (_ : c.length ≤ maxLen) (hc : Ints w C c) : Calls Try.prog 8 #[.slice A a.length ca, .slice B b.length cb, .slice C c.length cc] w (Ret (.bool true) w) := by
  rcases Bool.eq_false_or_eq_true (decide (a.length ≤ 100) && decide (b.length ≤ 100)) with hf | hf
  · by_cases hl : 100 < c.length
    · have HF := Lib.hid hf
      have hl' : 100 < (c.length : Int) := by omega
      clear hf
      go_enter Try.func8, Try.ntmps8
      go_wp2_with fail
      refine (few_two HF.out _ _ _ _ _).mono ?_
      rintro e w1 ⟨rfl, hb1⟩
      go_wp2_with fail
      refine (awake_any _).mono ?_
      rintro e w2 ⟨rfl, hb2⟩
      go_wp2
      go_ret
      exact Ret.mk rfl (by repeat (first | assumption | exact Below.refl _ _ | refine Below.alloc ?_ (by first | omega | (simp; done) | (simp; omega)) _ | refine Below.setCell ?_ (by first | omega | (simp; done) | (simp; omega)) _ | refine Below.drew ?_ | refine Below.drewN_ ?_ _ | refine Below.step ?_ (by assumption)))
    · have HF := Lib.hid hf
      have hl' : (c.length : Int) ≤ 100 := by omega
      have HA := Lib.hid (leq_join_left a b)
      have HB := Lib.hid (leq_join_right a b)
      have HJ := Lib.hid (joinL_len a b)
      clear hf hl
      rcases Bool.eq_false_or_eq_true (leqTo a c 15) with h1 | h1
      · rcases Bool.eq_false_or_eq_true (leqTo b c 15) with h2 | h2
        · have H1 := Lib.hid h1
          have H2 := Lib.hid h2
          have H3 := Lib.hid (join_leq h1 h2)
          clear h1 h2
          go_enter Try.func8, Try.ntmps8
          go_wp2_with fail
          refine (few_two HF.out _ _ _ _ _).mono ?_
          rintro e w1 ⟨rfl, hb1⟩
          go_wp2_with fail
          refine (join_row a b ca cb (ha.below hb1) (hb.below hb1)).mono ?_
          rintro e w2 ⟨g, cap, rfl, hg, hown, hb2⟩
          have H2b := Below.step hb1 hb2
          have Hown := Lib.hid hown
          clear hown
          go_wp2_with fail
          refine (leq_row_right HA.out HJ.out ca cap (ha.below H2b) (Ints.of_row HJ.out Hown.out)).mono ?_
          rintro e w4 ⟨rfl, hb4⟩
          have H4 := Below.step H2b hb4
          go_wp2_with fail
          refine (leq_row_right HB.out HJ.out cb cap (hb.below H4) (Ints.of_row HJ.out (own_below Hown.out hb4))).mono ?_
          rintro e w5 ⟨rfl, hb5⟩
          have H5 := Below.step H4 hb5
          have Hown5 := Lib.hid (own_below (own_below Hown.out hb4) hb5)
          go_wp2_with fail
          refine (leq_is H1.out ca cc (ha.below H5) (hc.below H5)).mono ?_
          rintro e w6 ⟨rfl, hb6⟩
          have H6 := Below.step H5 hb6
          go_wp2_with fail
          refine (leq_is H2.out cb cc (hb.below H6) (hc.below H6)).mono ?_
          rintro e w7 ⟨rfl, hb7⟩
          have H7 := Below.step H6 hb7
          go_wp2_with fail
          refine (leq_row_left H3.out HJ.out cap cc (Ints.of_row HJ.out (own_below (own_below Hown5.out hb6) hb7)) (hc.below H7)).mono ?_
          rintro e w8 ⟨rfl, hb8⟩
          go_wp2_with fail
          refine (awake_any _).mono ?_
          rintro e w9 ⟨rfl, hb9⟩
          go_wp2
          go_ret
          exact Ret.mk rfl (by repeat (first | assumption | exact Below.refl _ _ | refine Below.alloc ?_ (by first | omega | (simp; done) | (simp; omega)) _ | refine Below.setCell ?_ (by first | omega | (simp; done) | (simp; omega)) _ | refine Below.drew ?_ | refine Below.drewN_ ?_ _ | refine Below.step ?_ (by assumption)))
        · have H1 := Lib.hid h1
          have H2 := Lib.hid h2
          clear h1 h2
          go_enter Try.func8, Try.ntmps8
          go_wp2_with fail
          refine (few_two HF.out _ _ _ _ _).mono ?_
          rintro e w1 ⟨rfl, hb1⟩
          go_wp2_with fail
          refine (join_row a b ca cb (ha.below hb1) (hb.below hb1)).mono ?_
          rintro e w2 ⟨g, cap, rfl, hg, hown, hb2⟩
          have H2b := Below.step hb1 hb2
          have Hown := Lib.hid hown
          clear hown
          go_wp2_with fail
          refine (leq_row_right HA.out HJ.out ca cap (ha.below H2b) (Ints.of_row HJ.out Hown.out)).mono ?_
          rintro e w4 ⟨rfl, hb4⟩
          have H4 := Below.step H2b hb4
          go_wp2_with fail
          refine (leq_row_right HB.out HJ.out cb cap (hb.below H4) (Ints.of_row HJ.out (own_below Hown.out hb4))).mono ?_
          rintro e w5 ⟨rfl, hb5⟩
          have H5 := Below.step H4 hb5
          have Hown5 := Lib.hid (own_below (own_below Hown.out hb4) hb5)
          go_wp2_with fail
          refine (leq_is H1.out ca cc (ha.below H5) (hc.below H5)).mono ?_
          rintro e w6 ⟨rfl, hb6⟩
          have H6 := Below.step H5 hb6
          go_wp2_with fail
          refine (leq_is H2.out cb cc (hb.below H6) (hc.below H6)).mono ?_
          rintro e w7 ⟨rfl, hb7⟩
          go_wp2_with fail
          refine (awake_any _).mono ?_
          rintro e w9 ⟨rfl, hb9⟩
          go_wp2
          go_ret
          exact Ret.mk rfl (by repeat (first | assumption | exact Below.refl _ _ | refine Below.alloc ?_ (by first | omega | (simp; done) | (simp; omega)) _ | refine Below.setCell ?_ (by first | omega | (simp; done) | (simp; omega)) _ | refine Below.drew ?_ | refine Below.drewN_ ?_ _ | refine Below.step ?_ (by assumption)))
      · have H1 := Lib.hid h1
        clear h1
        go_enter Try.func8, Try.ntmps8
        go_wp2_with fail
        refine (few_two HF.out _ _ _ _ _).mono ?_
        rintro e w1 ⟨rfl, hb1⟩
        go_wp2_with fail
        refine (join_row a b ca cb (ha.below hb1) (hb.below hb1)).mono ?_
        rintro e w2 ⟨g, cap, rfl, hg, hown, hb2⟩
        have H2b := Below.step hb1 hb2
        have Hown := Lib.hid hown
        clear hown
        go_wp2_with fail
        refine (leq_row_right HA.out HJ.out ca cap (ha.below H2b) (Ints.of_row HJ.out Hown.out)).mono ?_
        rintro e w4 ⟨rfl, hb4⟩
        have H4 := Below.step H2b hb4
        go_wp2_with fail
        refine (leq_row_right HB.out HJ.out cb cap (hb.below H4) (Ints.of_row HJ.out (own_below Hown.out hb4))).mono ?_
        rintro e w5 ⟨rfl, hb5⟩
        have H5 := Below.step H4 hb5
        have Hown5 := Lib.hid (own_below (own_below Hown.out hb4) hb5)
        go_wp2_with fail
        refine (leq_is H1.out ca cc (ha.below H5) (hc.below H5)).mono ?_
        rintro e w6 ⟨rfl, hb6⟩
        go_wp2_with fail
        refine (awake_any _).mono ?_
        rintro e w9 ⟨rfl, hb9⟩
        go_wp2
        go_ret
        exact Ret.mk rfl (by repeat (first | assumption | exact Below.refl _ _ | refine Below.alloc ?_ (by first | omega | (simp; done) | (simp; omega)) _ | refine Below.setCell ?_ (by first | omega | (simp; done) | (simp; omega)) _ | refine Below.drew ?_ | refine Below.drewN_ ?_ _ | refine Below.step ?_ (by assumption)))
  · have HF := Lib.hid hf
    clear hf
    go_enter Try.func8, Try.ntmps8
    go_wp2_with fail
    refine (few_two HF.out _ _ _ _ _).mono ?_
    rintro e w1 ⟨rfl, hb1⟩
    go_wp2_with fail
    refine (awake_any _).mono ?_
    rintro e w2 ⟨rfl, hb2⟩
    go_wp2
    go_ret
    exact Ret.mk rfl (by repeat (first | assumption | exact Below.refl _ _ | refine Below.alloc ?_ (by first | omega | (simp; done) | (simp; omega)) _ | refine Below.setCell ?_ (by first | omega | (simp; done) | (simp; omega)) _ | refine Below.drew ?_ | refine Below.drewN_ ?_ _ | refine Below.step ?_ (by assumption)))
end Go.Proofs.Ytpannehdgmcmkaa
