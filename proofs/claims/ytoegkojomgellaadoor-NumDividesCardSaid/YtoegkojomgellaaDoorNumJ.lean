/- The laws of the layer: their walks. -/
import Derived.Test.YtoegkojomgellaaDoorNumI
namespace Go.Proofs.YtoegkojomgellaaDoor
open Go.RowKit

set_option maxRecDepth 20000 in
set_option maxHeartbeats 2000000 in
theorem clips_walk (w : World) (hL : Laid w) (n : Int) (_ : Fits n) (lo : Int) (_ : Fits lo) (hi : Int) (_ : Fits hi) :
    Calls Tryd.prog 3 #[.int .i64 n, .int .i64 lo, .int .i64 hi] w (Ret (.bool true) w) := by
  have k1 := fun w' => clip_any n lo hi w'
  have k2 := fun w' => rclip_any n lo hi w'
  generalize clipI n lo hi = r at *
  go_enter Tryd.func3, Tryd.ntmps3
  have H0 : Below w.heap.size w w := Below.refl _ _
  go_wp2_with fail
  refine (k1 w).mono ?_
  rintro e w1 ⟨rfl, h1⟩
  have H1 := Below.step H0 h1
  clear h1
  go_wp2_with fail
  refine (k2 w1).mono ?_
  rintro e w2 ⟨rfl, h2⟩
  have H2 := Below.step H1 h2
  clear h2
  go_wp2_with fail
  refine (awake_any w2 (hL.below H2)).mono ?_
  rintro e w3 ⟨rfl, h3⟩
  have H3 := Below.step H2 h3
  clear h3
  go_wp2
  go_ret
  exact Ret.mk rfl H3

set_option maxRecDepth 20000 in
set_option maxHeartbeats 2000000 in
theorem texts_walk (w : World) (hL : Laid w) (n : Int) (fn : Fits n) (s : List UInt8) (_ : s.length ≤ maxLen) :
    Calls Tryd.prog 4 #[.int .i64 n, .string ⟨s.toArray⟩] w (Ret (.bool true) w) := by
  by_cases h3 : s.length ≤ 300
  · have k1 := fun w' h => parse_any s h3 w' (hL.below h)
    have k2 := fun w' => rparse_any s h3 w'
    have k3 := fun w' h => text_any n fn w' (hL.below h)
    have k4 := fun w' => rtext_any n fn w'
    generalize pz s = a at *
    generalize pb s = b at *
    generalize Lib.itoa n = t at *
    have h3' : ¬ (300 : Int) < s.length := by omega
    have hbb : (b == b) = true := by cases b <;> rfl
    go_enter Tryd.func4, Tryd.ntmps4
    have H0 : Below w.heap.size w w := Below.refl _ _
    go_wp2_with fail
    refine (k1 w H0).mono ?_
    rintro e w1 ⟨rfl, h1⟩
    have H1 := Below.step H0 h1
    clear h1
    go_wp2_with fail
    refine (k2 w1).mono ?_
    rintro e w2 ⟨rfl, h2⟩
    have H2 := Below.step H1 h2
    clear h2
    go_wp2_with fail
    refine (k3 w2 H2).mono ?_
    rintro e w3 ⟨rfl, h3⟩
    have H3 := Below.step H2 h3
    clear h3
    go_wp2_with fail
    refine (k4 w3).mono ?_
    rintro e w4 ⟨rfl, h4⟩
    have H4 := Below.step H3 h4
    clear h4
    go_wp2_with fail
    refine (awake_any w4 (hL.below H4)).mono ?_
    rintro e w5 ⟨rfl, h5⟩
    have H5 := Below.step H4 h5
    clear h5
    go_wp2
    go_ret
    exact Ret.mk rfl H5
  · have h3' : (300 : Int) < s.length := by omega
    go_enter Tryd.func4, Tryd.ntmps4
    have H0 : Below w.heap.size w w := Below.refl _ _
    go_wp2_with fail
    refine (awake_any w (hL.below H0)).mono ?_
    rintro e w1 ⟨rfl, h1⟩
    have H1 := Below.step H0 h1
    clear h1
    go_wp2
    go_ret
    exact Ret.mk rfl H1

set_option maxRecDepth 20000 in
set_option maxHeartbeats 2000000 in
theorem reads_walk (w : World) (hL : Laid w) (n : Int) (fn : Fits n) :
    Calls Tryd.prog 5 #[.int .i64 n] w (Ret (.bool true) w) := by
  have k1 := fun w' h => text_any n fn w' (hL.below h)
  have fn' := fn
  unfold Fits at fn'
  have hlen := itoa_length fn'.1 fn'.2
  have k2 := fun w' h => parse_any (Lib.itoa n) (by omega) w' (hL.below h)
  by_cases hin : -1099511627776 ≤ n ∧ n ≤ 1099511627776
  · obtain ⟨e1, e2⟩ := p_some (parseS_itoa (v := n) (by unfold lim; omega) (by unfold lim; omega))
    rw [e1, e2] at k2
    obtain ⟨i1, i2⟩ := hin
    have i1' : ¬ n < -1099511627776 := by omega
    have i2' : ¬ 1099511627776 < n := by omega
    generalize Lib.itoa n = t at *
    clear e1 e2
    go_enter Tryd.func5, Tryd.ntmps5
    have H0 : Below w.heap.size w w := Below.refl _ _
    go_wp2_with fail
    refine (k1 w H0).mono ?_
    rintro e w1 ⟨rfl, h1⟩
    have H1 := Below.step H0 h1
    clear h1
    go_wp2_with fail
    refine (k2 w1 H1).mono ?_
    rintro e w2 ⟨rfl, h2⟩
    have H2 := Below.step H1 h2
    clear h2
    go_wp2_with fail
    refine (awake_any w2 (hL.below H2)).mono ?_
    rintro e w3 ⟨rfl, h3⟩
    have H3 := Below.step H2 h3
    clear h3
    go_wp2
    go_ret
    exact Ret.mk rfl H3
  · obtain ⟨e1, e2⟩ := p_none (parseS_big (v := n) (by omega) (by omega) (by unfold lim; omega))
    rw [e1, e2] at k2
    generalize Lib.itoa n = t at *
    clear e1 e2
    by_cases i1 : n < -1099511627776
    · clear hin
      go_enter Tryd.func5, Tryd.ntmps5
      have H0 : Below w.heap.size w w := Below.refl _ _
      go_wp2_with fail
      refine (k1 w H0).mono ?_
      rintro e w1 ⟨rfl, h1⟩
      have H1 := Below.step H0 h1
      clear h1
      go_wp2_with fail
      refine (k2 w1 H1).mono ?_
      rintro e w2 ⟨rfl, h2⟩
      have H2 := Below.step H1 h2
      clear h2
      go_wp2_with fail
      refine (awake_any w2 (hL.below H2)).mono ?_
      rintro e w3 ⟨rfl, h3⟩
      have H3 := Below.step H2 h3
      clear h3
      go_wp2
      go_ret
      exact Ret.mk rfl H3
    · have i2 : 1099511627776 < n := by omega
      clear hin
      go_enter Tryd.func5, Tryd.ntmps5
      have H0 : Below w.heap.size w w := Below.refl _ _
      go_wp2_with fail
      refine (k1 w H0).mono ?_
      rintro e w1 ⟨rfl, h1⟩
      have H1 := Below.step H0 h1
      clear h1
      go_wp2_with fail
      refine (k2 w1 H1).mono ?_
      rintro e w2 ⟨rfl, h2⟩
      have H2 := Below.step H1 h2
      clear h2
      go_wp2_with fail
      refine (awake_any w2 (hL.below H2)).mono ?_
      rintro e w3 ⟨rfl, h3⟩
      have H3 := Below.step H2 h3
      clear h3
      go_wp2
      go_ret
      exact Ret.mk rfl H3

set_option maxRecDepth 20000 in
set_option maxHeartbeats 2000000 in
theorem only_walk (w : World) (hL : Laid w) (s : List UInt8) (_ : s.length ≤ maxLen) :
    Calls Tryd.prog 6 #[.string ⟨s.toArray⟩] w (Ret (.bool true) w) := by
  by_cases h3 : s.length ≤ 300
  · have h3' : ¬ (300 : Int) < s.length := by omega
    have k1 := fun w' h => parse_any s h3 w' (hL.below h)
    cases hp : parseS s with
    | none =>
      obtain ⟨e1, e2⟩ := p_none hp
      rw [e1, e2] at k1
      clear e1 e2 hp
      go_enter Tryd.func6, Tryd.ntmps6
      have H0 : Below w.heap.size w w := Below.refl _ _
      go_wp2_with fail
      refine (k1 w H0).mono ?_
      rintro e w1 ⟨rfl, h1⟩
      have H1 := Below.step H0 h1
      clear h1
      go_wp2_with fail
      refine (awake_any w1 (hL.below H1)).mono ?_
      rintro e w2 ⟨rfl, h2⟩
      have H2 := Below.step H1 h2
      clear h2
      go_wp2
      go_ret
      exact Ret.mk rfl H2
    | some v =>
      obtain ⟨e1, e2⟩ := p_some hp
      rw [e1, e2] at k1
      obtain ⟨b0, b1, b2⟩ := parseS_some hp
      unfold lim at b0 b1
      have b0' : -1099511627776 ≤ v := by omega
      have b1' : v ≤ 1099511627776 := by omega
      have k2 := fun w' h => text_any v ⟨by omega, by omega⟩ w' (hL.below h)
      rw [b2] at k2
      clear e1 e2 hp b2 b0 b1
      go_enter Tryd.func6, Tryd.ntmps6
      have H0 : Below w.heap.size w w := Below.refl _ _
      go_wp2_with fail
      refine (k1 w H0).mono ?_
      rintro e w1 ⟨rfl, h1⟩
      have H1 := Below.step H0 h1
      clear h1
      go_wp2_with fail
      refine (k2 w1 H1).mono ?_
      rintro e w2 ⟨rfl, h2⟩
      have H2 := Below.step H1 h2
      clear h2
      go_wp2_with fail
      refine (awake_any w2 (hL.below H2)).mono ?_
      rintro e w3 ⟨rfl, h3⟩
      have H3 := Below.step H2 h3
      clear h3
      go_wp2
      go_ret
      exact Ret.mk rfl H3
  · have h3' : (300 : Int) < s.length := by omega
    go_enter Tryd.func6, Tryd.ntmps6
    have H0 : Below w.heap.size w w := Below.refl _ _
    go_wp2_with fail
    refine (awake_any w (hL.below H0)).mono ?_
    rintro e w1 ⟨rfl, h1⟩
    have H1 := Below.step H0 h1
    clear h1
    go_wp2
    go_ret
    exact Ret.mk rfl H1

set_option maxRecDepth 20000 in
set_option maxHeartbeats 2000000 in
theorem sorts_walk (w : World) (hL : Laid w) (l : List Int) (L : Option Addr) (cl : Nat) (_ : Fit l) (_ : l.length ≤ maxLen) (hl : Ints w L l) (n : Int) (_ : Fits n) :
    Calls Tryd.prog 7 #[.slice L l.length cl, .int .i64 n] w (Ret (.bool true) w) := by
  by_cases h2 : l.length ≤ 200
  · have kf := fun w' => few_any l [] L none cl 0 w' true (by simp [h2])
    have hs := setOf_length_le l
    go_enter Tryd.func7, Tryd.ntmps7
    have H0 : Below w.heap.size w w := Below.refl _ _
    go_wp2_with fail
    refine (kf w).mono ?_
    rintro e w1 ⟨rfl, h1⟩
    have H1 := Below.step H0 h1
    clear h1
    go_wp2_with fail
    refine (sorted_any l L cl w1 (hl.below H1) (by omega)).mono ?_
    rintro e w2 ⟨A2, c2, rfl, o2, h2⟩
    have I2 := Ints.of_own o2
    have H2 := Below.step H1 h2
    clear o2 h2
    go_wp2_with fail
    refine (rsorted_any l L cl w2 (hl.below H2) (by omega)).mono ?_
    rintro e w3 ⟨A3, c3, rfl, o3, h3⟩
    replace I2 := I2.below h3
    have I3 := Ints.of_own o3
    have H3 := Below.step H2 h3
    clear o3 h3
    go_wp2_with fail
    refine (same_yes (setOf l) A2 A3 c2 c3 w3 I2 I3 (by unfold maxLen; omega)).mono ?_
    rintro e w4 ⟨rfl, h4⟩
    replace I2 := I2.below h4
    replace I3 := I3.below h4
    have H4 := Below.step H3 h4
    clear h4
    go_wp2_with fail
    refine (has_any l L cl n w4 (hl.below H4) (by omega)).mono ?_
    rintro e w5 ⟨rfl, h5⟩
    replace I2 := I2.below h5
    replace I3 := I3.below h5
    have H5 := Below.step H4 h5
    clear h5
    go_wp2_with fail
    refine (rhas_any l L cl n w5 (hl.below H5) (by omega)).mono ?_
    rintro e w6 ⟨rfl, h6⟩
    replace I2 := I2.below h6
    replace I3 := I3.below h6
    have H6 := Below.step H5 h6
    clear h6
    go_wp2_with fail
    refine (awake_any w6 (hL.below H6)).mono ?_
    rintro e w7 ⟨rfl, h7⟩
    replace I2 := I2.below h7
    replace I3 := I3.below h7
    have H7 := Below.step H6 h7
    clear h7
    go_wp2
    go_ret
    exact Ret.mk rfl H7
  · have kf := fun w' => few_any l [] L none cl 0 w' false (by simp [h2])
    go_enter Tryd.func7, Tryd.ntmps7
    have H0 : Below w.heap.size w w := Below.refl _ _
    go_wp2_with fail
    refine (kf w).mono ?_
    rintro e w1 ⟨rfl, h1⟩
    have H1 := Below.step H0 h1
    clear h1
    go_wp2_with fail
    refine (awake_any w1 (hL.below H1)).mono ?_
    rintro e w2 ⟨rfl, h2⟩
    have H2 := Below.step H1 h2
    clear h2
    go_wp2
    go_ret
    exact Ret.mk rfl H2

set_option maxRecDepth 20000 in
set_option maxHeartbeats 4000000 in
theorem sets_walk (w : World) (hL : Laid w) (a : List Int) (A : Option Addr) (ca : Nat) (_ : Fit a) (_ : a.length ≤ maxLen) (ha : Ints w A a) (b : List Int) (B : Option Addr) (cb : Nat) (_ : Fit b) (_ : b.length ≤ maxLen) (hb : Ints w B b) :
    Calls Tryd.prog 8 #[.slice A a.length ca, .slice B b.length cb] w (Ret (.bool true) w) := by
  by_cases h2 : (decide (a.length ≤ 200) && decide (b.length ≤ 200)) = true
  · have kf := fun w' => few_any a b A B ca cb w' true h2
    have ha2 : a.length ≤ 200 := by simp at h2; omega
    have hb2 : b.length ≤ 200 := by simp at h2; omega
    clear h2
    have u1 : (union a b).length ≤ 400 := by have := setOf_length_le (a ++ b); simp at this; unfold union; omega
    have u2 : (minus a b).length ≤ 200 := by have := setOf_length_le (a.filter fun x => !b.contains x); have h := List.length_filter_le (fun x => !b.contains x) a; unfold minus; omega
    have u3 : (both a b).length ≤ 200 := by have := setOf_length_le (a.filter fun x => b.contains x); have h := List.length_filter_le (fun x => b.contains x) a; unfold both; omega
    go_enter Tryd.func8, Tryd.ntmps8
    have H0 : Below w.heap.size w w := Below.refl _ _
    go_wp2_with fail
    refine (kf w).mono ?_
    rintro e w1 ⟨rfl, h1⟩
    have H1 := Below.step H0 h1
    clear h1
    go_wp2_with fail
    refine (union_any a b A B ca cb w1 (ha.below H1) (hb.below H1) (by omega) (by omega)).mono ?_
    rintro e w2 ⟨A2, c2, rfl, o2, h2⟩
    have I2 := Ints.of_own o2
    have H2 := Below.step H1 h2
    clear o2 h2
    go_wp2_with fail
    refine (runion_any a b A B ca cb w2 (ha.below H2) (hb.below H2) (by omega) (by omega)).mono ?_
    rintro e w3 ⟨A3, c3, rfl, o3, h3⟩
    replace I2 := I2.below h3
    have I3 := Ints.of_own o3
    have H3 := Below.step H2 h3
    clear o3 h3
    go_wp2_with fail
    refine (same_yes (union a b) A2 A3 c2 c3 w3 I2 I3 (by unfold maxLen; omega)).mono ?_
    rintro e w4 ⟨rfl, h4⟩
    replace I2 := I2.below h4
    replace I3 := I3.below h4
    have H4 := Below.step H3 h4
    clear h4
    go_wp2_with fail
    refine (minus_any a b A B ca cb w4 (ha.below H4) (hb.below H4) (by omega) (by omega)).mono ?_
    rintro e w5 ⟨A5, c5, rfl, o5, h5⟩
    replace I2 := I2.below h5
    replace I3 := I3.below h5
    have I5 := Ints.of_own o5
    have H5 := Below.step H4 h5
    clear o5 h5
    go_wp2_with fail
    refine (rminus_any a b A B ca cb w5 (ha.below H5) (hb.below H5) (by omega) (by omega)).mono ?_
    rintro e w6 ⟨A6, c6, rfl, o6, h6⟩
    replace I2 := I2.below h6
    replace I3 := I3.below h6
    replace I5 := I5.below h6
    have I6 := Ints.of_own o6
    have H6 := Below.step H5 h6
    clear o6 h6
    go_wp2_with fail
    refine (same_yes (minus a b) A5 A6 c5 c6 w6 I5 I6 (by unfold maxLen; omega)).mono ?_
    rintro e w7 ⟨rfl, h7⟩
    replace I2 := I2.below h7
    replace I3 := I3.below h7
    replace I5 := I5.below h7
    replace I6 := I6.below h7
    have H7 := Below.step H6 h7
    clear h7
    go_wp2_with fail
    refine (both_any a b A B ca cb w7 (ha.below H7) (hb.below H7) (by omega) (by omega)).mono ?_
    rintro e w8 ⟨A8, c8, rfl, o8, h8⟩
    replace I2 := I2.below h8
    replace I3 := I3.below h8
    replace I5 := I5.below h8
    replace I6 := I6.below h8
    have I8 := Ints.of_own o8
    have H8 := Below.step H7 h8
    clear o8 h8
    go_wp2_with fail
    refine (rboth_any a b A B ca cb w8 (ha.below H8) (hb.below H8) (by omega) (by omega)).mono ?_
    rintro e w9 ⟨A9, c9, rfl, o9, h9⟩
    replace I2 := I2.below h9
    replace I3 := I3.below h9
    replace I5 := I5.below h9
    replace I6 := I6.below h9
    replace I8 := I8.below h9
    have I9 := Ints.of_own o9
    have H9 := Below.step H8 h9
    clear o9 h9
    go_wp2_with fail
    refine (same_yes (both a b) A8 A9 c8 c9 w9 I8 I9 (by unfold maxLen; omega)).mono ?_
    rintro e w10 ⟨rfl, h10⟩
    replace I2 := I2.below h10
    replace I3 := I3.below h10
    replace I5 := I5.below h10
    replace I6 := I6.below h10
    replace I8 := I8.below h10
    replace I9 := I9.below h10
    have H10 := Below.step H9 h10
    clear h10
    go_wp2_with fail
    refine (awake_any w10 (hL.below H10)).mono ?_
    rintro e w11 ⟨rfl, h11⟩
    replace I2 := I2.below h11
    replace I3 := I3.below h11
    replace I5 := I5.below h11
    replace I6 := I6.below h11
    replace I8 := I8.below h11
    replace I9 := I9.below h11
    have H11 := Below.step H10 h11
    clear h11
    go_wp2
    go_ret
    exact Ret.mk rfl H11
  · have kf := fun w' => few_any a b A B ca cb w' false (by simpa using h2)
    clear h2
    go_enter Tryd.func8, Tryd.ntmps8
    have H0 : Below w.heap.size w w := Below.refl _ _
    go_wp2_with fail
    refine (kf w).mono ?_
    rintro e w1 ⟨rfl, h1⟩
    have H1 := Below.step H0 h1
    clear h1
    go_wp2_with fail
    refine (awake_any w1 (hL.below H1)).mono ?_
    rintro e w2 ⟨rfl, h2⟩
    have H2 := Below.step H1 h2
    clear h2
    go_wp2
    go_ret
    exact Ret.mk rfl H2

set_option maxRecDepth 20000 in
set_option maxHeartbeats 8000000 in
theorem divides_walk (w : World) (hL : Laid w) (a : List Int) (A : Option Addr) (ca : Nat) (_ : Fit a) (_ : a.length ≤ maxLen) (ha : Ints w A a) (b : List Int) (B : Option Addr) (cb : Nat) (_ : Fit b) (_ : b.length ≤ maxLen) (hb : Ints w B b) :
    Calls Tryd.prog 9 #[.slice A a.length ca, .slice B b.length cb] w (Ret (.bool true) w) := by
  by_cases h2 : (decide (a.length ≤ 200) && decide (b.length ≤ 200)) = true
  · have kf := fun w' => few_any a b A B ca cb w' true h2
    have ha2 : a.length ≤ 200 := by simp at h2; omega
    have hb2 : b.length ≤ 200 := by simp at h2; omega
    clear h2
    have u1 : (union a b).length ≤ 400 := by have := setOf_length_le (a ++ b); simp at this; unfold union; omega
    have u2 : (minus a b).length ≤ 200 := by have := setOf_length_le (a.filter fun x => !b.contains x); have h := List.length_filter_le (fun x => !b.contains x) a; unfold minus; omega
    have u3 : (both a b).length ≤ 200 := by have := setOf_length_le (a.filter fun x => b.contains x); have h := List.length_filter_le (fun x => b.contains x) a; unfold both; omega
    have v1 : (setOf a).length ≤ 200 := by have := setOf_length_le a; omega
    have e1 := law_divide a b
    have e2 := law_left a b
    have e3 := union_comm b a
    have e4 := both_comm b a
    have kA := fun A' B' c' d' w' h1 h2 => union_any (minus a b) (both a b) A' B' c' d' w' h1 h2 (by omega) (by omega)
    have kB := fun A' c' w' h1 h2 => both_any (minus a b) b A' B c' cb w' h1 h2 (by omega) (by omega)
    have kC := fun w' h1 h2 => union_any b a B A cb ca w' h1 h2 (by omega) (by omega)
    have kD := fun w' h1 h2 => both_any b a B A cb ca w' h1 h2 (by omega) (by omega)
    rw [e1] at kA
    rw [e2] at kB
    rw [e3] at kC
    rw [e4] at kD
    clear e1 e2 e3 e4
    go_enter Tryd.func9, Tryd.ntmps9
    have H0 : Below w.heap.size w w := Below.refl _ _
    go_wp2_with fail
    refine (kf w).mono ?_
    rintro e w1 ⟨rfl, h1⟩
    have H1 := Below.step H0 h1
    clear h1
    go_wp2_with fail
    refine (minus_any a b A B ca cb w1 (ha.below H1) (hb.below H1) (by omega) (by omega)).mono ?_
    rintro e w2 ⟨A2, c2, rfl, o2, h2⟩
    have I2 := Ints.of_own o2
    have H2 := Below.step H1 h2
    clear o2 h2
    go_wp2_with fail
    refine (both_any a b A B ca cb w2 (ha.below H2) (hb.below H2) (by omega) (by omega)).mono ?_
    rintro e w3 ⟨A3, c3, rfl, o3, h3⟩
    replace I2 := I2.below h3
    have I3 := Ints.of_own o3
    have H3 := Below.step H2 h3
    clear o3 h3
    go_wp2_with fail
    refine (kA A2 A3 c2 c3 w3 I2 I3).mono ?_
    rintro e w4 ⟨A4, c4, rfl, o4, h4⟩
    replace I2 := I2.below h4
    replace I3 := I3.below h4
    have I4 := Ints.of_own o4
    have H4 := Below.step H3 h4
    clear o4 h4
    go_wp2_with fail
    refine (sorted_any a A ca w4 (ha.below H4) (by omega)).mono ?_
    rintro e w5 ⟨A5, c5, rfl, o5, h5⟩
    replace I2 := I2.below h5
    replace I3 := I3.below h5
    replace I4 := I4.below h5
    have I5 := Ints.of_own o5
    have H5 := Below.step H4 h5
    clear o5 h5
    go_wp2_with fail
    refine (same_yes (setOf a) A4 A5 c4 c5 w5 I4 I5 (by unfold maxLen; omega)).mono ?_
    rintro e w6 ⟨rfl, h6⟩
    replace I2 := I2.below h6
    replace I3 := I3.below h6
    replace I4 := I4.below h6
    replace I5 := I5.below h6
    have H6 := Below.step H5 h6
    clear h6
    go_wp2_with fail
    refine (kB A2 c2 w6 I2 (hb.below H6)).mono ?_
    rintro e w7 ⟨A7, c7, rfl, o7, h7⟩
    replace I2 := I2.below h7
    replace I3 := I3.below h7
    replace I4 := I4.below h7
    replace I5 := I5.below h7
    have I7 := Ints.of_own o7
    have H7 := Below.step H6 h7
    clear o7 h7
    go_wp2_with fail
    refine (union_any a b A B ca cb w7 (ha.below H7) (hb.below H7) (by omega) (by omega)).mono ?_
    rintro e w8 ⟨A8, c8, rfl, o8, h8⟩
    replace I2 := I2.below h8
    replace I3 := I3.below h8
    replace I4 := I4.below h8
    replace I5 := I5.below h8
    replace I7 := I7.below h8
    have I8 := Ints.of_own o8
    have H8 := Below.step H7 h8
    clear o8 h8
    go_wp2_with fail
    refine (kC w8 (hb.below H8) (ha.below H8)).mono ?_
    rintro e w9 ⟨A9, c9, rfl, o9, h9⟩
    replace I2 := I2.below h9
    replace I3 := I3.below h9
    replace I4 := I4.below h9
    replace I5 := I5.below h9
    replace I7 := I7.below h9
    replace I8 := I8.below h9
    have I9 := Ints.of_own o9
    have H9 := Below.step H8 h9
    clear o9 h9
    go_wp2_with fail
    refine (same_yes (union a b) A8 A9 c8 c9 w9 I8 I9 (by unfold maxLen; omega)).mono ?_
    rintro e w10 ⟨rfl, h10⟩
    replace I2 := I2.below h10
    replace I3 := I3.below h10
    replace I4 := I4.below h10
    replace I5 := I5.below h10
    replace I7 := I7.below h10
    replace I8 := I8.below h10
    replace I9 := I9.below h10
    have H10 := Below.step H9 h10
    clear h10
    go_wp2_with fail
    refine (kD w10 (hb.below H10) (ha.below H10)).mono ?_
    rintro e w11 ⟨A11, c11, rfl, o11, h11⟩
    replace I2 := I2.below h11
    replace I3 := I3.below h11
    replace I4 := I4.below h11
    replace I5 := I5.below h11
    replace I7 := I7.below h11
    replace I8 := I8.below h11
    replace I9 := I9.below h11
    have I11 := Ints.of_own o11
    have H11 := Below.step H10 h11
    clear o11 h11
    go_wp2_with fail
    refine (same_yes (both a b) A3 A11 c3 c11 w11 I3 I11 (by unfold maxLen; omega)).mono ?_
    rintro e w12 ⟨rfl, h12⟩
    replace I2 := I2.below h12
    replace I3 := I3.below h12
    replace I4 := I4.below h12
    replace I5 := I5.below h12
    replace I7 := I7.below h12
    replace I8 := I8.below h12
    replace I9 := I9.below h12
    replace I11 := I11.below h12
    have H12 := Below.step H11 h12
    clear h12
    go_wp2_with fail
    refine (awake_any w12 (hL.below H12)).mono ?_
    rintro e w13 ⟨rfl, h13⟩
    replace I2 := I2.below h13
    replace I3 := I3.below h13
    replace I4 := I4.below h13
    replace I5 := I5.below h13
    replace I7 := I7.below h13
    replace I8 := I8.below h13
    replace I9 := I9.below h13
    replace I11 := I11.below h13
    have H13 := Below.step H12 h13
    clear h13
    go_wp2
    go_ret
    exact Ret.mk rfl H13
  · have kf := fun w' => few_any a b A B ca cb w' false (by simpa using h2)
    clear h2
    go_enter Tryd.func9, Tryd.ntmps9
    have H0 : Below w.heap.size w w := Below.refl _ _
    go_wp2_with fail
    refine (kf w).mono ?_
    rintro e w1 ⟨rfl, h1⟩
    have H1 := Below.step H0 h1
    clear h1
    go_wp2_with fail
    refine (awake_any w1 (hL.below H1)).mono ?_
    rintro e w2 ⟨rfl, h2⟩
    have H2 := Below.step H1 h2
    clear h2
    go_wp2
    go_ret
    exact Ret.mk rfl H2

set_option maxRecDepth 20000 in
set_option maxHeartbeats 16000000 in
theorem members_walk (w : World) (hL : Laid w) (a : List Int) (A : Option Addr) (ca : Nat) (_ : Fit a) (_ : a.length ≤ maxLen) (ha : Ints w A a) (b : List Int) (B : Option Addr) (cb : Nat) (_ : Fit b) (_ : b.length ≤ maxLen) (hb : Ints w B b) (n : Int) (_ : Fits n) :
    Calls Tryd.prog 10 #[.slice A a.length ca, .slice B b.length cb, .int .i64 n] w (Ret (.bool true) w) := by
  by_cases h2 : (decide (a.length ≤ 200) && decide (b.length ≤ 200)) = true
  · have kf := fun w' => few_any a b A B ca cb w' true h2
    have ha2 : a.length ≤ 200 := by simp at h2; omega
    have hb2 : b.length ≤ 200 := by simp at h2; omega
    clear h2
    have u1 : (union a b).length ≤ 400 := by have := setOf_length_le (a ++ b); simp at this; unfold union; omega
    have u2 : (minus a b).length ≤ 200 := by have := setOf_length_le (a.filter fun x => !b.contains x); have h := List.length_filter_le (fun x => !b.contains x) a; unfold minus; omega
    have u3 : (both a b).length ≤ 200 := by have := setOf_length_le (a.filter fun x => b.contains x); have h := List.length_filter_le (fun x => b.contains x) a; unfold both; omega
    have e1 : (union a b).contains n = (a.contains n || b.contains n) := by rw [Bool.eq_iff_iff]; simp [mem_union]
    have e2 : (minus a b).contains n = (a.contains n && !b.contains n) := by rw [Bool.eq_iff_iff]; simp [mem_minus]
    have e3 : (both a b).contains n = (a.contains n && b.contains n) := by rw [Bool.eq_iff_iff]; simp [mem_both]
    have kU := fun A' c' w' h1 => has_any (union a b) A' c' n w' h1 (by omega)
    have kM := fun A' c' w' h1 => has_any (minus a b) A' c' n w' h1 (by omega)
    have kB := fun A' c' w' h1 => has_any (both a b) A' c' n w' h1 (by omega)
    have kx := fun w' h1 => has_any a A ca n w' h1 (by omega)
    have ky := fun w' h1 => has_any b B cb n w' h1 (by omega)
    have i1 : Inc (union a b) := inc_setOf _
    have i2 : Inc (minus a b) := inc_setOf _
    have i3 : Inc (both a b) := inc_setOf _
    rw [e1] at kU
    rw [e2] at kM
    rw [e3] at kB
    clear e1 e2 e3
    generalize a.contains n = x at *
    generalize b.contains n = y at *
    rcases x with _ | _ <;> rcases y with _ | _
    all_goals
      go_enter Tryd.func10, Tryd.ntmps10
      have H0 : Below w.heap.size w w := Below.refl _ _
      go_wp2_with fail
      refine (kf w).mono ?_
      rintro e w1 ⟨rfl, h1⟩
      have H1 := Below.step H0 h1
      clear h1
      go_wp2_with fail
      refine (union_any a b A B ca cb w1 (ha.below H1) (hb.below H1) (by omega) (by omega)).mono ?_
      rintro e w2 ⟨A2, c2, rfl, o2, h2⟩
      have I2 := Ints.of_own o2
      have H2 := Below.step H1 h2
      clear o2 h2
      go_wp2_with fail
      refine (minus_any a b A B ca cb w2 (ha.below H2) (hb.below H2) (by omega) (by omega)).mono ?_
      rintro e w3 ⟨A3, c3, rfl, o3, h3⟩
      replace I2 := I2.below h3
      have I3 := Ints.of_own o3
      have H3 := Below.step H2 h3
      clear o3 h3
      go_wp2_with fail
      refine (both_any a b A B ca cb w3 (ha.below H3) (hb.below H3) (by omega) (by omega)).mono ?_
      rintro e w4 ⟨A4, c4, rfl, o4, h4⟩
      replace I2 := I2.below h4
      replace I3 := I3.below h4
      have I4 := Ints.of_own o4
      have H4 := Below.step H3 h4
      clear o4 h4
      go_wp2_with fail
      refine (kx w4 (ha.below H4)).mono ?_
      rintro e w5 ⟨rfl, h5⟩
      replace I2 := I2.below h5
      replace I3 := I3.below h5
      replace I4 := I4.below h5
      have H5 := Below.step H4 h5
      clear h5
      go_wp2_with fail
      refine (ky w5 (hb.below H5)).mono ?_
      rintro e w6 ⟨rfl, h6⟩
      replace I2 := I2.below h6
      replace I3 := I3.below h6
      replace I4 := I4.below h6
      have H6 := Below.step H5 h6
      clear h6
      go_wp2_with fail
      refine (up_yes (union a b) A2 c2 w6 I2 (by omega) i1).mono ?_
      rintro e w7 ⟨rfl, h7⟩
      replace I2 := I2.below h7
      replace I3 := I3.below h7
      replace I4 := I4.below h7
      have H7 := Below.step H6 h7
      clear h7
      go_wp2_with fail
      refine (up_yes (minus a b) A3 c3 w7 I3 (by omega) i2).mono ?_
      rintro e w8 ⟨rfl, h8⟩
      replace I2 := I2.below h8
      replace I3 := I3.below h8
      replace I4 := I4.below h8
      have H8 := Below.step H7 h8
      clear h8
      go_wp2_with fail
      refine (up_yes (both a b) A4 c4 w8 I4 (by omega) i3).mono ?_
      rintro e w9 ⟨rfl, h9⟩
      replace I2 := I2.below h9
      replace I3 := I3.below h9
      replace I4 := I4.below h9
      have H9 := Below.step H8 h9
      clear h9
      go_wp2_with fail
      refine (kU A2 c2 w9 I2).mono ?_
      rintro e w10 ⟨rfl, h10⟩
      replace I2 := I2.below h10
      replace I3 := I3.below h10
      replace I4 := I4.below h10
      have H10 := Below.step H9 h10
      clear h10
      go_wp2_with fail
      refine (kM A3 c3 w10 I3).mono ?_
      rintro e w11 ⟨rfl, h11⟩
      replace I2 := I2.below h11
      replace I3 := I3.below h11
      replace I4 := I4.below h11
      have H11 := Below.step H10 h11
      clear h11
      go_wp2_with fail
      refine (kB A4 c4 w11 I4).mono ?_
      rintro e w12 ⟨rfl, h12⟩
      replace I2 := I2.below h12
      replace I3 := I3.below h12
      replace I4 := I4.below h12
      have H12 := Below.step H11 h12
      clear h12
      go_wp2_with fail
      refine (awake_any w12 (hL.below H12)).mono ?_
      rintro e w13 ⟨rfl, h13⟩
      replace I2 := I2.below h13
      replace I3 := I3.below h13
      replace I4 := I4.below h13
      have H13 := Below.step H12 h13
      clear h13
      go_wp2
      go_ret
      exact Ret.mk rfl H13
  · have kf := fun w' => few_any a b A B ca cb w' false (by simpa using h2)
    clear h2
    go_enter Tryd.func10, Tryd.ntmps10
    have H0 : Below w.heap.size w w := Below.refl _ _
    go_wp2_with fail
    refine (kf w).mono ?_
    rintro e w1 ⟨rfl, h1⟩
    have H1 := Below.step H0 h1
    clear h1
    go_wp2_with fail
    refine (awake_any w1 (hL.below H1)).mono ?_
    rintro e w2 ⟨rfl, h2⟩
    have H2 := Below.step H1 h2
    clear h2
    go_wp2
    go_ret
    exact Ret.mk rfl H2

end Go.Proofs.YtoegkojomgellaaDoor
