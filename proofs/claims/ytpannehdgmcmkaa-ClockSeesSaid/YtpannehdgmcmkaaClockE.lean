/- Contracts: See, few, Same. -/
import Derived.Test.YtpannehdgmcmkaaClockD
import Derived.StillTailTactics
namespace Go.Proofs.Ytpannehdgmcmkaa
open Go.RowKit

theorem joinL_len (a b : List Int) : (joinL a b).length = 15 := by simp [joinL]
theorem joinL_at (a b : List Int) (j : Nat) (h : j < 15) : (joinL a b)[j]? = some (mx a b j) := by simp [joinL, h]

/-- The call returns fifteen ints in a row of its own. -/
def RetRow (l : List Int) (w : World) (e : Ending) (w' : World) : Prop :=
  ∃ g cap, e = .returned (.slice (some ⟨g, 0, none⟩) 15 cap) ∧ w.heap.size ≤ g ∧ w'.ownsRow w.heap.size 3 1 (.slice (some ⟨g, 0, none⟩) 15 cap) 15 (l.map (Value.int .i64)) ∧ Below w.heap.size w w'
theorem RetRow.of {l : List Int} (hl : l.length = 15) {w w' : World} {e : Ending} (h : RetInts 3 l w e w') : RetRow l w e w' := by
  obtain ⟨A, cap, rfl, hown, hb⟩ := h
  rw [hl] at hown
  obtain ⟨g, c, hv, hg, _⟩ := hown.form (by omega)
  injection hv with hA _ _
  subst hA
  exact ⟨g, cap, by rw [hl], hg, hown, hb⟩
theorem RetRow.ints {l : List Int} (hl : l.length = 15) {w w' : World} {e : Ending} (h : RetRow l w e w') : RetInts 3 l w e w' := by
  obtain ⟨g, cap, rfl, _, hown, hb⟩ := h
  exact ⟨_, cap, by rw [hl], by rw [hl]; exact hown, hb⟩

theorem join_nil (v : List Int) (A : Option Addr) (cap : Nat) (w : World) (hv : Ints w A v) :
    Calls Try.prog 26 #[.slice A v.length cap, .slice none 0 0] w (RetRow (joinL v []) w) :=
  (join_any v [] A none cap 0 w hv (Ints.nil_ _ _)).mono fun _ _ h => RetRow.of (joinL_len _ _) h
theorem rjoin_nil (v : List Int) (A : Option Addr) (cap : Nat) (w : World) (hv : Ints w A v) :
    Calls Try.prog 27 #[.slice A v.length cap, .slice none 0 0] w (RetRow (joinL v []) w) :=
  (rjoin_any v [] A none cap 0 w hv (Ints.nil_ _ _)).mono fun _ _ h => RetRow.of (joinL_len _ _) h

def seeL (v : List Int) (c d : Int) : List Int := if rightB c d = true then (joinL v []).set (d - 1).toNat (max (numZ v d) c) else joinL v []
theorem seeL_len (v : List Int) (c d : Int) : (seeL v c d).length = 15 := by unfold seeL; split <;> simp [joinL]
theorem numZ_nil (d : Int) : numZ [] d = 0 := numZ_out (by simp; omega)

theorem own_more {w : World} {base base' : Nat} {e : TypeId} {size n : Nat} {v : Value} {xs : List Value} (h : w.ownsRow base e size v n xs) (hB : base' ≤ base) : w.ownsRow base' e size v n xs := by
  refine ⟨h.1, ?_⟩
  rcases h.2 with h0 | ⟨g, cap, cur, h1, h2, h3⟩
  · exact .inl h0
  · exact .inr ⟨g, cap, cur, h1, by omega, h3⟩
theorem own_drew {w : World} {base : Nat} {e : TypeId} {size n : Nat} {v : Value} {xs : List Value} (h : w.ownsRow base e size v n xs) : w.drew.ownsRow base e size v n xs := h

set_option maxHeartbeats 400000 in
theorem see_any (v : List Int) (A : Option Addr) (cap : Nat) (c d : Int) (w : World) (hv : Ints w A v) :
    Calls Try.prog 28 #[.slice A v.length cap, .agg #[.int .i64 c, .int .i64 d]] w (RetRow (seeL v c d) w) := by
  have hv1 := hv.alloc (.cells #[.int .i64 c, .int .i64 d] 23)
  rcases Bool.eq_false_or_eq_true (rightB c d) with hr | hr
  · obtain ⟨h1, h2, h3, h4⟩ := rightB_bd hr
    obtain ⟨j, rfl⟩ : ∃ j : Nat, d = (j : Int) + 1 := ⟨(d - 1).toNat, by omega⟩
    have Hr := Lib.hid hr
    clear hr
    go_enter Try.func28, Try.ntmps28
    go_wp2_with fail
    refine (join_nil v A cap _ hv1).mono ?_
    rintro e w1 ⟨g, cap1, rfl, hg, hown, hb⟩
    have hc := (bcell hb).1
    have hf := (bcell hb).2
    have hz := hb.size
    simp at hz
    go_wp2_with fail
    refine (right_yes Hr.out _).mono ?_
    rintro e w2 ⟨rfl, hb2⟩
    have hc2 := (bcell hb2).1
    have hown2 := own_below hown hb2
    have hcell : w2.cell? ⟨g, j, none⟩ = some (.int .i64 (numZ v (j + 1))) := by
      rw [hown2.cellAt j (by omega)]
      rw [List.getElem?_map, joinL_at _ _ _ (by omega)]
      simp [mx, numZ_nil]
      have := numZ_nonneg v (j + 1)
      omega
    have hfro := hown2.frozenAt j
    have s0 : w2.cell? ⟨w.heap.size, 0, none⟩ = some (.int .i64 c) := (hc2 _ _ (by omega)).trans ((hc _ _ (by simp)).trans (by simp [go_sem]))
    have s1 : w2.cell? ⟨w.heap.size, 1, none⟩ = some (.int .i64 ((j : Int) + 1)) := (hc2 _ _ (by omega)).trans ((hc _ _ (by simp)).trans (by simp [go_sem]))
    have Hown2 := Lib.hid hown2
    have Hown := Lib.hid hown
    clear hown2 hc hc2 hf hown
    go_wp2
    have hb12 := Below.step hb hb2
    have hg' : w.heap.size + 1 ≤ g := by simpa using hg
    have hset : Hid (((joinL v []).map (Value.int .i64)).set j (.int .i64 (max (numZ v (j + 1)) c)) = (seeL v c (j + 1)).map (Value.int .i64)) := Lib.hid (by
      rw [seeL, if_pos Hr.out, List.map_set]
      rw [show ((j : Int) + 1 - 1).toNat = j by omega])
    go_region
    go_wp2
    all_goals
      go_ret
      refine ⟨g, cap1, rfl, by simp at hg; omega, ?_, (by repeat (first | assumption | exact Below.refl _ _ | refine Below.alloc ?_ (by first | omega | (simp; done) | (simp; omega)) _ | refine Below.setCell ?_ (by first | omega | (simp; done) | (simp; omega)) _ | refine Below.drew ?_ | refine Below.drewN_ ?_ _ | refine Below.step ?_ (by assumption)))⟩
      have hs := (Hown2.out.stored j (.int .i64 (max (numZ v (j + 1)) c))).1
      rw [hset.out] at hs
      first
        | (rw [show max (numZ v (j + 1)) c = c by omega] at hs; exact own_more (own_drew hs) (by simp))
        | (rw [show max (numZ v (j + 1)) c = numZ v (j + 1) by omega] at hs; exact own_more (own_drew hs) (by simp))
  · have Hr := Lib.hid hr
    clear hr
    go_enter Try.func28, Try.ntmps28
    go_wp2_with fail
    refine (join_nil v A cap _ hv1).mono ?_
    rintro e w1 ⟨g, cap1, rfl, hg, hown, hb⟩
    have hc := (bcell hb).1
    have hz := hb.size
    simp at hz
    have Hown := Lib.hid hown
    clear hown
    go_wp2_with fail
    refine (right_no Hr.out _).mono ?_
    rintro e w2 ⟨rfl, hb2⟩
    go_wp2
    go_ret
    exact ⟨g, cap1, rfl, by simp at hg; omega, by rw [seeL, if_neg (by rw [Hr.out]; decide)]; exact own_more (own_below Hown.out hb2) (by simp), (by repeat (first | assumption | exact Below.refl _ _ | refine Below.alloc ?_ (by first | omega | (simp; done) | (simp; omega)) _ | refine Below.setCell ?_ (by first | omega | (simp; done) | (simp; omega)) _ | refine Below.drew ?_ | refine Below.drewN_ ?_ _ | refine Below.step ?_ (by assumption)))⟩

set_option maxHeartbeats 400000 in
theorem rsee_any (v : List Int) (A : Option Addr) (cap : Nat) (c d : Int) (w : World) (hv : Ints w A v) :
    Calls Try.prog 29 #[.slice A v.length cap, .agg #[.int .i64 c, .int .i64 d]] w (RetRow (seeL v c d) w) := by
  have hv1 := hv.alloc (.cells #[.int .i64 c, .int .i64 d] 23)
  rcases Bool.eq_false_or_eq_true (rightB c d) with hr | hr
  · obtain ⟨h1, h2, h3, h4⟩ := rightB_bd hr
    obtain ⟨j, rfl⟩ : ∃ j : Nat, d = (j : Int) + 1 := ⟨(d - 1).toNat, by omega⟩
    have Hr := Lib.hid hr
    clear hr
    go_enter Try.func29, Try.ntmps29
    go_wp2_with fail
    refine (rjoin_nil v A cap _ hv1).mono ?_
    rintro e w1 ⟨g, cap1, rfl, hg, hown, hb⟩
    have hc := (bcell hb).1
    have hf := (bcell hb).2
    have hz := hb.size
    simp at hz
    go_wp2_with fail
    refine (rright_yes Hr.out _).mono ?_
    rintro e w2 ⟨rfl, hb2⟩
    have hc2 := (bcell hb2).1
    have hown2 := own_below hown hb2
    have hcell : w2.cell? ⟨g, j, none⟩ = some (.int .i64 (numZ v (j + 1))) := by
      rw [hown2.cellAt j (by omega)]
      rw [List.getElem?_map, joinL_at _ _ _ (by omega)]
      simp [mx, numZ_nil]
      have := numZ_nonneg v (j + 1)
      omega
    have hfro := hown2.frozenAt j
    have s0 : w2.cell? ⟨w.heap.size, 0, none⟩ = some (.int .i64 c) := (hc2 _ _ (by omega)).trans ((hc _ _ (by simp)).trans (by simp [go_sem]))
    have s1 : w2.cell? ⟨w.heap.size, 1, none⟩ = some (.int .i64 ((j : Int) + 1)) := (hc2 _ _ (by omega)).trans ((hc _ _ (by simp)).trans (by simp [go_sem]))
    have Hown2 := Lib.hid hown2
    have Hown := Lib.hid hown
    clear hown2 hc hc2 hf hown
    go_wp2
    have hb12 := Below.step hb hb2
    have hg' : w.heap.size + 1 ≤ g := by simpa using hg
    have hset : Hid (((joinL v []).map (Value.int .i64)).set j (.int .i64 (max (numZ v (j + 1)) c)) = (seeL v c (j + 1)).map (Value.int .i64)) := Lib.hid (by
      rw [seeL, if_pos Hr.out, List.map_set]
      rw [show ((j : Int) + 1 - 1).toNat = j by omega])
    go_region
    go_wp2
    all_goals
      go_ret
      refine ⟨g, cap1, rfl, by simp at hg; omega, ?_, (by repeat (first | assumption | exact Below.refl _ _ | refine Below.alloc ?_ (by first | omega | (simp; done) | (simp; omega)) _ | refine Below.setCell ?_ (by first | omega | (simp; done) | (simp; omega)) _ | refine Below.drew ?_ | refine Below.drewN_ ?_ _ | refine Below.step ?_ (by assumption)))⟩
      have hs := (Hown2.out.stored j (.int .i64 (max (numZ v (j + 1)) c))).1
      rw [hset.out] at hs
      first
        | (rw [show max (numZ v (j + 1)) c = c by omega] at hs; exact own_more (own_drew hs) (by simp))
        | (rw [show max (numZ v (j + 1)) c = numZ v (j + 1) by omega] at hs; exact own_more (own_drew hs) (by simp))
  · have Hr := Lib.hid hr
    clear hr
    go_enter Try.func29, Try.ntmps29
    go_wp2_with fail
    refine (rjoin_nil v A cap _ hv1).mono ?_
    rintro e w1 ⟨g, cap1, rfl, hg, hown, hb⟩
    have hc := (bcell hb).1
    have hz := hb.size
    simp at hz
    have Hown := Lib.hid hown
    clear hown
    go_wp2_with fail
    refine (rright_no Hr.out _).mono ?_
    rintro e w2 ⟨rfl, hb2⟩
    go_wp2
    go_ret
    exact ⟨g, cap1, rfl, by simp at hg; omega, by rw [seeL, if_neg (by rw [Hr.out]; decide)]; exact own_more (own_below Hown.out hb2) (by simp), (by repeat (first | assumption | exact Below.refl _ _ | refine Below.alloc ?_ (by first | omega | (simp; done) | (simp; omega)) _ | refine Below.setCell ?_ (by first | omega | (simp; done) | (simp; omega)) _ | refine Below.drew ?_ | refine Below.drewN_ ?_ _ | refine Below.step ?_ (by assumption)))⟩

theorem few_any (a b : List Int) (A B : Option Addr) (ca cb : Nat) (w : World) :
    Calls Try.prog 20 #[.slice A a.length ca, .slice B b.length cb] w (Ret (.bool (decide (a.length ≤ 100) && decide (b.length ≤ 100))) w) := by
  by_cases h1 : a.length ≤ 100
  · by_cases h2 : b.length ≤ 100
    · have h1' : (a.length : Int) ≤ 100 := by omega
      have h2' : (b.length : Int) ≤ 100 := by omega
      have e : Hid ((decide (a.length ≤ 100) && decide (b.length ≤ 100)) = true) := Lib.hid (by simp [h1, h2])
      go_enter Try.func20, Try.ntmps20
      go_wp2
      go_ret
      exact Ret.mk (congrArg Value.bool e.out.symm) (Below.refl _ _)
    · have h1' : (a.length : Int) ≤ 100 := by omega
      have h2' : 100 < (b.length : Int) := by omega
      have hd : decide ((b.length : Int) ≤ 100) = false := by simp; omega
      have e : Hid ((decide (a.length ≤ 100) && decide (b.length ≤ 100)) = false) := Lib.hid (by simp; omega)
      go_enter Try.func20, Try.ntmps20
      go_wp2
      go_ret
      exact Ret.mk (congrArg Value.bool e.out.symm) (Below.refl _ _)
  · have h1' : 100 < (a.length : Int) := by omega
    have hd : decide ((a.length : Int) ≤ 100) = false := by simp; omega
    have e : Hid ((decide (a.length ≤ 100) && decide (b.length ≤ 100)) = false) := Lib.hid (by simp; omega)
    go_enter Try.func20, Try.ntmps20
    go_wp2
    go_ret
    exact Ret.mk (congrArg Value.bool e.out.symm) (Below.refl _ _)

set_option maxHeartbeats 400000 in
/-- langdocref01.Same of two lists that are the same. -/
theorem same_yes (l : List Int) (A B : Option Addr) (ca cb : Nat) (w : World) (ha : Ints w A l) (hb : Ints w B l) (hl : l.length ≤ maxLen) :
    Calls Try.prog 25 #[.slice A l.length ca, .slice B l.length cb] w (Ret (.bool true) w) := by
  unfold maxLen at hl
  go_enter Try.func25, Try.ntmps25
  go_wp2
  go_loopw [5, 13] (fun _ i wr => ∃ k : Nat, k ≤ l.length ∧ i = .int .i64 (k : Int) ∧ Below w.heap.size w wr) (fun _ i _ => l.length + 1 - (intOf i).toNat)
  case atStart => exact ⟨0, by omega, rfl, Below.refl _ _⟩
  case round =>
    obtain ⟨k, hk, rfl, hbw⟩ := hrel
    by_cases h15 : k < l.length
    · obtain ⟨a1, e1, hl1, c1⟩ := (ha.below hbw).at_ h15
      obtain ⟨b1, e2, hl2, c2⟩ := (hb.below hbw).at_ h15
      subst e1 e2
      have hlt : (k : Int) < l.length := by omega
      go_wp2
      go_quiet (fail)
      go_wp2
      go_roundw
      case rel => exact ⟨k + 1, by omega, by go_num, Below.drewN_ hbw _⟩
      case measure => simp [intOf]; omega
    · have hlt : ¬ (k : Int) < l.length := by omega
      go_wp2
      go_ret
      exact Ret.mk rfl hbw
end Go.Proofs.Ytpannehdgmcmkaa
