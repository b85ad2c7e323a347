/- Contracts: Join, See, few, Same. -/
import Derived.Test.YtpannehdgmcmkaaClockC
namespace Go.Proofs.Ytpannehdgmcmkaa
open Go.RowKit

def mx (a b : List Int) (j : Nat) : Int := max (numZ a (j + 1)) (numZ b (j + 1))
/-- Join as far as the first k devices, zeros behind. -/
def joinTo (a b : List Int) (k : Nat) : List Int := (List.range 15).map fun j => if j < k then mx a b j else 0
def joinL (a b : List Int) : List Int := (List.range 15).map (mx a b)
theorem joinTo_all (a b : List Int) : joinTo a b 15 = joinL a b := by
  unfold joinTo joinL
  apply List.map_congr_left
  intro j hj
  rw [if_pos (by simpa using hj)]
theorem joinTo_set (a b : List Int) (k : Nat) (hk : k < 15) : ((joinTo a b k).map (Value.int .i64)).set k (.int .i64 (mx a b k)) = (joinTo a b (k + 1)).map (Value.int .i64) := by
  apply List.ext_getElem?
  intro j
  rw [List.getElem?_set]
  unfold joinTo
  by_cases hj : j < 15
  · by_cases e : k = j
    · subst e; simp [hj]
    · simp [hj, e]
      by_cases h1 : j < k
      · rw [if_pos h1, if_pos (by omega)]
      · rw [if_neg h1, if_neg (by omega)]
  · by_cases e : k = j
    · omega
    · simp [hj, e]

theorem joinTo_none (a b : List Int) : (madeCells (Value.int .i64 0).cells (15 * 1)).toList = (joinTo a b 0).map (Value.int .i64) := by
  rw [show (Value.int .i64 0).cells = #[Value.int .i64 0] from rfl, toList_madeCells_one]
  unfold joinTo
  simp [List.range_succ, List.replicate]

theorem info_int : (Try.prog.info? 3).map (fun i => (i.zero, i.size, i.bytes)) = some (some (.int .i64 0), 1, 8) := by kernel_rfl

set_option maxHeartbeats 400000 in
theorem join_any (a b : List Int) (A B : Option Addr) (ca cb : Nat) (w : World) (ha : Ints w A a) (hb : Ints w B b) :
    Calls Try.prog 26 #[.slice A a.length ca, .slice B b.length cb] w (RetInts 3 (joinL a b) w) := by
  obtain ⟨i0, hi, hz0, hz1, hz2⟩ := info_parts info_int
  go_enter Try.func26, Try.ntmps26
  go_wp2_with (refine wpList_make_full w rfl _ _ 31 rfl w.heap.size 3 i0 (.int .i64 0) 1 Try.underlying31 hi hz0 hz1 .i64 .i64 15 15 15 rfl rfl rfl rfl (by rw [hz2]; decide) (by decide) (Nat.le_refl _) ?_; intro w1 hown hgr)
  have hown' := Lib.hid (joinTo_none a b ▸ hown)
  have hb1 : Below w.heap.size w w1 := (Below.refl _ _).grown hgr (Nat.le_refl _) (by simp)
  clear hown hgr hi hz0 hz1 hz2
  go_wp2
  go_loopw [6, 10] (fun _ i wr => ∃ k : Nat, k ≤ 15 ∧ i = .int .i64 (k : Int) ∧ wr.ownsRow w.heap.size 3 1 (.slice (some ⟨w.heap.size, 0, none⟩) 15 15) 15 ((joinTo a b k).map (Value.int .i64)) ∧ Below w.heap.size w wr) (fun _ i _ => 16 - (intOf i).toNat)
  case atStart => exact ⟨0, by omega, rfl, hown'.out, hb1⟩
  case round =>
    obtain ⟨k, hk, rfl, hown, hbw⟩ := hrel
    have Hown := Lib.hid hown
    clear hown hown' hb1
    by_cases h15 : k = 15
    · subst h15
      go_wp2
      go_ret
      exact ⟨_, 15, rfl, by rw [← joinTo_all a b]; exact Hown.out, hbw⟩
    · have hlt : (k : Int) < 15 := by omega
      go_wp2_with fail
      refine (number_any a A ca _ _ (ha.below hbw) (by omega) (by omega)).mono ?_
      rintro e w2 ⟨rfl, h2⟩
      go_wp2_with fail
      refine (number_any b B cb _ _ (hb.below (Below.step hbw h2)) (by omega) (by omega)).mono ?_
      rintro e w3 ⟨rfl, h3⟩
      have hown3 := own_below (own_below Hown.out h2) h3
      have hcell : w3.cell? ⟨w.heap.size, k, none⟩ = some (.int .i64 0) := by
        rw [hown3.cellAt k (by omega)]
        simp [joinTo, show k < 15 by omega]
      have hfro := hown3.frozenAt k
      have Hown3 := Lib.hid hown3
      clear hown3
      have hb3 := Below.step (Below.step hbw h2) h3
      go_wp2
      all_goals
        go_roundw
        case rel =>
          refine ⟨k + 1, by omega, by go_num, ?_, hb3.setCell (p := ⟨w.heap.size, k, none⟩) (Nat.le_refl _) _⟩
          have h := (Hown3.out.stored k (.int .i64 (mx a b k))).1
          rw [joinTo_set a b k (by omega)] at h
          rw [show mx a b k = (if numZ a (k + 1) < numZ b (k + 1) then numZ b (k + 1) else numZ a (k + 1)) by unfold mx; split <;> omega] at h
          exact h
        case measure => simp [intOf]; omega

theorem range_snoc (a b : List Int) (k : Nat) : ((List.range k).map (mx a b)).map (Value.int .i64) ++ [.int .i64 (mx a b k)] = ((List.range (k + 1)).map (mx a b)).map (Value.int .i64) := by
  rw [List.range_succ]; simp

set_option maxHeartbeats 400000 in
theorem rjoin_any (a b : List Int) (A B : Option Addr) (ca cb : Nat) (w : World) (ha : Ints w A a) (hb : Ints w B b) :
    Calls Try.prog 27 #[.slice A a.length ca, .slice B b.length cb] w (RetInts 3 (joinL a b) w) := by
  obtain ⟨i0, hi, hz0, hz1, hz2⟩ := info_parts info_int
  go_enter Try.func27, Try.ntmps27
  go_wp2
  go_loopw [5, 6] (fun v i wr => ∃ k : Nat, k ≤ 15 ∧ i = .int .i64 ((k : Int) + 1) ∧ wr.ownsRow w.heap.size 3 1 v k (((List.range k).map (mx a b)).map (Value.int .i64)) ∧ Below w.heap.size w wr) (fun _ i _ => 17 - (intOf i).toNat)
  case atStart => exact ⟨0, by omega, rfl, World.ownsRow_nil _ _ _ _, Below.refl _ _⟩
  case round =>
    obtain ⟨k, hk, rfl, hown, hbw⟩ := hrel
    have Hown := Lib.hid hown
    clear hown
    by_cases h15 : k = 15
    · subst h15
      go_wp2
      go_ret
      rcases Hown.out.2 with ⟨_, h0⟩ | ⟨g, cap, cur, rfl, hg⟩
      · omega
      · exact ⟨some ⟨g, 0, none⟩, cap, rfl, Hown.out, hbw⟩
    · have hlt : (k : Int) + 1 ≤ 15 := by omega
      go_wp2_with fail
      refine (at_any a A ca _ _ (ha.below hbw)).mono ?_
      rintro e w2 ⟨rfl, h2⟩
      go_wp2_with fail
      refine (at_any b B cb _ _ (hb.below (Below.step hbw h2))).mono ?_
      rintro e w3 ⟨rfl, h3⟩
      have Hown3 := Lib.hid (own_below (own_below Hown.out h2) h3)
      have hb3 := Below.step (Below.step hbw h2) h3
      have hm : Hid (mx a b k = (if numZ a (k + 1) < numZ b (k + 1) then numZ b (k + 1) else numZ a (k + 1))) := Lib.hid (by unfold mx; split <;> omega)
      by_cases hcmp : numZ a (k + 1) < numZ b (k + 1)
      · have Hm := hm.out
        rw [if_pos hcmp] at Hm
        have HM := Lib.hid Hm
        clear Hm hm
        go_wp2_with (at_builtin; refine wpList_append_own _ rfl _ _ 31 rfl w.heap.size 3 i0 (.int .i64 0) 1 8 Try.underlying31 hi hz0 hz1 hz2 rfl (by decide) _ _ _ rfl (Hown3.out.alloc _) ⟨w3.heap.size, 0, none⟩ 1 1 [.int .i64 (numZ b (k + 1))] rfl rfl (cell_one_new _ _ _) (fun x hx => by simp at hx; subst hx; rfl) (by unfold maxLen; omega) (by omega) (by have := hb3.size; simp; omega) ?_; intro v' w4 hown4 hgrow4 _)
        have hb4 : Below w.heap.size w w4 := (hb3.alloc hb3.size _).grown hgrow4 (by have := hb3.size; simp; omega) (fun g hg => (Hown3.out.lt g hg).1)
        have Hown4 : Hid (w4.ownsRow w.heap.size 3 1 v' (k + 1) (((List.range (k + 1)).map (mx a b)).map (Value.int .i64))) := Lib.hid (by rw [← range_snoc, HM.out]; exact hown4)
        clear hown4 hgrow4
        go_wp2
        go_roundw
        case rel => exact ⟨k + 1, by omega, by go_num, Hown4.out, hb4⟩
        case measure => simp [intOf]; omega
      · have Hm := hm.out
        rw [if_neg hcmp] at Hm
        have HM := Lib.hid Hm
        clear Hm hm
        go_wp2_with (at_builtin; refine wpList_append_own _ rfl _ _ 31 rfl w.heap.size 3 i0 (.int .i64 0) 1 8 Try.underlying31 hi hz0 hz1 hz2 rfl (by decide) _ _ _ rfl (Hown3.out.alloc _) ⟨w3.heap.size, 0, none⟩ 1 1 [.int .i64 (numZ a (k + 1))] rfl rfl (cell_one_new _ _ _) (fun x hx => by simp at hx; subst hx; rfl) (by unfold maxLen; omega) (by omega) (by have := hb3.size; simp; omega) ?_; intro v' w4 hown4 hgrow4 _)
        have hb4 : Below w.heap.size w w4 := (hb3.alloc hb3.size _).grown hgrow4 (by have := hb3.size; simp; omega) (fun g hg => (Hown3.out.lt g hg).1)
        have Hown4 : Hid (w4.ownsRow w.heap.size 3 1 v' (k + 1) (((List.range (k + 1)).map (mx a b)).map (Value.int .i64))) := Lib.hid (by rw [← range_snoc, HM.out]; exact hown4)
        clear hown4 hgrow4
        go_wp2
        go_roundw
        case rel => exact ⟨k + 1, by omega, by go_num, Hown4.out, hb4⟩
        case measure => simp [intOf]; omega
end Go.Proofs.Ytpannehdgmcmkaa
