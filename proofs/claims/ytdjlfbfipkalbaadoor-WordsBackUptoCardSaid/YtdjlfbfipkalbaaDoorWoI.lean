/- Join and Lines of the code. -/
import Derived.Test.YtdjlfbfipkalbaaDoorWoH
import Derived.Test.YtdjlfbfipkalbaaDoorWoK
namespace Go.Proofs.YtdjlfbfipkalbaaDoor
open Go.RowKit

/-- The row that Join fills, when k words are there. -/
def filled (l : List (List UInt8)) (k : Nat) : List (List UInt8) := (l.take k).map quote ++ List.replicate (l.length - k) []
theorem filled_len (l : List (List UInt8)) {k : Nat} (hk : k ≤ l.length) : (filled l k).length = l.length := by unfold filled; simp; omega
theorem filled_none (l : List (List UInt8)) : (filled l 0).map sv = (madeCells (Value.string ⟨#[]⟩).cells (l.length * 1)).toList := by
  unfold filled madeCells
  apply List.ext_getElem
  · simp [Value.cells]
  · intro i h1 h2
    simp [Value.cells, sv, Nat.mod_one]
theorem filled_all (l : List (List UInt8)) : filled l l.length = l.map quote := by unfold filled; simp
theorem filled_set (l : List (List UInt8)) {k : Nat} (hk : k < l.length) : ((filled l k).map sv).set k (sv (quote l[k])) = (filled l (k + 1)).map sv := by
  unfold filled
  rw [List.map_append, List.map_append, List.set_append_right _ _ (by simp; omega), show l.length - k = (l.length - (k + 1)) + 1 by omega, List.replicate_succ, List.map_cons]
  rw [show k - (((l.take k).map quote).map sv).length = 0 by simp; omega, List.set_cons_zero, List.take_succ_eq_append_getElem hk]
  rw [List.map_append, List.map_append, List.append_assoc]
  rfl
theorem filled_at (l : List (List UInt8)) {k : Nat} (hk : k < l.length) : ((filled l k).map sv)[k]? = some (.string ⟨#[]⟩) := by
  unfold filled
  rw [List.map_append, List.getElem?_append_right (by simp; omega)]
  rw [show k - (((l.take k).map quote).map sv).length = 0 by simp; omega, show l.length - k = (l.length - (k + 1)) + 1 by omega, List.replicate_succ]
  rfl

theorem blanked_any (l : List (List UInt8)) (A : Option Addr) (ca : Nat) (w : World) (ha : Strs w A l) (hc : l.length ≤ ca) (hl : l.length ≤ 4000000) (hj : (joinC 32 l).length ≤ 4000000) :
    Calls Tryd.prog 35 #[.slice A l.length ca] w (Ret (.string ⟨(joinC 32 l).toArray⟩) w) := by
  have k1 : Calls Tryd.prog 42 #[.slice A l.length ca, .string ⟨#[32]⟩] w (Ret (.string ⟨(joinC 32 l).toArray⟩) w) := by
    cases l with
    | nil =>
      refine (Tryd.strings_Join_none A ca ⟨#[32]⟩ w).mono ?_
      rintro e w' ⟨rfl, rfl⟩
      exact ⟨rfl, Below.refl _ _⟩
    | cons x r =>
      obtain ⟨ad, rfl, hb, hcell⟩ := ha.2 (by simp)
      have h0 := hcell 0 (sv x) (by simp)
      have hs : ad.spot = none := by
        cases hs : ad.spot with
        | none => rfl
        | some i =>
          exfalso
          rw [show ad.add 0 = ad by unfold Addr.add; simp] at h0
          unfold World.cell? at h0
          rw [hs] at h0
          cases hbk : w.heap[ad.block]? with
          | none => rw [hbk] at h0; simp at h0
          | some o => rw [hbk] at h0; cases o <;> simp at h0
      obtain ⟨bk, off, sp⟩ := ad
      simp only at hs
      subst hs
      have e1 : ((x :: r).map fun y => (⟨y.toArray⟩ : ByteArray)).map (·.data.toList) = x :: r := by simp [Function.comp_def]
      have k := Tryd.strings_Join bk off ca ((x :: r).map fun y => ⟨y.toArray⟩) ⟨#[32]⟩ w (fun j y hj' => by
        have := hcell j (.string y) (by rw [List.getElem?_map] at hj' ⊢; cases hx : (x :: r)[j]? with
          | none => rw [hx] at hj'; cases hj'
          | some z => rw [hx] at hj'; simp at hj'; subst hj'; rfl)
        rw [← this]
        unfold Addr.add; split <;> simp_all) hb (by simp at hl ⊢; omega) (by simpa using hc) (by rw [e1, lib_join]; omega)
      rw [e1, show (ByteArray.mk #[32]).data.toList = [32] from rfl, lib_join, List.length_map] at k
      exact k.mono fun e w' ⟨a, b⟩ => ⟨a, b⟩
  generalize joinC 32 l = R at *
  go_enter Tryd.func35, Tryd.ntmps35
  go_wp2_with fail
  refine k1.mono ?_
  rintro e w1 ⟨rfl, h1⟩
  go_wp2
  go_ret
  exact Ret.mk rfl h1

set_option maxRecDepth 20000 in
set_option maxHeartbeats 2000000 in
theorem join_any (l : List (List UInt8)) (A : Option Addr) (ca : Nat) (w : World) (ha : Strs w A l) (hl : room l ≤ 4000000) :
    Calls Tryd.prog 19 #[.slice A l.length ca] w (Ret (.string ⟨(joinL l).toArray⟩) w) := by
  have hl1 := room_len l
  have hj := room_join l
  have HAT := Lib.hid (fun k (hk : k < l.length) => (room_at hk).2)
  have k2 : ∀ w', Below w.heap.size w w' → ∀ A', Strs w' A' (l.map quote) → Calls Tryd.prog 35 #[.slice A' l.length l.length] w' (Ret (.string ⟨(joinL l).toArray⟩) w') := fun w' _ A' hA => by
    have := blanked_any (l.map quote) A' l.length w' hA (by simp) (by simp; omega) (by unfold joinL at hj; omega)
    rw [List.length_map] at this
    exact this
  generalize joinL l = R at *
  generalize room l = N at *
  obtain ⟨i0, hi0, hz0, hz1, hz2⟩ := info_parts info_str
  go_enter Tryd.func19, Tryd.ntmps19
  go_wp2_with (refine wpList_make_full w rfl _ _ 28 rfl w.heap.size 9 i0 (.string ⟨#[]⟩) 1 Tryd.underlying28 hi0 hz0 hz1 .i64 .i64 _ _ l.length rfl rfl rfl rfl (by rw [hz2]; omega) (by unfold maxLen; omega) (Nat.le_refl _) ?_; intro w1 hown hgr)
  have HO0 : Hid (w1.ownsRow w.heap.size 9 1 (.slice (some ⟨w.heap.size, 0, none⟩) l.length l.length) l.length ((filled l 0).map sv)) := Lib.hid (by rw [filled_none]; exact hown)
  have hb1 : Below w.heap.size w w1 := (Below.refl _ _).grown hgr (Nat.le_refl _) (by simp)
  clear hown hgr hi0 hz0 hz1 hz2
  go_wp2
  go_loopw [11] (fun i wr => ∃ k : Nat, k ≤ l.length ∧ i = .int .i64 (k : Int) ∧ Hid (wr.ownsRow w.heap.size 9 1 (.slice (some ⟨w.heap.size, 0, none⟩) l.length l.length) l.length ((filled l k).map sv)) ∧ Below w.heap.size w wr) (fun i _ => l.length + 1 - (intOf i).toNat)
  case atStart => exact ⟨0, by omega, rfl, HO0, hb1⟩
  case round =>
    obtain ⟨k, hk, rfl, HO, hbw⟩ := hrel
    clear HO0 hb1
    by_cases hlt : k < l.length
    · obtain ⟨ad, rfl, hz9, c1⟩ := (ha.below hbw).at_ hlt
      have hxl := HAT.out k hlt
      have k1 := fun w' => quote_any l[k] (by omega) w'
      have HF := Lib.hid (filled_set l hlt)
      have HG := Lib.hid (filled_at l hlt)
      generalize quote l[k] = q at *
      generalize l[k] = x at *
      go_wp2_with fail
      refine (k1 _).mono ?_
      rintro e w2 ⟨rfl, h2⟩
      have hb2 := Below.step hbw h2
      have HO2 := Lib.hid (own_below HO.out h2)
      clear k1 h2
      have hcell : w2.cell? ⟨w.heap.size, k, none⟩ = some (.string ⟨#[]⟩) := by
        rw [HO2.out.cellAt k (by omega), HG.out]
      have hfro := HO2.out.frozenAt k
      go_wp2
      go_roundw
      case rel => exact ⟨k + 1, by omega, by go_num, Lib.hid (by rw [← HF.out]; exact (HO2.out.stored k _).1), hb2.setCell (p := ⟨w.heap.size, k, none⟩) (Nat.le_refl _) _⟩
      case measure => simp [intOf]; omega
    · obtain rfl : k = l.length := by omega
      have hS : Strs wr (some ⟨w.heap.size, 0, none⟩) (l.map quote) := by
        have h := HO.out
        rw [filled_all] at h
        have := Reads.of_own h
        unfold Strs
        rw [List.length_map]
        exact this
      go_wp2_with fail
      refine (k2 _ hbw _ hS).mono ?_
      rintro e w2 ⟨rfl, h2⟩
      have hb2 := Below.step hbw h2
      go_wp2
      go_ret
      exact Ret.mk rfl hb2
end Go.Proofs.YtdjlfbfipkalbaaDoor
