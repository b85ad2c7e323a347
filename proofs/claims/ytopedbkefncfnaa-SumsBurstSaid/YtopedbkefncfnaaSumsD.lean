/- The contract of Hex. (The section on blocks follows the guide's page of words to copy.) -/
import Derived.Test.YtopedbkefncfnaaSumsC
namespace Go.Proofs.Ytopedbkefncfnaa
open Go.RowKit

def Blk (w : World) (g : Nat) (t : TypeId) (cs : Array Value) : Prop := w.heap[g]? = some (.cells cs t (0, 0))
theorem Blk.lt {w : World} {g : Nat} {t : TypeId} {cs : Array Value} (h : Blk w g t cs) : g < w.heap.size := by
  rcases Nat.lt_or_ge g w.heap.size with hlt | hge
  · exact hlt
  · unfold Blk at h; rw [Array.getElem?_eq_none hge] at h; cases h
theorem Blk.cell {w : World} {g : Nat} {t : TypeId} {cs : Array Value} (h : Blk w g t cs) (i : Nat) : w.cell? ⟨g, i, none⟩ = cs[i]? := cell_of_row w g i cs t (0, 0) h
theorem Blk.frozen {w : World} {g : Nat} {t : TypeId} {cs : Array Value} (h : Blk w g t cs) (i : Nat) : w.frozen? ⟨g, i, none⟩ = false := by
  unfold Blk at h
  simp [World.frozen?, h]
theorem Blk.new (w : World) (t : TypeId) (cs : Array Value) : Blk (w.alloc (.cells cs t)) w.heap.size t cs := heap_alloc_new w _
theorem Blk.set_ {w : World} {g : Nat} {t : TypeId} {cs : Array Value} (h : Blk w g t cs) (i : Nat) (u : Value) : Blk (w.setCell ⟨g, i, none⟩ u) g t (cs.setIfInBounds i u) := by
  unfold Blk at h ⊢
  simp [World.setCell, Array.getElem?_modify, h]

/-- The array behind n rounds. -/
def hexCells (x n : Nat) : List Value := List.replicate (16 - n) (Value.int .u8 0) ++ (hexTo x n).map fun c => Value.int .u8 c.toNat
theorem hexCells_len (x n : Nat) (h : n ≤ 16) : (hexCells x n).length = 16 := by simp [hexCells, hexTo_len]; omega
theorem hexCells_set (x n : Nat) (h : n < 16) : (hexCells x n).set (15 - n) (.int .u8 ((hexDigit (x / 16 ^ n % 16)).toNat : Int)) = hexCells x (n + 1) := by
  unfold hexCells
  rw [show 16 - n = (15 - n) + 1 by omega, List.replicate_succ', show 16 - (n + 1) = 15 - n by omega, hexTo]
  rw [List.append_assoc, List.set_append_right _ _ (by simp)]
  simp
theorem hexCells_at (x n : Nat) (h : n < 16) : (hexCells x n)[15 - n]? = some (.int .u8 0) := by
  unfold hexCells
  rw [List.getElem?_append_left (by simp; omega), List.getElem?_replicate, if_pos (by omega)]

theorem digits_at : ∀ d : Fin 16, (⟨#[48, 49, 50, 51, 52, 53, 54, 55, 56, 57, 97, 98, 99, 100, 101, 102]⟩ : ByteArray)[d.val]'(d.isLt) = hexDigit d.val := by decide

set_option maxHeartbeats 400000 in
theorem hex_any (h : Int) (w : World) : Calls Try.prog 19 #[.int .i64 h] w (Ret (.string ⟨(hexS h).toArray⟩) w) := by
  have H0 : Hid (bits .and .u64 (IntKind.u64.wrap h) 4611686018427387903 = ((word h % 4611686018427387904 : Nat) : Int)) := Lib.hid (by
    rw [show IntKind.u64.wrap h = (word h : Int) by rw [IntKind.wrap_u64]; unfold word; omega]
    exact and_mask64 (word_lt h))
  unfold hexS
  have hx : word h % 4611686018427387904 < 4611686018427387904 := Nat.mod_lt _ (by omega)
  generalize word h % 4611686018427387904 = x at *
  go_enter Try.func19, Try.ntmps19
  go_wp2
  go_loopw [4, 5] (fun u i wr => ∃ n : Nat, n ≤ 16 ∧ i = .int .i64 (15 - (n : Int)) ∧ u = .int .u64 ((x / 16 ^ n : Nat) : Int) ∧ Blk wr w.heap.size 44 (hexCells x n).toArray ∧ Below w.heap.size w wr) (fun _ i _ => (intOf i + 1).toNat)
  case atStart => exact ⟨0, by omega, rfl, congrArg (Value.int .u64) (by rw [H0.out]; simp), Blk.new w 44 _, (Below.refl _ _).alloc (Nat.le_refl _) _⟩
  case round =>
    obtain ⟨n, hn, rfl, rfl, hblk, hbw⟩ := hrel
    by_cases h16 : n < 16
    · obtain ⟨m, hm⟩ : ∃ m : Nat, (15 - (n : Int)) = m := ⟨15 - n, by omega⟩
      have hmn : m = 15 - n := by omega
      have hcell : wr.cell? ⟨w.heap.size, m, none⟩ = some (.int .u8 0) := by rw [hblk.cell, List.getElem?_toArray, hmn]; exact hexCells_at x n h16
      have hfro := hblk.frozen m
      have HD := Lib.hid (div_pow x n)
      have HC := Lib.hid (hexCells_set x n h16)
      have HB := Lib.hid hblk
      have hX : x / 16 ^ n < 4611686018427387904 := Nat.lt_of_le_of_lt (Nat.div_le_self _ _) hx
      clear hblk
      generalize x / 16 ^ n = X at *
      rw [hm]
      have hm0 : (0 : Int) ≤ m := by omega
      have hm1 : (m : Int) < 16 := by omega
      have HM := Lib.hid hm
      have HN := Lib.hid hmn
      clear hm hmn
      have hand : bits .and .u64 (X : Int) 15 = ((X % 16 : Nat) : Int) := by
        rw [show (15 : Int) = ((15 : Nat) : Int) from rfl, u64_and_nat _ _ (by omega) (by omega)]
        rw [Nat.and_two_pow_sub_one_eq_mod X 4]
      have hdlt : X % 16 < 16 := Nat.mod_lt _ (by omega)
      have HE : Hid (X / 16 = X / 16) := Lib.hid rfl
      generalize hdd : X % 16 = d at *
      have HDD := Lib.hid hdd
      clear hdd
      go_wp2
      go_roundw
      case rel =>
        refine ⟨n + 1, by omega, congrArg (Value.int .i64) (by have := HM.out; omega), congrArg (Value.int .u64) (by have := HD.out; omega), ?_, hbw.setCell (p := ⟨w.heap.size, m, none⟩) (Nat.le_refl _) _⟩
        have hs := HB.out.set_ m (.int .u8 ((hexDigit d).toNat : Int))
        rw [List.setIfInBounds_toArray, HN.out, HC.out] at hs
        rw [HN.out]
        have e := digits_at ⟨d, hdlt⟩
        dsimp only at e
        rw [← e] at hs
        exact hs
      case measure => simp [intOf]
    · obtain rfl : n = 16 := by omega
      have hbytes : Bytes wr (some ⟨w.heap.size, 0, none⟩) (hexTo x 16) := ⟨by simp, fun _ => ⟨_, rfl, hblk.lt, fun j u hu => by
        rw [show ((⟨w.heap.size, 0, none⟩ : Addr).add j) = ⟨w.heap.size, j, none⟩ by unfold Addr.add; split <;> simp_all, hblk.cell, List.getElem?_toArray]
        exact hu⟩⟩
      have hcv := run_bytes_string wr _ _ 16 hbytes
      rw [hexTo_len] at hcv
      go_wp2
      go_ret
      exact Ret.mk rfl hbw
end Go.Proofs.Ytopedbkefncfnaa
