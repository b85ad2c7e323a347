/- The reference's Has, Up, Put, Sorted, Union, Minus, Both. -/
import Derived.Test.YtoegkojomgellaaDoorNumM
import Derived.Test.YtoegkojomgellaaDoorAppend
import Derived.Test.YtoegkojomgellaaDoorSame
import Derived.Deep.Onto
namespace Go.Proofs.YtoegkojomgellaaDoor
open Go.RowKit

theorem info_int : (Tryd.prog.info? 3).map (fun i => (i.zero, i.size, i.bytes)) = some (some (.int .i64 0), 1, 8) := by kernel_rfl
theorem one_ints (l : List Int) : ∀ u ∈ l.map (Value.int .i64), u.oneCell' = true := by
  intro u hu
  obtain ⟨x, _, rfl⟩ := List.mem_map.1 hu
  rfl
theorem contains_at {l : List Int} {n : Int} {k : Nat} (hk : k < l.length) (h : l[k] = n) : l.contains n = true := by
  rw [List.contains_iff_mem, ← h]; exact List.getElem_mem hk
theorem contains_no {l : List Int} {n : Int} (h : ∀ j (hj : j < l.length), l[j] ≠ n) : l.contains n = false := by
  rw [Bool.eq_false_iff]
  intro hc
  obtain ⟨j, hj, e⟩ := List.mem_iff_getElem.1 (List.contains_iff_mem.1 hc)
  exact h j hj e
theorem RetInts.own {l : List Int} {w w' : World} {A : Option Addr} {cap : Nat} {B : Nat} (hB : w.heap.size ≤ B) (h : w'.ownsRow B 3 1 (.slice A l.length cap) l.length (l.map (Value.int .i64))) (hb : Below w.heap.size w w') : RetInts 3 l w (.returned (.slice A l.length cap)) w' :=
  ⟨A, cap, rfl, h.mono hB, hb⟩

set_option maxHeartbeats 400000 in
theorem rhas_any (l : List Int) (A : Option Addr) (cap : Nat) (n : Int) (w : World) (ha : Ints w A l) (hl : l.length ≤ 100000) :
    Calls Tryd.prog 23 #[.slice A l.length cap, .int .i64 n] w (Ret (.bool (l.contains n)) w) := by
  go_enter Tryd.func23, Tryd.ntmps23
  go_wp2
  go_loopw [8] (fun i wr => ∃ k : Nat, k ≤ l.length ∧ i = .int .i64 (k : Int) ∧ (∀ j (hj : j < l.length), j < k → l[j] ≠ n) ∧ Below w.heap.size w wr) (fun i _ => l.length + 1 - (intOf i).toNat)
  case atStart => exact ⟨0, by omega, rfl, fun j hj h => by omega, Below.refl _ _⟩
  case round =>
    obtain ⟨k, hk, rfl, hno, hbw⟩ := hrel
    have HNO := Lib.hid hno
    clear hno
    by_cases hlt : k < l.length
    · obtain ⟨ad, rfl, _, c1⟩ := (ha.below hbw).at_ hlt
      by_cases heq : l[k] = n
      · have HE := Lib.hid heq
        have hb : (l[k] == n) = true := by simpa using heq
        clear heq
        go_wp2
        go_ret
        exact Ret.mk (by rw [contains_at hlt HE.out]; rfl) hbw
      · have hb : (l[k] == n) = false := by simpa using heq
        have HE := Lib.hid heq
        clear heq
        go_wp2
        go_roundw
        case rel => exact ⟨k + 1, by omega, by go_num, fun j hj h => by
          rcases Nat.lt_or_ge j k with h' | h'
          · exact HNO.out j hj h'
          · have : j = k := by omega
            subst this; exact HE.out, hbw⟩
        case measure => simp [intOf]; omega
    · go_wp2
      go_ret
      exact Ret.mk (by rw [contains_no fun j hj => HNO.out j hj (by omega)]; rfl) hbw

theorem add_succ (a : Addr) (k : Nat) : a.add (k + 1) = ⟨a.block, a.off + (k + 1), none⟩ := by unfold Addr.add; simp
theorem inc_at {l : List Int} (h : Inc l) {j k : Nat} (hj : j < k) (hk : k < l.length) : l[j]'(by omega) < l[k] := List.pairwise_iff_getElem.1 h j k (by omega) hk hj

set_option maxHeartbeats 400000 in
theorem up_yes (l : List Int) (A : Option Addr) (cap : Nat) (w : World) (ha : Ints w A l) (hl : l.length ≤ 100000) (hi : Inc l) :
    Calls Tryd.prog 30 #[.slice A l.length cap] w (Ret (.bool true) w) := by
  go_enter Tryd.func30, Tryd.ntmps30
  go_wp2
  go_loopw [3] (fun i wr => ∃ k : Nat, i = .int .i64 ((k : Int) + 1) ∧ k ≤ l.length ∧ Below w.heap.size w wr) (fun i _ => l.length + 3 - (intOf i).toNat)
  case atStart => exact ⟨0, rfl, by omega, Below.refl _ _⟩
  case round =>
    obtain ⟨k, rfl, hk, hbw⟩ := hrel
    by_cases hlt : k + 1 < l.length
    · obtain ⟨ad, rfl, _, c1⟩ := (ha.below hbw).at_ hlt
      obtain ⟨ad', e, _, c0⟩ := (ha.below hbw).at_ (show k < l.length by omega)
      injection e with e
      subst e
      have hc := inc_at hi (show k < k + 1 by omega) hlt
      have hlt' : (k : Int) + 1 < l.length := by omega
      have hk0 : (k : Int) < l.length := by omega
      have c1' := c1
      rw [add_succ] at c1'
      have hk1 : (0 : Int) ≤ (k : Int) + 1 := by omega
      have hk2 : ((k : Int) + 1).toNat = k + 1 := by omega
      have hw : IntKind.i64.wrap (k : Int) = (k : Int) := by rw [IntKind.wrap_i64]; omega
      go_wp2
      go_quiet (fail)
      go_wp2
      go_roundw
      case rel => exact ⟨k + 1, by go_num, by omega, Below.drewN_ hbw _⟩
      case measure => simp [intOf]; omega
    · have hlt' : ¬ (k : Int) + 1 < l.length := by omega
      go_wp2
      go_ret
      exact Ret.mk rfl hbw

/-- Where a number is put. -/
theorem put_at : ∀ (l : List Int) (x : Int) (k : Nat) (_ : k ≤ l.length), (∀ j (hj : j < l.length), j < k → l[j] < x) → (∀ hk : k < l.length, ¬ l[k] < x) →
    put l x = l.take k ++ [x] ++ l.drop (if l[k]? = some x then k + 1 else k)
  | [], x, k, hk, _, _ => by
    have : k = 0 := by simpa using hk
    subst this; rfl
  | y :: l, x, 0, _, _, h => by
    have h0 : ¬ y < x := h (by simp)
    unfold put
    rw [if_neg h0]
    by_cases e : y = x
    · subst e; simp
    · rw [if_neg e]; simp [e]
  | y :: l, x, k + 1, hk, hl, h => by
    have h0 : y < x := hl 0 (by simp) (by omega)
    unfold put
    rw [if_pos h0, put_at l x k (by simpa using hk) (fun j hj hjk => by have := hl (j + 1) (by simpa using hj) (by omega); simpa using this) (fun hk' => by have := h (by simpa using hk'); simpa using this)]
    simp
    split <;> simp
theorem put_len (l : List Int) (x : Int) : (put l x).length ≤ l.length + 1 := by
  induction l with
  | nil => simp [put]
  | cons y l ih =>
    unfold put
    split
    · simp; exact ih
    · split
      · simp
      · simp
end Go.Proofs.YtoegkojomgellaaDoor
