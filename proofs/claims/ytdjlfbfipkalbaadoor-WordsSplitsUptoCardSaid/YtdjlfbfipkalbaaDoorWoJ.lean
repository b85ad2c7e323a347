/- The iterator of strings.SplitSeq, at a separator of one byte. -/
import Derived.Test.YtdjlfbfipkalbaaDoorWoL
import Derived.RangeFuncNested
import Derived.RangeFuncBound
import Derived.RangeFuncCalls
import Derived.RangeFuncLeaves
import Derived.RangeFuncBox
import Derived.RangeFuncFrom
import Derived.Shelf.Abstract
import Derived.Shelf.RegionOpen
import Derived.WalkKit
import Derived.OwnWalkIn
import Derived.TacticsInMore
import Derived.LoopNIn
import Derived.LoopIn
namespace Go.Proofs.YtdjlfbfipkalbaaDoor
open Go.RowKit Go.Shelf
attribute [local go_sem] Oper.semAt_some

theorem lt_of_cell {w : World} {b o : Nat} {v : Value} (h : w.cell? ⟨b, o, none⟩ = some v) : b < w.heap.size := by
  unfold World.cell? at h
  cases hb : w.heap[b]? with
  | none => simp [hb] at h
  | some o' => exact (Array.getElem?_eq_some_iff.1 hb).1

/-- The three boxes of the iterator: the rest of the string, the separator, the bytes to be saved. -/
def Boxes3 (B : Nat) (rest : List UInt8) (W : World) : Prop :=
  W.cell? ⟨B, 0, none⟩ = some (.string ⟨rest.toArray⟩) ∧ W.frozen? ⟨B, 0, none⟩ = false ∧ W.cell? ⟨B + 1, 0, none⟩ = some (.string ⟨#[32]⟩) ∧ W.cell? ⟨B + 2, 0, none⟩ = some (.int .i64 0)
/-- What a round keeps of them. -/
def Kept3 (B : Nat) (W W' : World) : Prop := ∀ b, B ≤ b → b < B + 3 → W'.cell? ⟨b, 0, none⟩ = W.cell? ⟨b, 0, none⟩ ∧ W'.frozen? ⟨b, 0, none⟩ = W.frozen? ⟨b, 0, none⟩
theorem Boxes3.kept {B : Nat} {rest : List UInt8} {W W' : World} (h : Boxes3 B rest W) (k : Kept3 B W W') : Boxes3 B rest W' :=
  ⟨(k B (by omega) (by omega)).1.trans h.1, (k B (by omega) (by omega)).2.trans h.2.1, (k (B + 1) (by omega) (by omega)).1.trans h.2.2.1, (k (B + 2) (by omega) (by omega)).1.trans h.2.2.2⟩
theorem Boxes3.put {B : Nat} {rest : List UInt8} {W : World} (h : Boxes3 B rest W) (r : List UInt8) : Boxes3 B r (W.setCell ⟨B, 0, none⟩ (.string ⟨r.toArray⟩)) :=
  ⟨World.cell?_setCell_same' _ _ _ (by rw [h.1]; rfl), by rw [World.frozen?_setCell]; exact h.2.1, (World.cell?_setCell_other _ _ _ _ (by simp)).trans h.2.2.1, (World.cell?_setCell_other _ _ _ _ (by simp)).trans h.2.2.2⟩

/-- A part at the head of the pieces. -/
theorem pcs_step (c : UInt8) (l : List UInt8) : (Lib.indexByte l c = -1 ∧ pcs c l = [l]) ∨ ∃ i : Nat, Lib.indexByte l c = (i : Int) ∧ i < l.length ∧ pcs c l = l.take i :: pcs c (l.drop (i + 1)) := by
  rcases ib_parts c l with ⟨h1, h2⟩ | ⟨p, r, rfl, h2, h3⟩
  · exact .inl ⟨h1, pcs_none h2⟩
  · exact .inr ⟨p.length, h3, by simp, by rw [pcs_hit h2]; simp⟩

/-- How much is left. -/
def boxLen (B : Nat) (w : World) : Nat := match w.cell? ⟨B, 0, none⟩ with | some (.string b) => b.size | _ => 0
theorem Boxes3.len {B : Nat} {rest : List UInt8} {W : World} (h : Boxes3 B rest W) : boxLen B W = rest.length := by
  unfold boxLen; rw [h.1]; simp [ByteArray.size]
theorem extract_take (s : List UInt8) (k : Nat) : (⟨s.toArray⟩ : ByteArray).extract 0 k = ⟨(s.take k).toArray⟩ := by rw [extract_piece]; simp [piece]
theorem extract_drop (s : List UInt8) (k : Nat) : (⟨s.toArray⟩ : ByteArray).extract k s.length = ⟨(s.drop k).toArray⟩ := by rw [extract_piece, ← drop_end]

set_option maxRecDepth 100000 in
set_option maxHeartbeats 2000000 in
theorem splitseq1_in (F : Fence) (n : Nat) (hf : F.fn 49) (hro : F.round = none) (hx : F.fn 51) (hn : 1 ≤ n) (lp B : Nat) (s : List UInt8) (hsl : s.length ≤ 4000000) (J Jx : List (List UInt8) → World → Prop) (hJ : ∀ pre W v, J pre W → J pre (W.setCell ⟨B, 0, none⟩ v))
    (hI : ∀ w x c, CallsIn F (n - 1) Tryd.prog 51 #[.string ⟨x⟩, .string ⟨#[c]⟩] w fun e w' => e = .returned (.int .i64 (Lib.indexByte x.toList c)) ∧ w' = w)
    (hY : ∀ pre x W, J pre W → (∃ r, pcs 32 s = pre ++ x :: r) → YieldAt F (n - 1) Tryd.prog lp #[.string ⟨x.toArray⟩] W fun e W' =>
      (e = .returned (.bool true) ∧ J (pre ++ [x]) W' ∧ Kept3 B W W') ∨ (e = .returned (.bool false) ∧ Jx (pre ++ [x]) W'))
    (W : World) (hB : Boxes3 B s W) (h0 : J [] W) :
    CallsIn F n Tryd.prog 49 #[.func (.yield lp) #[] #[], .pointer (some ⟨B + 1, 0, none⟩), .pointer (some ⟨B, 0, none⟩), .pointer (some ⟨B + 2, 0, none⟩)] W fun e W' => (∃ v, e = .returned v) ∧
      (J (pcs 32 s) W' ∨ ∃ pre, (∃ r, pcs 32 s = pre ++ r) ∧ Jx pre W') := by
  have ⟨b0, f0, b1, b2⟩ := hB
  refine callsIn_of_wp Tryd.func49 rfl hf ?_ hro
  simp only [Tryd.ntmps49, List.size_toArray, List.length_cons, List.length_nil, Nat.reduceAdd, Nat.reduceSub, Array.replicate_succ, Array.replicate_zero, List.push_toArray, List.append_toArray, List.nil_append, List.cons_append]
  gi_wp2
  gi_loopw [7] (fun _ wr => ∃ (pre : List (List UInt8)) (rest : List UInt8), Hid (pcs 32 s = pre ++ pcs 32 rest) ∧ rest.length ≤ s.length ∧ Boxes3 B rest wr ∧ J pre wr) (fun _ wr => boxLen B wr)
  case atStart => exact ⟨[], s, Lib.hid rfl, Nat.le_refl _, hB, h0⟩
  case round =>
    obtain ⟨pre, rest, HP, hrl, HB, hJs⟩ := hrel
    have ⟨c0, g0, c1, c2⟩ := HB
    have HLN := Lib.hid HB.len
    rcases pcs_step 32 rest with ⟨hi, hp⟩ | ⟨i, hi, hil, hp⟩
    · obtain ⟨fn, tmps, assign, body, hy, hR⟩ := hY pre rest wr hJs ⟨[], by rw [HP.out, hp]⟩
      have HE := Lib.hid (show pcs 32 s = pre ++ [rest] by rw [HP.out, hp])
      gi_wp2_with (gi_at_call 51; refine (hI _ _ _).mono ?_; rw [hi]; rintro e w' ⟨rfl, rfl⟩)
      refine hR.mono ?_
      rintro e W3 (⟨rfl, hJ3, hk3⟩ | ⟨rfl, hJx3⟩)
      · gi_wp2
        go_end0
        exact ⟨⟨_, rfl⟩, .inl (by rw [HE.out]; exact hJ3)⟩
      · gi_wp2
        go_end0
        exact ⟨⟨_, rfl⟩, .inr ⟨_, ⟨[], by rw [HE.out]; simp⟩, hJx3⟩⟩
    · obtain ⟨fn, tmps, assign, body, hy, hR⟩ := hY pre (rest.take i) wr hJs ⟨pcs 32 (rest.drop (i + 1)), by rw [HP.out, hp]⟩
      have HE := Lib.hid (show pcs 32 s = (pre ++ [rest.take i]) ++ pcs 32 (rest.drop (i + 1)) by rw [HP.out, hp]; simp)
      have x1 := extract_take rest i
      have x2 := extract_drop rest (i + 1)
      gi_wp2_with (gi_at_call 51; refine (hI _ _ _).mono ?_; rw [hi]; rintro e w' ⟨rfl, rfl⟩)
      refine hR.mono ?_
      rintro e W3 (⟨rfl, hJ3, hk3⟩ | ⟨rfl, hJx3⟩)
      · have HB3 := HB.kept hk3
        have ⟨q0, r0, q1, q2⟩ := HB3
        gi_wp2
        go_roundw
        case rel => exact ⟨pre ++ [rest.take i], rest.drop (i + 1), HE, by simp; omega, HB3.put _, hJ _ _ _ hJ3⟩
        case measure => rw [(HB3.put _).len, HLN.out]; simp; omega
      · gi_wp2
        refine bodyPost_ret (results_none rfl _ _ _) rfl ?_
        exact ⟨⟨_, rfl⟩, .inr ⟨_, ⟨_, HE.out⟩, hJx3⟩⟩

set_option maxHeartbeats 1000000 in
/-- The maker of the iterator boxes what it is given. -/
theorem splitSeq_in (F : Fence) (n : Nat) (hf : F.fn 43) (hro : F.round = none) (s sep : ByteArray) (z : Int) (w : World) :
    CallsIn F n Tryd.prog 43 #[.string s, .string sep, .int .i64 z] w fun e w' => e = .returned (.func (.func 49) #[] #[.pointer (some ⟨w.heap.size + 1, 0, none⟩), .pointer (some ⟨w.heap.size, 0, none⟩), .pointer (some ⟨w.heap.size + 2, 0, none⟩)]) ∧
      w' = ((w.alloc (.cells #[.string s] 9)).alloc (.cells #[.string sep] 9)).alloc (.cells #[.int .i64 z] 3) := by
  refine callsIn_of_wp Tryd.func43 rfl hf ?_ hro
  simp only [Tryd.ntmps43, List.size_toArray, List.length_cons, List.length_nil, Nat.reduceAdd, Nat.reduceSub, Array.replicate_succ, Array.replicate_zero, List.push_toArray, List.append_toArray, List.nil_append, List.cons_append]
  gi_wp2
  go_ret
  exact ⟨rfl, rfl⟩
set_option maxHeartbeats 1000000 in
theorem seq_in (F : Fence) (n : Nat) (hf : F.fn 36) (hf1 : F.fn 43) (hro : F.round = none) (hn : 1 ≤ n) (s sep : ByteArray) (w : World) :
    CallsIn F n Tryd.prog 36 #[.string s, .string sep] w fun e w' => e = .returned (.func (.func 49) #[] #[.pointer (some ⟨w.heap.size + 1, 0, none⟩), .pointer (some ⟨w.heap.size, 0, none⟩), .pointer (some ⟨w.heap.size + 2, 0, none⟩)]) ∧
      w' = ((w.alloc (.cells #[.string s] 9)).alloc (.cells #[.string sep] 9)).alloc (.cells #[.int .i64 0] 3) := by
  refine callsIn_of_wp Tryd.func36 rfl hf ?_ hro
  simp only [Tryd.ntmps36, List.size_toArray, List.length_cons, List.length_nil, Nat.reduceAdd, Nat.reduceSub, Array.replicate_succ, Array.replicate_zero, List.push_toArray, List.append_toArray, List.nil_append, List.cons_append]
  gi_wp2_with (gi_at_call 43; refine (splitSeq_in F (n - 1) hf1 hro _ _ _ _).mono ?_; rintro e w' ⟨rfl, rfl⟩)
  go_ret
  exact ⟨rfl, rfl⟩
end Go.Proofs.YtdjlfbfipkalbaaDoor
