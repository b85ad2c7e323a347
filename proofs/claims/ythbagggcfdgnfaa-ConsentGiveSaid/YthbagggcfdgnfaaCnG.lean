/- The iterator of a person's consents. -/
import Derived.Test.YthbagggcfdgnfaaCnM
import Derived.RangeFuncNested
import Derived.RangeFuncBound
import Derived.RangeFuncCalls
import Derived.RangeFuncLeaves
import Derived.RangeFuncBox
import Derived.RangeFuncFrom
import Derived.Shelf.Abstract
import Derived.Shelf.RegionOpen
import Derived.WalkKit
import Derived.OwnWalkIn
import Derived.TacticsInMore
import Derived.LoopNIn
import Derived.LoopIn
import Derived.Maps.AppendAt
namespace Go.Proofs.Ythbagggcfdgnfaa
open Go.RowKit Go.Shelf
attribute [local go_sem] Oper.semAt_some

/-- What has come when k consents are over. -/
def givenL (l : List Cn) (p r : Int) (k : Nat) : List Cn := (l.take k).filter fun c => fits c p r
theorem givenL_yes {l : List Cn} {p r : Int} {k : Nat} (hk : k < l.length) (h : fits l[k] p r = true) : givenL l p r (k + 1) = givenL l p r k ++ [l[k]] := by
  unfold givenL
  rw [List.take_succ_eq_append_getElem hk, List.filter_append, List.filter_cons, h]
  rfl
theorem givenL_no {l : List Cn} {p r : Int} {k : Nat} (hk : k < l.length) (h : fits l[k] p r = false) : givenL l p r (k + 1) = givenL l p r k := by
  unfold givenL
  rw [List.take_succ_eq_append_getElem hk, List.filter_append, List.filter_cons, h]
  simp
theorem givenL_len (l : List Cn) (p r : Int) (k : Nat) : (givenL l p r k).length ≤ k := by
  have h2 : ((l.take k).filter fun c => fits c p r).length ≤ (l.take k).length := List.length_filter_le _ _
  have h3 : (l.take k).length ≤ k := List.length_take_le k l
  unfold givenL; omega

theorem lt_of_cell {w : World} {b o : Nat} {v : Value} (h : w.cell? ⟨b, o, none⟩ = some v) : b < w.heap.size := by
  unfold World.cell? at h
  cases hb : w.heap[b]? with
  | none => simp [hb] at h
  | some o' => exact (Array.getElem?_eq_some_iff.1 hb).1

/-- What a round keeps for the iterator: what lay below n, and its three boxes. -/
def KpG (n B : Nat) (W W' : World) : Prop := Below n W W' ∧ ∀ b, B ≤ b → b < B + 3 → W'.cell? ⟨b, 0, none⟩ = W.cell? ⟨b, 0, none⟩
theorem KpG.trans {n B : Nat} {W1 W2 W3 : World} (h : KpG n B W1 W2) (k : KpG n B W2 W3) : KpG n B W1 W3 := ⟨h.1.trans k.1, fun b h1 h2 => (k.2 b h1 h2).trans (h.2 b h1 h2)⟩
theorem KpG.putObj {n B : Nat} {w : World} (hn : n ≤ w.heap.size) (hB : B + 3 ≤ w.heap.size) (W : World) (l : Nat) (o o' : Obj) (hl : w.heap.size ≤ l) (h : W.heap[l]? = some o) (hc : o.isCells = false) (hw : o.isWalk = false) : KpG n B W (W.putObj l o') :=
  ⟨belowK_b hn W l o o' hl h hc hw, fun b _ h2 => World.cell?_of_block (World.putObj_heap_other (by show (⟨b, 0, none⟩ : Addr).block ≠ l; simp only; omega))⟩

abbrev encY (x : Cn) : Array Value := #[.agg #[.int .i64 x.p, .int .i64 x.r, .int .i64 x.d, .int .i64 x.k]]

set_option maxRecDepth 100000 in
set_option maxHeartbeats 2000000 in
theorem given1_in (F : Fence) (n : Nat) (hf : F.fn 35) (hro : F.round = none) (hn : 1 ≤ n) (lp B : Nat) (A : Option Addr) (cap : Nat) (p r : Int) (l : List Cn) (w0 : World) (hL : Cons w0 A l) (hl : l.length ≤ 100000) (J Jx : List Cn → World → Prop) (hJ : ∀ pre W1 o, J pre W1 → J pre (World.alloc W1 o))
    (hY : ∀ pre x W, J pre W → pre.length < l.length → YieldAt F (n - 1) Try.prog lp (encY x) W fun e W' =>
      (e = .returned (.bool true) ∧ J (pre ++ [x]) W' ∧ KpG w0.heap.size B W W') ∨ (e = .returned (.bool false) ∧ Jx (pre ++ [x]) W'))
    (W : World) (hW : Below w0.heap.size w0 W) (c0 : W.cell? ⟨B, 0, none⟩ = some (.slice A l.length cap)) (c1 : W.cell? ⟨B + 1, 0, none⟩ = some (.int .i64 p)) (c2 : W.cell? ⟨B + 2, 0, none⟩ = some (.int .i64 r)) (h0 : J [] W) :
    CallsIn F n Try.prog 35 #[.func (.yield lp) #[] #[], .pointer (some ⟨B, 0, none⟩), .pointer (some ⟨B + 1, 0, none⟩), .pointer (some ⟨B + 2, 0, none⟩)] W fun e W' => (∃ v, e = .returned v) ∧
      ((∃ ys, ys = givenL l p r l.length ∧ J ys W') ∨ (∃ pre, (∃ k, k ≤ l.length ∧ pre = givenL l p r k) ∧ Jx pre W')) := by
  refine callsIn_of_wp Try.func35 rfl hf ?_ hro
  simp only [Try.ntmps35, List.size_toArray, List.length_cons, List.length_nil, Nat.reduceAdd, Nat.reduceSub, Array.replicate_succ, Array.replicate_zero, List.push_toArray, List.append_toArray, List.nil_append, List.cons_append]
  gi_wp2
  gi_loopw [9] (fun i wr => ∃ k : Nat, k ≤ l.length ∧ i = .int .i64 (k : Int) ∧ J (givenL l p r k) wr ∧ Below w0.heap.size w0 wr ∧ wr.cell? ⟨B + 1, 0, none⟩ = some (.int .i64 p) ∧ wr.cell? ⟨B + 2, 0, none⟩ = some (.int .i64 r))
    (fun i _ => l.length - (intOf i).toNat)
  case atStart => exact ⟨0, by omega, rfl, h0, hW, c1, c2⟩
  case round =>
    obtain ⟨k, hk, rfl, hJs, hbw, b1, b2⟩ := hrel
    have z1 := lt_of_cell b1
    have z2 := lt_of_cell b2
    by_cases hlt : k < l.length
    · obtain ⟨ad, rfl, _, d0, d1, d2, d3⟩ := Cons.cells (hL.below hbw) hlt
      obtain ⟨fn, tmps, assign, body, hy, hR⟩ := hY _ l[k] (wr.alloc (.cells #[.int .i64 l[k].p, .int .i64 l[k].r, .int .i64 l[k].d, .int .i64 l[k].k] 40)) (hJ _ _ _ hJs) (by have := givenL_len l p r k; omega)
      dsimp only [encY] at hy
      have HLE := Lib.hid (givenL_len l p r k)
      by_cases hfit : fits l[k] p r = true
      · have HG := Lib.hid (givenL_yes hlt hfit)
        have hp : (l[k].p == p) = true := by unfold fits at hfit; simp at hfit; simpa using hfit.1
        have hcs : (l[k].r == 0) = true ∨ ((l[k].r == 0) = false ∧ (l[k].r == r) = true) := by
          unfold fits at hfit
          rcases h : (l[k].r == 0) with _ | _
          · rw [h] at hfit; simp at hfit; right; exact ⟨rfl, by simpa using hfit.2⟩
          · left; rfl
        clear hfit
        generalize givenL l p r k = G at *
        generalize l[k] = c at *
        rcases hcs with hr0 | ⟨hr0, hrr⟩
        · gi_wp2
          refine hR.mono ?_
          rintro e W3 (⟨rfl, hJ3, hk3⟩ | ⟨rfl, hJx3⟩)
          · have q1 := (hk3.2 (B + 1) (by omega) (by omega)).trans ((World.cell?_alloc_lt _ _ _ (by exact z1)).trans b1)
            have q2 := (hk3.2 (B + 2) (by omega) (by omega)).trans ((World.cell?_alloc_lt _ _ _ (by exact z2)).trans b2)
            have hb3 : Below w0.heap.size w0 W3 := (hbw.alloc hbw.size _).trans hk3.1
            gi_wp2
            go_roundw
            case rel => exact ⟨k + 1, by omega, by go_num, by rw [HG.out]; exact hJ3, hb3, q1, q2⟩
            case measure => simp [intOf]; omega
          · gi_wp2
            refine bodyPost_ret (results_none rfl _ _ _) rfl ?_
            exact ⟨⟨_, rfl⟩, .inr ⟨_, ⟨k + 1, by omega, HG.out.symm⟩, hJx3⟩⟩
        · gi_wp2
          refine hR.mono ?_
          rintro e W3 (⟨rfl, hJ3, hk3⟩ | ⟨rfl, hJx3⟩)
          · have q1 := (hk3.2 (B + 1) (by omega) (by omega)).trans ((World.cell?_alloc_lt _ _ _ (by exact z1)).trans b1)
            have q2 := (hk3.2 (B + 2) (by omega) (by omega)).trans ((World.cell?_alloc_lt _ _ _ (by exact z2)).trans b2)
            have hb3 : Below w0.heap.size w0 W3 := (hbw.alloc hbw.size _).trans hk3.1
            gi_wp2
            go_roundw
            case rel => exact ⟨k + 1, by omega, by go_num, by rw [HG.out]; exact hJ3, hb3, q1, q2⟩
            case measure => simp [intOf]; omega
          · gi_wp2
            refine bodyPost_ret (results_none rfl _ _ _) rfl ?_
            exact ⟨⟨_, rfl⟩, .inr ⟨_, ⟨k + 1, by omega, HG.out.symm⟩, hJx3⟩⟩
      · have HG := Lib.hid (givenL_no hlt (by simpa using hfit))
        rcases hp : (l[k].p == p) with _ | _
        · clear hfit
          generalize givenL l p r k = G at *
          generalize l[k] = c at *
          gi_wp2
          refine ⟨fun _ h => (by cases h), ?_⟩
          gi_wp2
          go_roundw
          case rel => exact ⟨k + 1, by omega, by go_num, by rw [HG.out]; exact hJ _ _ _ hJs, hbw.alloc hbw.size _, (World.cell?_alloc_lt _ _ _ (by exact z1)).trans b1, (World.cell?_alloc_lt _ _ _ (by exact z2)).trans b2⟩
          case measure => simp [intOf]; omega
        · have hr0 : (l[k].r == 0) = false := by
            rcases h : (l[k].r == 0) with _ | _
            · rfl
            · exact absurd (by unfold fits; rw [hp, h]; rfl) hfit
          have hrr : (l[k].r == r) = false := by
            rcases h : (l[k].r == r) with _ | _
            · rfl
            · exact absurd (by unfold fits; rw [hp, h]; simp) hfit
          clear hfit
          generalize givenL l p r k = G at *
          generalize l[k] = c at *
          gi_wp2
          refine ⟨fun _ h => (by cases h), ?_⟩
          gi_wp2
          go_roundw
          case rel => exact ⟨k + 1, by omega, by go_num, by rw [HG.out]; exact hJ _ _ _ hJs, hbw.alloc hbw.size _, (World.cell?_alloc_lt _ _ _ (by exact z1)).trans b1, (World.cell?_alloc_lt _ _ _ (by exact z2)).trans b2⟩
          case measure => simp [intOf]; omega
    · obtain rfl : k = l.length := by omega
      gi_wp2
      go_end0
      exact ⟨⟨_, rfl⟩, .inl ⟨_, rfl, hJs⟩⟩

set_option maxHeartbeats 1000000 in
/-- The maker of the iterator boxes what it is given. -/
theorem given_in (F : Fence) (n : Nat) (hf : F.fn 29) (hro : F.round = none) (a : Option Addr) (len cap : Nat) (p r : Int) (w : World) :
    CallsIn F n Try.prog 29 #[.slice a len cap, .int .i64 p, .int .i64 r] w fun e w' => e = .returned (.func (.func 35) #[] #[.pointer (some ⟨w.heap.size, 0, none⟩), .pointer (some ⟨w.heap.size + 1, 0, none⟩), .pointer (some ⟨w.heap.size + 2, 0, none⟩)]) ∧
      w' = ((w.alloc (.cells #[.slice a len cap] 23)).alloc (.cells #[.int .i64 p] 3)).alloc (.cells #[.int .i64 r] 3) := by
  refine callsIn_of_wp Try.func29 rfl hf ?_ hro
  simp only [Try.ntmps29, List.size_toArray, List.length_cons, List.length_nil, Nat.reduceAdd, Nat.reduceSub, Array.replicate_succ, Array.replicate_zero, List.push_toArray, List.append_toArray, List.nil_append, List.cons_append]
  gi_wp2
  go_ret
  exact ⟨rfl, rfl⟩

/-- given hands back an iterator over the consents of the person for the recording. -/
theorem given_stops (F : Fence) (n : Nat) (hf : F.fn 35) (hro : F.round = none) (hn : 1 ≤ n) (B : Nat) (A : Option Addr) (cap : Nat) (p r : Int) (l : List Cn) (w0 : World) (hL : Cons w0 A l) (hl : l.length ≤ 100000) (w : World) (hW : Below w0.heap.size w0 w) (hB : B + 3 ≤ w.heap.size)
    (c0 : w.cell? ⟨B, 0, none⟩ = some (.slice A l.length cap)) (c1 : w.cell? ⟨B + 1, 0, none⟩ = some (.int .i64 p)) (c2 : w.cell? ⟨B + 2, 0, none⟩ = some (.int .i64 r)) :
    SeqStopsK F n Try.prog 35 #[.pointer (some ⟨B, 0, none⟩), .pointer (some ⟨B + 1, 0, none⟩), .pointer (some ⟨B + 2, 0, none⟩)] encY (KpG w0.heap.size B) (fun ys => ys = givenL l p r l.length) (fun pre => ∃ k, k ≤ l.length ∧ pre = givenL l p r k) l.length w := fun lp J Jx W hw hJ _ hY h0 =>
  given1_in F n hf hro hn lp B A cap p r l w0 hL hl J Jx (fun s W1 o h => hJ s W1 _ none h (World.grownBy_alloc W1 o none) (fun r e => by cases e)) hY W (Below.step hW hw) ((hw.cell (p := ⟨B, 0, none⟩) (by show B < _; omega)).trans c0) ((hw.cell (p := ⟨B + 1, 0, none⟩) (by show B + 1 < _; omega)).trans c1) ((hw.cell (p := ⟨B + 2, 0, none⟩) (by show B + 2 < _; omega)).trans c2) h0
end Go.Proofs.Ythbagggcfdgnfaa
