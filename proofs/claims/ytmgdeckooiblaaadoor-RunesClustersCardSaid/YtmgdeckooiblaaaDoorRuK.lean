/- What the walks ask of the world: utf8's two tables; ValidString; the iterator of the scalars. -/
import Derived.Test.YtmgdeckooiblaaaDoorRuH
import Derived.Test.YtmgdeckooiblaaaDoorRuN
import Derived.RangeFuncNested
import Derived.RangeFuncBound
import Derived.RangeFuncCalls
import Derived.RangeFuncLeaves
import Derived.RangeFuncBox
import Derived.RangeFuncFrom
import Derived.Shelf.Abstract
import Derived.Shelf.RegionOpen
import Derived.WalkKit
import Derived.OwnWalkIn
import Derived.TacticsInMore
import Derived.LoopNIn
import Derived.LoopIn
import Derived.Lib.OthersKept
import Derived.Shelf.Unicode.DecodeSlow
namespace Go.Proofs.YtmgdeckooiblaaaDoor
open Go.RowKit Go.Shelf
attribute [local go_sem] Oper.semAt_some

def Laid (w : World) : Prop := Lib.Utf8Tabs (Tryd.laysValid_ren.g 3) (Tryd.laysValid_ren.g 4) w
theorem Laid.below {W w : World} (h : Laid W) (hb : Below W.heap.size W w) : Laid w := Utf8Tabs_below h hb
theorem valid_any (s : List UInt8) (hl : s.length ≤ 4000000) (w : World) (hL : Laid w) : Calls Tryd.prog 29 #[.string ⟨s.toArray⟩] w (Ret (.bool (ptB s)) w) := by
  have h : Calls Tryd.prog 29 #[.string ⟨s.toArray⟩] w _ := Any.utf8_ValidString Tryd.laysValid ⟨s.toArray⟩ w (by simp [ByteArray.size]; omega) hL
  refine h.mono ?_
  rintro e w' ⟨rfl, hb⟩
  exact ⟨by rw [show (ByteArray.mk s.toArray).data.toList = s from rfl, pts_valid]; rfl, hb⟩

/-- The scalars with the indices of their first bytes. -/
def prs : Nat → List Nat → List (Nat × Nat)
  | _, [] => []
  | a, p :: l => (a, p) :: prs (a + (enc p).length) l
theorem prs_snoc (a : Nat) (l : List Nat) (p : Nat) : prs a (l ++ [p]) = prs a l ++ [(a + (encs l).length, p)] := by
  induction l generalizing a with
  | nil => simp [prs, encs]
  | cons q l ih => rw [List.cons_append, prs, prs, ih, encs_cons, List.length_append, List.cons_append, Nat.add_assoc]
theorem prs_append (a : Nat) (l m : List Nat) : prs a (l ++ m) = prs a l ++ prs (a + (encs l).length) m := by
  induction l generalizing a with
  | nil => simp [prs, encs]
  | cons q l ih => rw [List.cons_append, prs, prs, ih, encs_cons, List.length_append, List.cons_append, Nat.add_assoc]
def encY (x : Nat × Nat) : Array Value := #[.int .i64 (x.1 : Int), .int .i64 (x.2 : Int)]
theorem dec_at (a : List Nat) (p : Nat) (r : List Nat) (h : scal p) : Utf8.decode ⟨(encs (a ++ p :: r)).toArray⟩ (encs a).length = (p, (enc p).length) := by
  have hd : (encs (a ++ p :: r)).drop (encs a).length = enc p ++ encs r := by rw [encs_append, List.drop_left, encs_cons]
  have hg : ∀ i, (ByteArray.mk (encs (a ++ p :: r)).toArray).get! ((encs a).length + i) = ((encs (a ++ p :: r)).drop (encs a).length).getD i 0 := by
    intro i
    show ((encs (a ++ p :: r)).toArray)[(encs a).length + i]! = _
    simp [List.getD_eq_getElem?_getD, Array.getElem!_eq_getD, Array.getD_eq_getD_getElem?, List.getElem?_drop]
    rfl
  have h0 := hg 0
  rw [Nat.add_zero] at h0
  have hsz : (ByteArray.mk (encs (a ++ p :: r)).toArray).size - (encs a).length = ((encs (a ++ p :: r)).drop (encs a).length).length := by
    rw [List.length_drop]; rfl
  rw [Lib.decode_at, hsz, h0, hg 1, hg 2, hg 3]
  have := decL ((encs (a ++ p :: r)).drop (encs a).length)
  rw [hd] at this ⊢
  rw [dec_enc h] at this
  exact this.symm

/-- Where the iterator stands. -/
def itPos (k : Nat) (w : World) : Nat := match w.heap[k]? with | some (.stringIter _ pos) => pos | _ => 0
set_option maxRecDepth 100000 in
set_option maxHeartbeats 2000000 in
theorem scalars1_in (F : Fence) (n : Nat) (hf : F.fn 43) (hro : F.round = none) (hn : 1 ≤ n) (lp B : Nat) (l : List Nat) (hsc : ∀ p ∈ l, scal p) (J Jx : List (Nat × Nat) → World → Prop) (W : World) (hJ : AbidesFrom W.heap.size J)
    (hY : ∀ pre x W1, J pre W1 → pre.length < l.length + 1 → x ∈ prs 0 l → YieldAt F (n - 1) Tryd.prog lp (encY x) W1 fun e W' =>
      (e = .returned (.bool true) ∧ J (pre ++ [x]) W' ∧ KeepsWalks W1 W') ∨ (e = .returned (.bool false) ∧ Jx (pre ++ [x]) W'))
    (hB : W.cell? ⟨B, 0, none⟩ = some (.string ⟨(encs l).toArray⟩)) (h0 : J [] W) :
    CallsIn F n Tryd.prog 43 #[.func (.yield lp) #[] #[], .pointer (some ⟨B, 0, none⟩)] W fun e W' => (∃ v, e = .returned v) ∧
      (J (prs 0 l) W' ∨ ∃ pre, Jx pre W') := by
  refine callsIn_of_wp Tryd.func43 rfl hf ?_ hro
  simp only [Tryd.ntmps43, List.size_toArray, List.length_cons, List.length_nil, Nat.reduceAdd, Nat.reduceSub, Array.replicate_succ, Array.replicate_zero, List.push_toArray, List.append_toArray, List.nil_append, List.cons_append]
  obtain ⟨S, hS⟩ : ∃ S : ByteArray, S = ⟨(encs l).toArray⟩ := ⟨_, rfl⟩
  have hSz : S.size = (encs l).length := by rw [hS]; rfl
  obtain ⟨k, hk⟩ : ∃ k, k = W.heap.size := ⟨_, rfl⟩
  rw [← hS] at hB
  gi_wp2
  rw [← hk]
  have HKK := Lib.hid hk
  have HSS := Lib.hid hS
  clear hk
  gi_loopw [3] (fun _ wr => ∃ (done rest : List Nat), Hid (l = done ++ rest) ∧ wr.heap[k]? = some (.stringIter S (encs done).length) ∧ J (prs 0 done) wr ∧ k ≤ wr.heap.size) (fun _ wr => S.size + 1 - itPos k wr)
  case atStart => exact ⟨[], l, Lib.hid rfl, by rw [HKK.out, HSS.out]; exact World.alloc_heap_new W _, hJ _ _ _ none h0 (World.grownBy_alloc W _ none) (fun r e => by cases e), by rw [HKK.out]; show _ ≤ (W.alloc _).heap.size; simp⟩
  case round =>
    obtain ⟨done, rest, HL, hit, hJs, hks⟩ := hrel
    have hps : itPos k wr = (encs done).length := by unfold itPos; rw [hit]
    replace hps := Lib.hid hps
    cases rest with
    | nil =>
      have hnx : ∀ ty, (Instr.next (.pointer (some ⟨k, 0, none⟩)) true ty).run Tryd.prog wr = .ok (.tuple #[.bool false]) wr := fun ty => Lib.run_next_end_at wr k S _ ty hit (by rw [hSz, HL.out, List.append_nil]; omega)
      have HJ2 : Hid (J (prs 0 l) wr) := Lib.hid (by rw [HL.out, List.append_nil]; exact hJs)
      clear hit
      gi_wp2
      go_end0
      exact ⟨⟨_, rfl⟩, .inl HJ2.out⟩
    | cons p r =>
      have hp := hsc p (by rw [HL.out]; simp)
      have hel := enc_len p
      have hlt : (encs done).length < S.size := by rw [hSz, HL.out, encs_append, encs_cons]; simp; omega
      have hd : Utf8.decode S (encs done).length = (p, (enc p).length) := by rw [hS, HL.out]; exact dec_at done p r hp
      have hnx : ∀ ty, (Instr.next (.pointer (some ⟨k, 0, none⟩)) true ty).run Tryd.prog wr = .ok (.tuple #[.bool true, .int .i64 ((encs done).length : Int), .int .i32 (p : Int)]) (wr.iterAt k S ((encs done).length + (enc p).length)) := fun ty => by
        have := Lib.run_next_any_at (P := Tryd.prog) wr k S _ ty hit hlt
        rw [hd] at this
        exact this
      have hi2 := Lib.iterAt_heap wr k S _ ((encs done).length + (enc p).length) hit
      have hg : wr.grownBy (wr.iterAt k S ((encs done).length + (enc p).length)) (some k) := ⟨rfl, rfl, rfl, by rw [Lib.iterAt_size]; exact Nat.le_refl _, fun i _ hne => Lib.iterAt_other wr k i S _ (fun e => hne (by rw [e]))⟩
      have hJ2 := hJ _ _ _ (some k) hJs hg (fun q e => by cases e; exact ⟨by have := HKK.out; omega, _, hit, rfl⟩)
      have hsz2 : k < (wr.iterAt k S ((encs done).length + (enc p).length)).heap.size := (Array.getElem?_eq_some_iff.1 hi2).1
      generalize wr.iterAt k S ((encs done).length + (enc p).length) = W2 at *
      have hpl : (prs 0 done).length < l.length + 1 := by
        have : ∀ (m : List Nat) a, (prs a m).length = m.length := by
          intro m; induction m with
          | nil => intro a; rfl
          | cons q m ih => intro a; simp [prs, ih]
        rw [this, HL.out]; simp; omega
      obtain ⟨fn, tmps, assign, body, hy, hR⟩ := hY (prs 0 done) ((encs done).length, p) W2 hJ2 hpl (by rw [HL.out, prs_append, prs]; simp)
      have hy' : (Instr.yield lp #[.int .i64 ((encs done).length : Int), .int .i64 (p : Int)]).run Tryd.prog W2 = .ok (.round lp fn tmps assign body) W2 := hy
      have hb1 : (p : Int) ≤ 1114111 ∧ (0 : Int) ≤ (p : Int) := by unfold scal at hp; omega
      have HN : Hid ((encs (done ++ [p])).length = (encs done).length + (enc p).length ∧ l = (done ++ [p]) ++ r ∧ prs 0 (done ++ [p]) = prs 0 done ++ [((encs done).length, p)]) := Lib.hid ⟨by rw [encs_append]; simp [encs], by rw [HL.out]; simp, by rw [prs_snoc, Nat.zero_add]⟩
      obtain ⟨z, hz⟩ : ∃ z : Int, z = (p : Int) := ⟨_, rfl⟩
      rw [← hz] at hy' hnx hb1
      have HLT := Lib.hid hlt
      have HEL := Lib.hid hel
      clear hy hit hd hp hlt hel hg hz
      generalize (encs done).length = d at *
      gi_wp2
      refine hR.mono ?_
      rintro e W3 (⟨rfl, hJ3, hk3⟩ | ⟨rfl, hJx3⟩)
      · have hi3 := hk3.same k _ hi2 rfl
        have hs3 := hk3.size
        gi_wp2
        go_roundw
        case rel => exact ⟨done ++ [p], r, Lib.hid HN.out.2.1, by rw [HN.out.1]; exact hi3, by rw [HN.out.2.2]; exact hJ3, by omega⟩
        case measure =>
          have e1 : itPos k W3 = d + (enc p).length := by unfold itPos; rw [hi3]
          have := HLT.out
          have := HEL.out
          rw [e1, hps.out]; omega
      · gi_wp2
        refine bodyPost_ret (results_none rfl _ _ _) rfl ?_
        exact ⟨⟨_, rfl⟩, .inr ⟨_, hJx3⟩⟩

/-- scalars hands back the iterator. -/
theorem scalars_in (F : Fence) (n : Nat) (hf : F.fn 30) (hro : F.round = none) (s : ByteArray) (w : World) :
    CallsIn F n Tryd.prog 30 #[.string s] w fun e w' => e = .returned (.func (.func 43) #[] #[.pointer (some ⟨w.heap.size, 0, none⟩)]) ∧ w' = w.alloc (.cells #[.string s] 9) := by
  refine callsIn_of_wp Tryd.func30 rfl hf ?_ hro
  simp only [Tryd.ntmps30, List.size_toArray, List.length_cons, List.length_nil, Nat.reduceAdd, Nat.reduceSub, Array.replicate_succ, Array.replicate_zero, List.push_toArray, List.append_toArray, List.nil_append, List.cons_append]
  gi_wp2
  go_ret
  exact ⟨rfl, rfl⟩
theorem scalars_stops (F : Fence) (n : Nat) (hf : F.fn 43) (hro : F.round = none) (hn : 1 ≤ n) (B : Nat) (l : List Nat) (hsc : ∀ p ∈ l, scal p) (w : World) (hB : B < w.heap.size) (c0 : w.cell? ⟨B, 0, none⟩ = some (.string ⟨(encs l).toArray⟩)) :
    SeqStopsK F n Tryd.prog 43 #[.pointer (some ⟨B, 0, none⟩)] encY KeepsWalks (fun ys => ys = prs 0 l) (fun _ => True) (l.length + 1) w := fun lp J Jx W hw hJ _ hY h0 =>
  (scalars1_in F n hf hro hn lp B l hsc J Jx W hJ (fun pre x W1 h1 h2 _ => hY pre x W1 h1 h2) ((hw.cell (p := ⟨B, 0, none⟩) hB).trans c0) h0).mono fun _ _ ⟨h1, h2⟩ => ⟨h1, h2.elim (fun h => .inl ⟨_, rfl, h⟩) (fun ⟨p, h⟩ => .inr ⟨p, trivial, h⟩)⟩
/-- The same, where the body knows that it is given a scalar of the string. -/
theorem scalars_stopsM (F : Fence) (n : Nat) (hf : F.fn 43) (hro : F.round = none) (hn : 1 ≤ n) (B : Nat) (l : List Nat) (hsc : ∀ p ∈ l, scal p) (w : World) (hB : B < w.heap.size) (c0 : w.cell? ⟨B, 0, none⟩ = some (.string ⟨(encs l).toArray⟩)) :
    SeqStopsK F n Tryd.prog 43 #[.pointer (some ⟨B, 0, none⟩)] (fun x : { x : Nat × Nat // x ∈ prs 0 l } => encY x.1) KeepsWalks (fun ys => ys.map (·.1) = prs 0 l) (fun _ => True) (l.length + 1) w := fun lp J Jx W hw hJ _ hY h0 =>
  (scalars1_in F n hf hro hn lp B l hsc (fun ps W' => ∃ ks : List { x : Nat × Nat // x ∈ prs 0 l }, ks.map (·.1) = ps ∧ J ks W') (fun _ W' => ∃ ks, Jx ks W') W
    (fun ps A A' row ⟨ks, e, h⟩ hg hr => ⟨ks, e, hJ _ _ _ row h hg hr⟩)
    (fun ps x W1 ⟨ks, e, h⟩ h2 hx => by
      obtain ⟨fn, tmps, assign, body, hy, hR⟩ := hY ks ⟨x, hx⟩ W1 h (by rw [← e, List.length_map] at h2; exact h2)
      refine ⟨fn, tmps, assign, body, hy, hR.mono ?_⟩
      rintro e' W' (⟨h3, h4, h5⟩ | ⟨h3, h4⟩)
      · exact .inl ⟨h3, ⟨_, by rw [List.map_append, e]; rfl, h4⟩, h5⟩
      · exact .inr ⟨h3, _, h4⟩)
    ((hw.cell (p := ⟨B, 0, none⟩) hB).trans c0) ⟨[], rfl, h0⟩).mono fun _ _ ⟨h1, h2⟩ => ⟨h1, h2.elim (fun ⟨ks, e, h⟩ => .inl ⟨_, e, h⟩) (fun ⟨_, p, h⟩ => .inr ⟨p, trivial, h⟩)⟩
end Go.Proofs.YtmgdeckooiblaaaDoor
