/- slices.SortFunc at spans, by their beginnings. -/
import Derived.Test.YtofnbohcofgfkaaSpC
import Derived.Test.YtofnbohcofgfkaaShelf
import Derived.Sort.OwnSorted
import Derived.Shelf.SlSortCmp.NoneTotal
import Derived.Shelf.SlicesG.Cmp
namespace Go.Proofs.Ytofnbohcofgfkaa
open Go.RowKit Go.Shelf Go.Lib Go.Sort

/-- The flat row. -/
theorem flatK_spans (l : List Sp) : flatK encS 2 l.toArray = (l.flatMap encS).toArray := by
  refine ext_get! (by rw [show (flatK encS 2 l.toArray).size = l.length * 2 by simp, List.size_toArray, flat_len]) fun t ht => ?_
  have ht' : t < l.length * 2 := by simpa using ht
  rw [get_flatK _ _ _ t (by simpa using ht')]
  have hi : t / 2 < l.length := by omega
  have h1 := flat_get l t
  rw [List.getElem?_eq_getElem hi] at h1
  have h2 : (l.flatMap encS).toArray[t]! = ((l.flatMap encS)[t]?).getD default := by simp
  rw [h2, h1]
  have h3 : l.toArray[t / 2]! = l[t / 2] := by simp [hi]
  rw [h3]
  simp

theorem holdsV {w : World} {g : Nat} {cur : Array Value} {e : TypeId} {vs : List Value} (hb : w.heap[g]? = some (.cells cur e (0, 0))) (ht : cur.toList.take vs.length = vs) : Holds id w g 0 vs.toArray := by
  intro j hj
  have hj' : j < vs.length := by simpa using hj
  refine ⟨?_, by simp [World.frozen?, hb]⟩
  have h1 : (cur.toList.take vs.length)[j]? = vs[j]? := by rw [ht]
  rw [List.getElem?_take_of_lt hj'] at h1
  simp only [World.cell?, hb, Nat.zero_add]
  simp only [Option.isSome_none, Bool.false_eq_true, if_false]
  rw [← Array.getElem?_toList, h1]
  simp [hj']
theorem heapV {w : World} {g n : Nat} {os : Array Obj} {cur : Array Value} {e : TypeId} {fr : Nat × Nat} (d : Array Value) (hb : w.heap[g]? = some (.cells cur e fr)) :
    (grow (putRow id (Sort.ahead w n) g 0 d) os).heap[g]? = some (.cells (putCells id 0 d cur) e fr) := by
  have hg : g < w.heap.size := (Array.getElem?_eq_some_iff.1 hb).1
  rw [heap_grow_old _ _ (by simpa using hg)]
  simp [putRow, mapBlock, Sort.ahead, Array.getElem?_modify, hb, onCells]
theorem grownV {w : World} {g n : Nat} {os : Array Obj} (d : Array Value) : w.grownBy (grow (putRow id (Sort.ahead w n) g 0 d) os) (some g) := by
  refine ⟨rfl, rfl, rfl, by simp, fun k hk hne => ?_⟩
  rw [heap_grow_old _ _ (by simpa using hk)]
  have : g ≠ k := fun e => hne (by rw [e])
  simp [putRow, mapBlock, Sort.ahead, Array.getElem?_modify, this]
theorem takeV (cur : Array Value) (vs : List Value) (h : vs.length ≤ cur.size) : (putCells id 0 vs.toArray cur).toList.take vs.length = vs := by
  apply List.ext_getElem?
  intro j
  by_cases hj : j < vs.length
  · rw [List.getElem?_take_of_lt hj, Array.getElem?_toList]
    simp [putCells, hj, show j < cur.size by omega]
  · rw [List.getElem?_take_eq_none (by omega), List.getElem?_eq_none (by omega)]

theorem cmp_lt (x y : Sp) : ltOf (fun x y : Sp => Lib.compareInt x.f y.f) x y = decide (x.f < y.f) := by
  unfold ltOf Lib.compareInt
  by_cases h1 : x.f < y.f
  · simp [h1]
  · by_cases h2 : y.f < x.f <;> simp [h1, h2]
theorem cmp_swo : SWO (ltOf fun x y : Sp => Lib.compareInt x.f y.f) where
  irrefl x := by rw [cmp_lt]; simp
  trans x y z h1 h2 := by rw [cmp_lt] at *; simp at *; omega
  ntrans x y z h1 h2 := by rw [cmp_lt] at *; simp at *; omega

set_option maxHeartbeats 1000000 in
theorem closure_any (x y : Sp) (W : World) : Calls Try.prog 37 #[.agg #[.int .i64 x.f, .int .i64 x.t], .agg #[.int .i64 y.f, .int .i64 y.t]] W fun e w' => e = .returned (.int .i64 (Lib.compareInt x.f y.f)) ∧ ∃ q os', w' = grow (W.drewN q) os' := by
  have hcon := fun W' => AnyG.cmp_Compare_int Try.cmp_f38 x.f y.f W'
  change ∀ W', Calls Try.prog 38 _ _ _ at hcon
  generalize Lib.compareInt x.f y.f = r at hcon ⊢
  go_enter Try.func37, Try.ntmps37
  go_wp2_with fail
  refine (hcon _).mono ?_
  rintro e w' ⟨rfl, rfl⟩
  go_wp2
  go_ret
  exact ⟨rfl, 0, _, by rw [alloc_eq_grow, alloc_eq_grow, grow_grow]; rfl⟩
theorem cmpLays (blk off size : Nat) (w : World) : CmpLays Try.prog 37 #[] encS 2 (fun x y => Lib.compareInt x.f y.f) blk off size w := fun _ _ _ _ x y => closure_any x y _

theorem isAggS : ∀ w, (isAgg 23).run Try.prog w = .ok true w := fun _ => by kernel_rfl
theorem sizeS : ∀ w, (Go.sizeOf 23).run Try.prog w = .ok 2 w := fun _ => by kernel_rfl
/-- The row is sorted in place. -/
theorem sort_own (zs : List Sp) (A : Option Addr) (cap B : Nat) (w : World) (hown : w.ownsRow B 23 2 (.slice A zs.length cap) zs.length (zs.flatMap encS)) (hB : B ≤ w.heap.size) (hl : zs.length ≤ 100000) :
    Calls Try.prog 36 #[.slice A zs.length cap, .func (.func 37) #[] #[]] w fun e w' => e = .returned (.tuple #[]) ∧ ∃ q : List Sp, q.Perm zs ∧ q.Pairwise (fun a b => a.f ≤ b.f) ∧
      w'.ownsRow B 23 2 (.slice A q.length cap) q.length (q.flatMap encS) ∧ Below B w w' := by
  rcases hown.2 with ⟨hn, h0⟩ | ⟨g, cap', cur, hv, hbase, hb, h1, h2, h3, h4⟩
  · injection hn with e1 e2 e3
    obtain rfl : zs = [] := List.eq_nil_of_length_eq_zero e2
    subst e1; subst e3
    refine (AnyF.slices_SortFunc_none { Try.srt_f36 with } none 0 _ w).mono ?_
    rintro e w' ⟨rfl, rfl⟩
    exact ⟨rfl, [], List.Perm.refl _, List.Pairwise.nil, World.ownsRow_nil _ _ _ _, Below.refl _ _⟩
  · injection hv with e1 e2 e3
    subst e1; subst e3
    have hH : HoldsK encS 2 w g 0 zs.toArray := by
      show Holds id w g 0 (flatK encS 2 zs.toArray)
      rw [flatK_spans]
      exact holdsV hb (by rw [flat_len]; exact h4)
    have eg : ∀ args w, (callFunc 37 args).run Try.prog w = .ok (.enter 37 args) w := enters_of Try.func37 (by kernel_rfl) rfl
    have hcon := AnyQ.slices_SortFunc Try.srt_f36 2 isAggS sizeS encS (fun _ => rfl) (fun x v hv => by simp [encS] at hv; rcases hv with rfl | rfl <;> rfl) (fun x y => Lib.compareInt x.f y.f) cmp_swo 37 #[] g 0 cap zs.toArray w eg (cmpLays g 0 zs.toArray.size w) hH (Array.getElem?_eq_some_iff.1 hb).1 (by simp; omega)
    change Calls Try.prog 36 _ _ _ at hcon
    rw [List.size_toArray] at hcon
    refine hcon.mono ?_
    rintro e w' ⟨rfl, d', n, os, hp, hs, rfl⟩
    have hsz : d'.toList.length = zs.length := by have := hp.1; simpa using this
    have hperm : d'.toList.Perm zs := by
      have h5 := hp.2.2
      rw [show d'.extract 0 zs.length = d' by rw [← hsz]; simp, show zs.toArray.extract 0 zs.length = zs.toArray by simp] at h5
      exact h5
    have hq : flatK encS 2 d' = (d'.toList.flatMap encS).toArray := by rw [← flatK_spans]
    refine ⟨rfl, d'.toList, hperm, ?_, ?_, ?_⟩
    · refine List.pairwise_iff_getElem.2 fun i j hi hj hij => ?_
      have h6 := hs i j (Nat.zero_le _) hij (by simpa [hsz] using hj)
      rw [cmp_lt, decide_eq_false_iff_not] at h6
      have a1 : d'[i]! = d'.toList[i] := by simp [show i < d'.size by simpa using hi]
      have a2 : d'[j]! = d'.toList[j] := by simp [show j < d'.size by simpa using hj]
      rw [a1, a2] at h6
      omega
    · refine ⟨by rw [flat_len], .inr ⟨g, cap, _, rfl, hbase, heapV _ hb, by rw [hsz]; exact h1, h2, by simp [putCells, h3], ?_⟩⟩
      rw [hq, ← flat_len]
      exact takeV cur _ (by rw [flat_len, hsz, h3]; omega)
    · exact (Below.refl _ _).grown (grownV _) hB (fun k hk => by injection hk with hk; omega)
end Go.Proofs.Ytofnbohcofgfkaa
