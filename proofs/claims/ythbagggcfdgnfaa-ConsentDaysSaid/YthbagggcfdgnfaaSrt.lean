/- For layers above num: the reference's Has, the code's Sorted (its parts stand in XNumA, XNumC, XNumD; laid out of them by hand). -/
import Derived.Test.YthbagggcfdgnfaaNumM
import Derived.Test.YthbagggcfdgnfaaAppend
import Derived.Test.YthbagggcfdgnfaaSame
import Derived.Test.YthbagggcfdgnfaaShelf
import Derived.Deep.Onto
import Derived.Sort.OwnSortedInts
import Derived.Lib.OwnBridge
namespace Go.Proofs.Ythbagggcfdgnfaa
open Go.RowKit Go.Sort

theorem info_int : (Try.prog.info? 3).map (fun i => (i.zero, i.size, i.bytes)) = some (some (.int .i64 0), 1, 8) := by kernel_rfl
theorem one_ints (l : List Int) : ∀ u ∈ l.map (Value.int .i64), u.oneCell' = true := by
  intro u hu
  obtain ⟨x, _, rfl⟩ := List.mem_map.1 hu
  rfl
theorem contains_at {l : List Int} {n : Int} {k : Nat} (hk : k < l.length) (h : l[k] = n) : l.contains n = true := by
  rw [List.contains_iff_mem, ← h]; exact List.getElem_mem hk
theorem contains_no {l : List Int} {n : Int} (h : ∀ j (hj : j < l.length), l[j] ≠ n) : l.contains n = false := by
  rw [Bool.eq_false_iff]
  intro hc
  obtain ⟨j, hj, e⟩ := List.mem_iff_getElem.1 (List.contains_iff_mem.1 hc)
  exact h j hj e
theorem RetInts.own {l : List Int} {w w' : World} {A : Option Addr} {cap : Nat} {B : Nat} (hB : w.heap.size ≤ B) (h : w'.ownsRow B 3 1 (.slice A l.length cap) l.length (l.map (Value.int .i64))) (hb : Below w.heap.size w w') : RetInts 3 l w (.returned (.slice A l.length cap)) w' :=
  ⟨A, cap, rfl, h.mono hB, hb⟩

set_option maxHeartbeats 400000 in
theorem rhas_any (l : List Int) (A : Option Addr) (cap : Nat) (n : Int) (w : World) (ha : Ints w A l) (hl : l.length ≤ 100000) :
    Calls Try.prog 26 #[.slice A l.length cap, .int .i64 n] w (Ret (.bool (l.contains n)) w) := by
  go_enter Try.func26, Try.ntmps26
  go_wp2
  go_loopw [8] (fun i wr => ∃ k : Nat, k ≤ l.length ∧ i = .int .i64 (k : Int) ∧ (∀ j (hj : j < l.length), j < k → l[j] ≠ n) ∧ Below w.heap.size w wr) (fun i _ => l.length + 1 - (intOf i).toNat)
  case atStart => exact ⟨0, by omega, rfl, fun j hj h => by omega, Below.refl _ _⟩
  case round =>
    obtain ⟨k, hk, rfl, hno, hbw⟩ := hrel
    have HNO := Lib.hid hno
    clear hno
    by_cases hlt : k < l.length
    · obtain ⟨ad, rfl, _, c1⟩ := (ha.below hbw).at_ hlt
      by_cases heq : l[k] = n
      · have HE := Lib.hid heq
        have hb : (l[k] == n) = true := by simpa using heq
        clear heq
        go_wp2
        go_ret
        exact Ret.mk (by rw [contains_at hlt HE.out]; rfl) hbw
      · have hb : (l[k] == n) = false := by simpa using heq
        have HE := Lib.hid heq
        clear heq
        go_wp2
        go_roundw
        case rel => exact ⟨k + 1, by omega, by go_num, fun j hj h => by
          rcases Nat.lt_or_ge j k with h' | h'
          · exact HNO.out j hj h'
          · have : j = k := by omega
            subst this; exact HE.out, hbw⟩
        case measure => simp [intOf]; omega
    · go_wp2
      go_ret
      exact Ret.mk (by rw [contains_no fun j hj => HNO.out j hj (by omega)]; rfl) hbw

theorem own_cap {w : World} {B : Nat} {T : TypeId} {A : Option Addr} {n c : Nat} {xs : List Value} (h : w.ownsRow B T 1 (.slice A n c) n xs) : n ≤ c := by
  rcases h.2 with ⟨e, _⟩ | ⟨g, cap, cur, e, _, _, h1, _⟩
  · injection e with _ h1 h2; omega
  · injection e with _ h1 h2; omega

/-- A slice value that is a row of the call's own, holding the numbers of s. -/
def OwnI (w : World) (B : Nat) (s : List Int) (v : Value) : Prop := ∃ A c, v = .slice A s.length c ∧ w.ownsRow B 3 1 (.slice A s.length c) s.length (s.map (Value.int .i64))
theorem OwnI.nil_ (w : World) (B : Nat) : OwnI w B [] (.slice none 0 0) := ⟨none, 0, rfl, World.ownsRow_nil _ _ _ _⟩
theorem OwnI.below {w w' : World} {B : Nat} {s : List Int} {v : Value} (h : OwnI w B s v) (hb : Below w.heap.size w w') : OwnI w' B s v :=
  let ⟨A, c, e, ho⟩ := h; ⟨A, c, e, own_below ho hb⟩
theorem OwnI.ret {w w' : World} {s : List Int} {v : Value} (h : OwnI w' w.heap.size s v) (hb : Below w.heap.size w w') : RetInts 3 s w (.returned v) w' :=
  let ⟨A, c, e, ho⟩ := h; ⟨A, c, by rw [e], ho, hb⟩

theorem below_grow (w : World) (os : Array Obj) : Below w.heap.size w (Sort.grow w os) := ⟨rfl, rfl, rfl, by simp, fun k hk => heap_grow_old w os hk⟩

theorem spot_none {w : World} {a : Addr} {v : Value} (h : w.cell? a = some v) : a.spot = none := by
  cases hs : a.spot with
  | none => rfl
  | some i =>
    exfalso
    unfold World.cell? at h
    rw [hs] at h
    cases hb : w.heap[a.block]? with
    | none => rw [hb] at h; simp at h
    | some o => rw [hb] at h; cases o <;> simp at h

/-- The cells of a slice that is not empty, as the library's contracts ask them. -/
theorem ints_rows {w : World} {A : Option Addr} {l : List Int} (h : Ints w A l) (hl : 0 < l.length) : ∃ b off, A = some ⟨b, off, none⟩ ∧ b < w.heap.size ∧ ∀ j, j < l.length → w.cell? ⟨b, off + j, none⟩ = some (.int .i64 (l.getD j 0)) := by
  obtain ⟨ad, rfl, hb, hc⟩ := h.2 hl
  have h0 := hc 0 (.int .i64 l[0]) (by simp [hl])
  rw [show ad.add 0 = ad by unfold Addr.add; simp] at h0
  have hs := spot_none h0
  obtain ⟨b, off, sp⟩ := ad
  simp only at hs
  subst hs
  refine ⟨b, off, rfl, hb, fun j hj => ?_⟩
  have h1 := hc j (.int .i64 l[j]) (by simp [hj])
  rw [show (⟨b, off, none⟩ : Addr).add j = ⟨b, off + j, none⟩ by unfold Addr.add; split <;> simp_all] at h1
  rw [h1]
  simp [List.getD, hj]

theorem clone_any (l : List Int) (A : Option Addr) (cap : Nat) (w : World) (ha : Ints w A l) (hl : l.length ≤ 100000) :
    Calls Try.prog 37 #[.slice A l.length cap] w (RetInts 3 l w) := by
  rcases Nat.eq_zero_or_pos l.length with h0 | h0
  · obtain rfl : l = [] := List.eq_nil_of_length_eq_zero h0
    rcases A with _ | ad
    · refine (Try.slices_Clone_int_nil 0 cap w).mono ?_
      rintro e w' ⟨rfl, rfl⟩
      exact ⟨none, 0, rfl, World.ownsRow_nil _ _ _ _, Below.refl _ _⟩
    · refine (Try.slices_Clone_int_zero ad cap w).mono ?_
      rintro e w' ⟨v, rfl, ho, _, hb⟩
      obtain ⟨A', c', rfl⟩ := own_form ho
      exact ⟨A', c', rfl, ho, hb⟩
  · obtain ⟨b, off, rfl, _, hc⟩ := ints_rows ha h0
    refine (Try.slices_Clone_int b off l.length cap l w (Nat.le_refl _) (by omega) hc).mono ?_
    rintro e w' ⟨v, rfl, ho, _, hb⟩
    obtain ⟨A', c', rfl⟩ := own_form ho
    rw [List.take_length] at ho
    exact ⟨A', c', rfl, ho, hb⟩

theorem sort_own (zs : List Int) (A : Option Addr) (cap B : Nat) (w : World) (hown : w.ownsRow B 3 1 (.slice A zs.length cap) zs.length (zs.map (Value.int .i64))) (hB : B ≤ w.heap.size) (hl : zs.length ≤ 100000) :
    Calls Try.prog 38 #[.slice A zs.length cap] w fun e w' => e = .returned (.tuple #[]) ∧ w'.ownsRow B 3 1 (.slice A (sorted zs).length cap) (sorted zs).length ((sorted zs).map (Value.int .i64)) ∧ Below B w w' := by
  have hsl : (sorted zs).length = zs.length := List.length_mergeSort zs
  rcases hown.2 with ⟨hn, h0⟩ | ⟨g, cap', cur, hv, hbase, hb, h1, h2, h3, h4⟩
  · injection hn with e1 e2 e3
    obtain rfl : zs = [] := List.eq_nil_of_length_eq_zero e2
    subst e1; subst e3
    refine (Try.slices_Sort_int_none none 0 w).mono ?_
    rintro e w' ⟨rfl, rfl⟩
    exact ⟨rfl, by rw [show sorted [] = [] from List.eq_nil_of_length_eq_zero hsl]; exact World.ownsRow_nil _ _ _ _, Below.refl _ _⟩
  · injection hv with e1 e2 e3
    subst e1; subst e3
    refine (Try.slices_Sort_int g 0 cap zs w (holds_of_blockI hb (by simpa using h4)) (Array.getElem?_eq_some_iff.1 hb).1 (by omega)).mono ?_
    rintro e w' ⟨rfl, n, os, rfl⟩
    refine ⟨rfl, ?_, (Below.refl _ _).grown (grownBy_sortedI _) hB (fun k hk => by injection hk with hk; omega)⟩
    have := ownsRow_sortedI (n := n) (os := os) (ts := sorted zs) hsl hbase hb h1 h2 h3
    rw [hsl]
    exact this

theorem compact_own (zs : List Int) (A : Option Addr) (cap B : Nat) (w : World) (hown : w.ownsRow B 3 1 (.slice A zs.length cap) zs.length (zs.map (Value.int .i64))) (hl : zs.length ≤ 100000) :
    Calls Try.prog 39 #[.slice A zs.length cap] w fun e w' => e = .returned (.slice A (Lib.compact zs).length cap) ∧ w'.ownsRow B 3 1 (.slice A (Lib.compact zs).length cap) (Lib.compact zs).length ((Lib.compact zs).map (Value.int .i64)) ∧ Below B w w' := by
  have hcl := Lib.compact_length_le zs
  rcases hown.2 with ⟨hn, h0⟩ | ⟨g, cap', cur, hv, hbase, hb, h1, h2, h3, h4⟩
  · injection hn with e1 e2 e3
    obtain rfl : zs = [] := List.eq_nil_of_length_eq_zero e2
    subst e1; subst e3
    refine (Try.slices_Compact_int_empty none 0 w).mono ?_
    rintro e w' ⟨rfl, rfl⟩
    exact ⟨rfl, World.ownsRow_nil _ _ _ _, Below.refl _ _⟩
  · injection hv with e1 e2 e3
    subst e1; subst e3
    refine (Try.slices_Compact_int g 0 cap zs w (holds_of_blockI hb (by simpa using h4)) (by omega) h1).mono ?_
    rintro e w' ⟨rfl, q, rfl⟩
    refine ⟨rfl, ?_, Lib.below_putRow (Below.refl _ _) hbase⟩
    have := Lib.ownsRow_putRow (q := q) (k := (Lib.compact zs).length) (ys := Lib.compact zs ++ List.replicate (zs.length - (Lib.compact zs).length) 0) hown (by simp; omega) hcl
    rw [List.take_left] at this
    exact this

theorem sorted_any (l : List Int) (A : Option Addr) (cap : Nat) (w : World) (ha : Ints w A l) (hl : l.length ≤ 100000) :
    Calls Try.prog 31 #[.slice A l.length cap] w (RetInts 3 (setOf l) w) := by
  have hsl : (sorted l).length = l.length := List.length_mergeSort l
  have hc := compact_sorted l
  go_enter Try.func31, Try.ntmps31
  go_wp2_with fail
  refine (clone_any l A cap w ha hl).mono ?_
  rintro e w1 ⟨A1, c1, rfl, o1, h1⟩
  have s1 := sort_own l A1 c1 w.heap.size w1 o1 h1.size hl
  clear o1
  go_wp2_with fail
  refine s1.mono ?_
  rintro e w2 ⟨rfl, o2, h2⟩
  have H2 := h1.trans h2
  have s2 := compact_own (sorted l) A1 c1 w.heap.size w2 o2 (by omega)
  rw [hsl, hc] at s2
  have HC := Lib.hid hc
  have HS := Lib.hid hsl
  clear o2 s1 hc hsl
  go_wp2_with fail
  refine s2.mono ?_
  rintro e w3 ⟨rfl, o3, h3⟩
  have O3 := Lib.hid o3
  clear o3 s2
  go_wp2
  go_ret
  exact ⟨A1, c1, rfl, O3.out, H2.trans h3⟩

end Go.Proofs.Ythbagggcfdgnfaa
