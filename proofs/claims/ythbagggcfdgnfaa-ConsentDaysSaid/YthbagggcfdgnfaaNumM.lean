/- Sets of integers as increasing lists: plain mathematics, of no program. -/
import Derived.Lib.SlicesCompact
import Derived.Lib.ItoaNum
import Derived.Lib.AtoiAll
namespace Go.Proofs.Ythbagggcfdgnfaa

/-- The list increases. -/
def Inc (l : List Int) : Prop := l.Pairwise (· < ·)

/-- An increasing list with another number. -/
def put : List Int → Int → List Int
  | [], x => [x]
  | y :: l, x => if y < x then y :: put l x else if y = x then x :: l else x :: y :: l

/-- The numbers of a list, increasing, each once. -/
def setOf (l : List Int) : List Int := l.foldl put []

theorem mem_put {l : List Int} {x y : Int} : y ∈ put l x ↔ y ∈ l ∨ y = x := by
  induction l with
  | nil => simp [put]
  | cons z l ih =>
    unfold put
    by_cases h1 : z < x
    · rw [if_pos h1]; simp [ih, or_assoc]
    · rw [if_neg h1]
      by_cases h2 : z = x
      · subst h2; simp; intro h; exact Or.inl h
      · rw [if_neg h2]; simp only [List.mem_cons]
        constructor
        · rintro (h | h | h)
          · exact Or.inr h
          · exact Or.inl (Or.inl h)
          · exact Or.inl (Or.inr h)
        · rintro ((h | h) | h)
          · exact Or.inr (Or.inl h)
          · exact Or.inr (Or.inr h)
          · exact Or.inl h

theorem inc_put {l : List Int} {x : Int} (h : Inc l) : Inc (put l x) := by
  unfold Inc at h ⊢
  induction l with
  | nil => simp [put]
  | cons z l ih =>
    rw [List.pairwise_cons] at h
    unfold put
    by_cases h1 : z < x
    · rw [if_pos h1, List.pairwise_cons]
      refine ⟨fun a ha => ?_, ih h.2⟩
      rcases mem_put.1 ha with h' | h'
      · exact h.1 a h'
      · omega
    · rw [if_neg h1]
      by_cases h2 : z = x
      · rw [if_pos h2, List.pairwise_cons, ← h2]; exact h
      · rw [if_neg h2, List.pairwise_cons, List.pairwise_cons]
        refine ⟨fun a ha => ?_, h⟩
        rcases List.mem_cons.1 ha with h' | h'
        · omega
        · have := h.1 a h'; omega

theorem foldl_put_mem (l : List Int) : ∀ (a : List Int) (y : Int), y ∈ l.foldl put a ↔ y ∈ a ∨ y ∈ l := by
  induction l with
  | nil => intro a y; simp
  | cons x l ih => intro a y; rw [List.foldl_cons, ih, mem_put, List.mem_cons, or_assoc]
theorem foldl_put_inc (l : List Int) : ∀ (a : List Int), Inc a → Inc (l.foldl put a) := by
  induction l with
  | nil => intro a h; exact h
  | cons x l ih => intro a h; exact ih _ (inc_put h)

theorem mem_setOf {l : List Int} {y : Int} : y ∈ setOf l ↔ y ∈ l := by unfold setOf; rw [foldl_put_mem]; simp
theorem inc_setOf (l : List Int) : Inc (setOf l) := foldl_put_inc l [] List.Pairwise.nil

theorem inc_unique : ∀ {a b : List Int}, Inc a → Inc b → (∀ x, x ∈ a ↔ x ∈ b) → a = b
  | [], [], _, _, _ => rfl
  | [], y :: b, _, _, h => by have := (h y).2 (by simp); simp at this
  | x :: a, [], _, _, h => by have := (h x).1 (by simp); simp at this
  | x :: a, y :: b, ha, hb, h => by
    unfold Inc at ha hb
    rw [List.pairwise_cons] at ha hb
    have e : x = y := by
      rcases List.mem_cons.1 ((h x).1 (by simp)) with h1 | h1
      · exact h1
      · rcases List.mem_cons.1 ((h y).2 (by simp)) with h2 | h2
        · exact h2.symm
        · have := hb.1 x h1; have := ha.1 y h2; omega
    subst e
    rw [inc_unique (a := a) (b := b) ha.2 hb.2 (fun z => ?_)]
    constructor
    · intro hz
      rcases List.mem_cons.1 ((h z).1 (by simp [hz])) with h1 | h1
      · have := ha.1 z hz; omega
      · exact h1
    · intro hz
      rcases List.mem_cons.1 ((h z).2 (by simp [hz])) with h1 | h1
      · have := hb.1 z hz; omega
      · exact h1

theorem setOf_of {l : List Int} {r : List Int} (h : Inc r) (hm : ∀ x, x ∈ r ↔ x ∈ l) : r = setOf l := inc_unique h (inc_setOf l) fun x => by rw [hm, mem_setOf]
theorem setOf_congr {l m : List Int} (h : ∀ x, x ∈ l ↔ x ∈ m) : setOf l = setOf m := setOf_of (inc_setOf l) fun x => by rw [mem_setOf, h]
theorem setOf_inc {l : List Int} (h : Inc l) : setOf l = l := (setOf_of h fun _ => Iff.rfl).symm

/-! ### Sorting and compacting -/

theorem compact_inc {l : List Int} (h : l.Pairwise (· ≤ ·)) : Inc (Lib.compact l) := by
  unfold Inc Lib.compact Lib.compactUpTo
  rw [List.pairwise_map]
  refine ((List.pairwise_lt_range (n := l.length)).filter _).imp_of_mem ?_
  intro i j hi hj hij
  obtain ⟨hi1, _⟩ := List.mem_filter.1 hi
  obtain ⟨hj1, hj2⟩ := List.mem_filter.1 hj
  have hjl : j < l.length := List.mem_range.1 hj1
  have hk : l.toArray[j]! ≠ l.toArray[j - 1]! := by
    simp only [Lib.keeps, decide_eq_true_eq] at hj2
    rcases hj2 with h0 | h0
    · omega
    · exact h0
  have g : ∀ t, (ht : t < l.length) → l.toArray[t]! = l[t] := fun t ht => by simp [ht]
  rw [g j hjl, g (j - 1) (by omega)] at hk
  rw [g i (by omega), g j hjl]
  have le : ∀ s t (hs : s < l.length) (ht : t < l.length), s < t → l[s] ≤ l[t] := fun s t hs ht hst => List.pairwise_iff_getElem.1 h s t hs ht hst
  have h1 : l[j - 1] ≤ l[j] := le (j - 1) j (by omega) hjl (by omega)
  have h2 : l[i] ≤ l[j - 1] := by
    rcases Nat.lt_or_ge i (j - 1) with h3 | h3
    · exact le i (j - 1) (by omega) (by omega) h3
    · have : i = j - 1 := by omega
      subst this; exact Int.le_refl _
  omega

theorem compact_mem {l : List Int} {x : Int} : x ∈ Lib.compact l ↔ x ∈ l := by
  have g : ∀ t, (ht : t < l.length) → l.toArray[t]! = l[t] := fun t ht => by simp [ht]
  unfold Lib.compact Lib.compactUpTo
  rw [List.mem_map]
  constructor
  · rintro ⟨j, hj, rfl⟩
    have hjl : j < l.length := List.mem_range.1 (List.mem_filter.1 hj).1
    rw [g j hjl]; exact List.getElem_mem _
  · intro hx
    obtain ⟨j, hj, rfl⟩ := List.mem_iff_getElem.1 hx
    induction j with
    | zero => exact ⟨0, List.mem_filter.2 ⟨List.mem_range.2 hj, by simp [Lib.keeps]⟩, g 0 hj⟩
    | succ j ih =>
      by_cases hk : Lib.keeps l.toArray (j + 1) = true
      · exact ⟨j + 1, List.mem_filter.2 ⟨List.mem_range.2 hj, hk⟩, g _ hj⟩
      · simp only [Lib.keeps, decide_eq_true_eq, not_or, Classical.not_not] at hk
        have e : l[j + 1] = l[j] := by
          have := hk.2
          rw [g _ hj, show j + 1 - 1 = j by omega, g j (by omega)] at this
          exact this
        obtain ⟨i, hi, he⟩ := ih (by omega) (List.getElem_mem _)
        exact ⟨i, hi, by rw [he, e]⟩

/-- What Sorted does: sort, then compact. -/
def sorted (l : List Int) : List Int := l.mergeSort fun x y => decide (x ≤ y)
theorem sorted_le (l : List Int) : (sorted l).Pairwise (· ≤ ·) := by
  have := List.pairwise_mergeSort (le := fun x y : Int => decide (x ≤ y)) (fun a b c h1 h2 => by simp at *; omega) (fun a b => by simp; omega) l
  exact this.imp fun h => by simpa using h
theorem sorted_mem {l : List Int} {x : Int} : x ∈ sorted l ↔ x ∈ l := by unfold sorted; simp
theorem compact_sorted (l : List Int) : Lib.compact (sorted l) = setOf l := setOf_of (compact_inc (sorted_le l)) fun x => by rw [compact_mem, sorted_mem]
theorem setOf_length_le (l : List Int) : (setOf l).length ≤ l.length := by
  unfold setOf
  have : ∀ (l a : List Int), (l.foldl put a).length ≤ a.length + l.length := by
    intro l
    induction l with
    | nil => intro a; simp
    | cons x l ih =>
      intro a
      rw [List.foldl_cons]
      have h1 := ih (put a x)
      have h2 : (put a x).length ≤ a.length + 1 := by
        clear h1 ih
        induction a with
        | nil => simp [put]
        | cons y a ih2 =>
          unfold put
          split
          · simp; exact ih2
          · split
            · simp
            · simp
      simp; omega
  simpa using this l []

/-! ### The sets -/
def union (a b : List Int) : List Int := setOf (a ++ b)
def minus (a b : List Int) : List Int := setOf (a.filter fun x => !b.contains x)
def both (a b : List Int) : List Int := setOf (a.filter fun x => b.contains x)

theorem mem_union {a b : List Int} {x : Int} : x ∈ union a b ↔ x ∈ a ∨ x ∈ b := by unfold union; rw [mem_setOf, List.mem_append]
theorem mem_minus {a b : List Int} {x : Int} : x ∈ minus a b ↔ x ∈ a ∧ x ∉ b := by unfold minus; rw [mem_setOf, List.mem_filter]; simp
theorem mem_both {a b : List Int} {x : Int} : x ∈ both a b ↔ x ∈ a ∧ x ∈ b := by unfold both; rw [mem_setOf, List.mem_filter]; simp

/-- What the code's Minus and Both collect out of the sorted list. -/
theorem filtered_eq (a b : List Int) (c : Bool) : (setOf a).filter (fun x => (setOf b).contains x == c) = setOf (a.filter fun x => b.contains x == c) := by
  refine setOf_of ((inc_setOf a).filter _) fun x => ?_
  have e : (setOf b).contains x = b.contains x := by
    rw [Bool.eq_iff_iff]; simp [mem_setOf]
  rw [List.mem_filter, List.mem_filter, mem_setOf, e]
theorem filtered_minus (a b : List Int) : (setOf a).filter (fun x => (setOf b).contains x == false) = minus a b := by
  rw [filtered_eq]; unfold minus; congr 2; funext x; cases b.contains x <;> rfl
theorem filtered_both (a b : List Int) : (setOf a).filter (fun x => (setOf b).contains x == true) = both a b := by
  rw [filtered_eq]; unfold both; congr 2; funext x; cases b.contains x <;> rfl

/-- What the laws say. -/
theorem law_divide (a b : List Int) : union (minus a b) (both a b) = setOf a := by
  refine setOf_congr fun x => ?_
  rw [List.mem_append, mem_minus, mem_both]
  by_cases h : x ∈ b <;> simp [h]
theorem law_left (a b : List Int) : both (minus a b) b = [] := by
  refine inc_unique (inc_setOf _) List.Pairwise.nil fun x => ?_
  show x ∈ both (minus a b) b ↔ _
  rw [mem_both, mem_minus]; simp
theorem union_comm (a b : List Int) : union a b = union b a := setOf_congr fun x => by simp [or_comm]
theorem both_comm (a b : List Int) : both a b = both b a := inc_unique (inc_setOf _) (inc_setOf _) fun x => by
  show x ∈ both a b ↔ x ∈ both b a
  rw [mem_both, mem_both, and_comm]

end Go.Proofs.Ythbagggcfdgnfaa
