/- Consents: what the functions give; plain mathematics. -/
import Derived.Test.YthbagggcfdgnfaaCnT
import Derived.Lib.SlBy
namespace Go.Proofs.Ythbagggcfdgnfaa

/-- Whether a person has the Id. -/
def hasP (ps : List Pn) (id : Int) : Bool := ps.any fun x => x.id == id
theorem hasP_at {ps : List Pn} {id : Int} {k : Nat} (hk : k < ps.length) (h : ps[k].id = id) : hasP ps id = true := List.any_eq_true.2 ⟨ps[k], List.getElem_mem hk, by simpa using h⟩
theorem hasP_no {ps : List Pn} {id : Int} (h : ∀ j (hj : j < ps.length), ps[j].id ≠ id) : hasP ps id = false := by
  rw [Bool.eq_false_iff]
  intro hc
  obtain ⟨x, hx, he⟩ := List.any_eq_true.1 hc
  obtain ⟨j, hj, rfl⟩ := List.mem_iff_getElem.1 hx
  exact h j hj (by simpa using he)

/-- The error of a consent behind one of the day before. -/
def oneE (ps : List Pn) (c : Cn) (before : Int) : Int :=
  if hasP ps c.p = false then 9 else if c.r < 0 ∨ 1099511627776 < c.r then 2 else if c.d < 1 ∨ 109573 < c.d then 12 else if c.k < 0 ∨ 2 < c.k then 14 else if c.d < before then 10 else 0
/-- The day of the consent before the one with the index i. -/
def dayB (l : List Cn) (i : Nat) : Int := if i = 0 then 0 else (l[i - 1]?.getD default).d
def oneAt (ps : List Pn) (l : List Cn) (i : Nat) : Int := oneE ps (l[i]?.getD default) (dayB l i)
def checkE (ps : List Pn) (l : List Cn) : Int := if 60 < l.length then 11 else (((List.range l.length).map (oneAt ps l)).find? (· != 0)).getD 0

theorem oneAt_eq {ps : List Pn} {l : List Cn} {i : Nat} (h : i < l.length) : oneAt ps l i = oneE ps l[i] (dayB l i) := by unfold oneAt; simp [h]
theorem check_long {ps : List Pn} {l : List Cn} (h : 60 < l.length) : checkE ps l = 11 := if_pos h
theorem check_ok {ps : List Pn} {l : List Cn} (h : ¬ 60 < l.length) (hz : ∀ j, j < l.length → oneAt ps l j = 0) : checkE ps l = 0 := by
  unfold checkE
  rw [if_neg h, List.find?_eq_none.2 fun x hx => by obtain ⟨j, hj, rfl⟩ := List.mem_map.1 hx; rw [hz j (List.mem_range.1 hj)]; simp]
  rfl
theorem check_at {ps : List Pn} {l : List Cn} (h : ¬ 60 < l.length) {k : Nat} (hk : k < l.length) (hz : ∀ j, j < k → oneAt ps l j = 0) (hne : oneAt ps l k ≠ 0) : checkE ps l = oneAt ps l k := by
  unfold checkE
  rw [if_neg h]
  have e : (List.range l.length).map (oneAt ps l) = (List.range k).map (oneAt ps l) ++ oneAt ps l k :: ((List.range (l.length - (k + 1))).map fun j => oneAt ps l (k + 1 + j)) := by
    apply List.ext_getElem
    · simp; omega
    · intro i h1 h2
      simp only [List.length_map, List.length_range] at h1
      rcases Nat.lt_trichotomy i k with hh | hh | hh
      · rw [List.getElem_append_left (by simpa using hh)]; simp
      · subst hh; rw [List.getElem_append_right (by simp)]; simp
      · rw [List.getElem_append_right (by simp; omega)]
        obtain ⟨q, rfl⟩ : ∃ q, i = k + 1 + q := ⟨i - (k + 1), by omega⟩
        simp [show k + 1 + q - k = q + 1 by omega]
  rw [e, List.find?_append, List.find?_eq_none.2 fun x hx => by obtain ⟨j, hj, rfl⟩ := List.mem_map.1 hx; rw [hz j (List.mem_range.1 hj)]; simp]
  simp [hne]
theorem check_zero {ps : List Pn} {l : List Cn} (h : checkE ps l = 0) : l.length ≤ 60 ∧ ∀ j, j < l.length → oneAt ps l j = 0 := by
  by_cases hl : 60 < l.length
  · rw [check_long hl] at h; cases h
  refine ⟨by omega, ?_⟩
  intro j
  induction j using Nat.strongRecOn with
  | _ j ih =>
    intro hj
    refine Classical.byContradiction fun hne => ?_
    have := check_at hl hj (fun i hi => ih i hi (by omega)) hne
    rw [h] at this
    exact hne this.symm
theorem one_zero {ps : List Pn} {c : Cn} {b : Int} (h : oneE ps c b = 0) : hasP ps c.p = true ∧ (0 ≤ c.r ∧ c.r ≤ 1099511627776) ∧ (1 ≤ c.d ∧ c.d ≤ 109573) ∧ (0 ≤ c.k ∧ c.k ≤ 2) ∧ b ≤ c.d := by
  unfold oneE at h
  split at h
  · cases h
  · split at h
    · cases h
    · split at h
      · cases h
      · split at h
        · cases h
        · split at h
          · cases h
          · rename_i h1 h2 h3 h4 h5
            refine ⟨by simpa using h1, ⟨by omega, by omega⟩, ⟨by omega, by omega⟩, ⟨by omega, by omega⟩, by omega⟩

/-! ### At, Least -/
def fits (c : Cn) (p r : Int) : Bool := c.p == p && (c.r == 0 || c.r == r)
/-- What a consent makes of the kind so far. -/
def stepK (p r d : Int) (k : Int) (c : Cn) : Int := if fits c p r && decide (c.d ≤ d) then c.k else k
def atK (l : List Cn) (p r d : Int) : Int := l.foldl (stepK p r d) 0
def leastF (l : List Cn) (rid d : Int) (sp : List Int) : Int := sp.foldl (fun m s => min m (atK l s rid d)) 2
def leastK (l : List Cn) (rid : Int) (sp : List Int) (d : Int) : Int := if sp = [] then 0 else leastF l rid d sp

theorem foldl_take {α β : Type} (f : β → α → β) (b : β) (l : List α) {k : Nat} (hk : k < l.length) : (l.take (k + 1)).foldl f b = f ((l.take k).foldl f b) l[k] := by
  rw [List.take_succ_eq_append_getElem hk, List.foldl_append]; rfl

/-! ### Give -/
/-- Where a consent is inserted: behind all whose day is at most its own. -/
def giveAt (l : List Cn) (d : Int) : Nat := l.length - (l.reverse.takeWhile fun c => decide (d < c.d)).length
def giveL (l : List Cn) (c : Cn) : List Cn := l.take (giveAt l c.d) ++ [c] ++ l.drop (giveAt l c.d)
theorem giveAt_le (l : List Cn) (d : Int) : giveAt l d ≤ l.length := Nat.sub_le _ _
theorem takeWhile_len {α : Type} (p : α → Bool) : ∀ (l : List α) (n : Nat), n ≤ l.length → (∀ j (hj : j < l.length), j < n → p l[j] = true) → (∀ h : n < l.length, p l[n] = false) → (l.takeWhile p).length = n
  | [], n, hn, _, _ => by simp at hn; simp [hn]
  | x :: l, 0, _, _, h => by have := h (by simp); simp at this; simp [this]
  | x :: l, n + 1, hn, hl, h => by
    have h0 : p x = true := hl 0 (by simp) (by omega)
    rw [List.takeWhile_cons, if_pos h0, List.length_cons, takeWhile_len p l n (by simpa using hn) (fun j hj hjn => by have := hl (j + 1) (by simpa using hj) (by omega); simpa using this) (fun hh => by have := h (by simpa using hh); simpa using this)]
theorem giveAt_is {l : List Cn} {d : Int} {a : Nat} (ha : a ≤ l.length) (h1 : ∀ j (hj : j < l.length), a ≤ j → d < l[j].d) (h2 : ∀ h : 0 < a, ¬ d < (l[a - 1]'(by omega)).d) : giveAt l d = a := by
  unfold giveAt
  rw [takeWhile_len _ l.reverse (l.length - a) (by simp) (fun j hj hjn => ?_) (fun h => ?_)]
  · omega
  · rw [List.getElem_reverse]; simp only [decide_eq_true_eq]; exact h1 _ _ (by simp at hj; omega)
  · rw [List.getElem_reverse]; simp only [decide_eq_false_iff_not]
    have := h2 (by simp at h; omega)
    have e : l.length - 1 - (l.length - a) = a - 1 := by simp at h; omega
    simp only [e]; exact this
end Go.Proofs.Ythbagggcfdgnfaa
