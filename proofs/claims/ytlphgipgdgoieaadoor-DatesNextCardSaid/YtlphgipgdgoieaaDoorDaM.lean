/- The calendar: plain mathematics, of no program. -/
import Derived.Test.YtlphgipgdgoieaaDoorBase
namespace Go.Proofs.YtlphgipgdgoieaaDoor

def leapB (y : Int) : Bool := (y.tmod 4 == 0 && !(y.tmod 100 == 0)) || y.tmod 400 == 0
def diy (y : Int) : Int := if leapB y then 366 else 365
def dim (y m : Int) : Int := if m = 2 then (if leapB y then 29 else 28) else if m = 4 ∨ m = 6 ∨ m = 9 ∨ m = 11 then 30 else 31
theorem diy_pos (y : Int) : 365 ≤ diy y ∧ diy y ≤ 366 := by unfold diy; split <;> omega
theorem dim_pos (y m : Int) : 28 ≤ dim y m ∧ dim y m ≤ 31 := by unfold dim; repeat' split <;> omega
/-- The days before the year 1900 + k. -/
def cumY : Nat → Int
  | 0 => 0
  | k + 1 => cumY k + diy (1900 + (k : Int))
/-- The days of a year before its month k + 1. -/
def cumM (y : Int) : Nat → Int
  | 0 => 0
  | k + 1 => cumM y k + dim y ((k : Int) + 1)
theorem cumM_all (y : Int) : cumM y 12 = diy y := by
  simp only [cumM, dim, diy]
  cases leapB y <;> decide
theorem cumY_mono : ∀ (j i : Nat), i ≤ j → cumY i ≤ cumY j
  | 0, i, h => Int.le_of_eq (by rw [show i = 0 by omega])
  | j + 1, i, h => by
    rcases Nat.lt_or_ge i (j + 1) with h1 | h1
    · have := cumY_mono j i (by omega)
      have := diy_pos (1900 + (j : Int))
      show cumY i ≤ cumY j + diy (1900 + (j : Int))
      omega
    · obtain rfl : i = j + 1 := by omega
      exact Int.le_refl _
theorem cumY_lt {i j : Nat} (h : i < j) : cumY i + diy (1900 + (i : Int)) ≤ cumY j := cumY_mono j (i + 1) h
theorem cumM_mono (y : Int) : ∀ (j i : Nat), i ≤ j → cumM y i ≤ cumM y j
  | 0, i, h => Int.le_of_eq (by rw [show i = 0 by omega])
  | j + 1, i, h => by
    rcases Nat.lt_or_ge i (j + 1) with h1 | h1
    · have := cumM_mono y j i (by omega)
      have := dim_pos y ((j : Int) + 1)
      show cumM y i ≤ cumM y j + dim y ((j : Int) + 1)
      omega
    · obtain rfl : i = j + 1 := by omega
      exact Int.le_refl _
theorem cumM_lt (y : Int) {i j : Nat} (h : i < j) : cumM y i + dim y ((i : Int) + 1) ≤ cumM y j := cumM_mono y j (i + 1) h
theorem cumY_all : cumY 300 = 109573 := by decide +kernel

/-- A day of the calendar. -/
def Valid (y m d : Int) : Prop := 1900 ≤ y ∧ y ≤ 2199 ∧ 1 ≤ m ∧ m ≤ 12 ∧ 1 ≤ d ∧ d ≤ dim y m
instance validD (y m d : Int) : Decidable (Valid y m d) := by unfold Valid; exact inferInstance
/-- Its number. -/
def dayN (y m d : Int) : Int := cumY (y - 1900).toNat + cumM y (m - 1).toNat + d
/-- n is the number of the day. -/
def IsC (n y m d : Int) : Prop := Valid y m d ∧ dayN y m d = n
instance isCD (n y m d : Int) : Decidable (IsC n y m d) := by unfold IsC; exact inferInstance

/-- What a day's number is, within its year. -/
theorem inYear {y m d : Int} (h : Valid y m d) : 1 ≤ cumM y (m - 1).toNat + d ∧ cumM y (m - 1).toNat + d ≤ diy y := by
  obtain ⟨_, _, h3, h4, h5, h6⟩ := h
  have h7 := cumM_mono y (m - 1).toNat 0 (by omega)
  have h8 := cumM_lt y (i := (m - 1).toNat) (j := 12)
  have h9 := cumM_all y
  have e : (((m - 1).toNat : Nat) : Int) + 1 = m := by omega
  rw [e] at h8
  have h8 := h8 (by omega)
  have : cumM y 0 = 0 := rfl
  omega
theorem valid_range {n y m d : Int} (h : IsC n y m d) : 1 ≤ n ∧ n ≤ 109573 := by
  obtain ⟨hv, rfl⟩ := h
  have h1 := inYear hv
  obtain ⟨g1, g2, _⟩ := hv
  have h2 := cumY_mono (y - 1900).toNat 0 (by omega)
  have h3 := cumY_lt (i := (y - 1900).toNat) (j := 300) (by omega)
  have e : 1900 + (((y - 1900).toNat : Nat) : Int) = y := by omega
  rw [e, cumY_all] at h3
  have : cumY 0 = 0 := rfl
  unfold dayN
  omega
theorem dayN_lt {y m d y' m' d' : Int} (h : Valid y m d) (h' : Valid y' m' d') (hl : y < y' ∨ (y = y' ∧ (m < m' ∨ (m = m' ∧ d < d')))) : dayN y m d < dayN y' m' d' := by
  rcases hl with h1 | ⟨rfl, h1 | ⟨rfl, h1⟩⟩
  · have k1 := inYear h
    have k2 := inYear h'
    have k3 := cumY_lt (i := (y - 1900).toNat) (j := (y' - 1900).toNat) (by have := h.1; omega)
    have e : 1900 + (((y - 1900).toNat : Nat) : Int) = y := by have := h.1; omega
    rw [e] at k3
    unfold dayN; omega
  · have k3 := cumM_lt y (i := (m - 1).toNat) (j := (m' - 1).toNat) (by have := h.2.2.1; omega)
    have e : (((m - 1).toNat : Nat) : Int) + 1 = m := by have := h.2.2.1; omega
    rw [e] at k3
    have := h.2.2.2.2.2
    have := h'.2.2.2.2.1
    unfold dayN; omega
  · unfold dayN; omega
theorem isC_unique {n y m d y' m' d' : Int} (h : IsC n y m d) (h' : IsC n y' m' d') : y = y' ∧ m = m' ∧ d = d' := by
  obtain ⟨hv, hn⟩ := h
  obtain ⟨hv', hn'⟩ := h'
  rcases Int.lt_trichotomy y y' with h1 | h1 | h1
  · have := dayN_lt hv hv' (.inl h1); omega
  · rcases Int.lt_trichotomy m m' with h2 | h2 | h2
    · have := dayN_lt hv hv' (.inr ⟨h1, .inl h2⟩); omega
    · rcases Int.lt_trichotomy d d' with h3 | h3 | h3
      · have := dayN_lt hv hv' (.inr ⟨h1, .inr ⟨h2, h3⟩⟩); omega
      · exact ⟨h1, h2, h3⟩
      · have := dayN_lt hv' hv (.inr ⟨h1.symm, .inr ⟨h2.symm, h3⟩⟩); omega
    · have := dayN_lt hv' hv (.inr ⟨h1.symm, .inl h2⟩); omega
  · have := dayN_lt hv' hv (.inl h1); omega
/-- The next day. -/
def nextC (y m d : Int) : Int × Int × Int := if d < dim y m then (y, m, d + 1) else if m < 12 then (y, m + 1, 1) else (y + 1, 1, 1)
theorem isC_next {n y m d : Int} (h : IsC n y m d) (hn : n < 109573) : IsC (n + 1) (nextC y m d).1 (nextC y m d).2.1 (nextC y m d).2.2 := by
  obtain ⟨⟨h1, h2, h3, h4, h5, h6⟩, hd⟩ := h
  unfold nextC
  by_cases c1 : d < dim y m
  · rw [if_pos c1]
    exact ⟨⟨h1, h2, h3, h4, by simp only; omega, by simp only; omega⟩, by unfold dayN at *; simp only; omega⟩
  · rw [if_neg c1]
    by_cases c2 : m < 12
    · rw [if_pos c2]
      have := dim_pos y (m + 1)
      refine ⟨⟨h1, h2, by simp only; omega, by simp only; omega, by simp only; omega, by simp only; omega⟩, ?_⟩
      unfold dayN at *
      simp only
      have e : (m + 1 - 1).toNat = (m - 1).toNat + 1 := by omega
      have e2 : (((m - 1).toNat : Nat) : Int) + 1 = m := by omega
      rw [e, cumM, e2]
      omega
    · rw [if_neg c2]
      obtain rfl : m = 12 := by omega
      have hy : y < 2199 := by
        rcases Int.lt_or_le y 2199 with g | g
        · exact g
        · exfalso
          obtain rfl : y = 2199 := by omega
          have e : dim 2199 12 = 31 := by decide
          rw [e] at c1 h6
          obtain rfl : d = 31 := by omega
          have : dayN 2199 12 31 = 109573 := by decide +kernel
          omega
      have := dim_pos (y + 1) 1
      refine ⟨⟨by simp only; omega, by simp only; omega, by simp only; omega, by simp only; omega, by simp only; omega, by simp only; omega⟩, ?_⟩
      unfold dayN at *
      simp only
      have e : (y + 1 - 1900).toNat = (y - 1900).toNat + 1 := by omega
      have e2 : 1900 + (((y - 1900).toNat : Nat) : Int) = y := by omega
      have e3 : ((1 : Int) - 1).toNat = 0 := rfl
      have e4 : cumM (y + 1) 0 = 0 := rfl
      have e5 := cumM_all y
      have e6 : cumM y 12 = cumM y 11 + dim y 12 := rfl
      have e7 : ((12 : Int) - 1).toNat = 11 := rfl
      rw [e7] at hd
      rw [e, cumY, e2, e3, e4]
      omega
theorem isC_exists (k : Nat) : (k : Int) < 109573 → ∃ y m d, IsC ((k : Int) + 1) y m d := by
  induction k with
  | zero => exact fun _ => ⟨1900, 1, 1, by decide +kernel⟩
  | succ k ih =>
    intro h
    obtain ⟨y, m, d, hc⟩ := ih (by omega)
    have hx := isC_next hc (by omega)
    rw [show (k : Int) + 1 + 1 = ((k + 1 : Nat) : Int) + 1 by omega] at hx
    exact ⟨_, _, _, hx⟩
open Classical in
/-- The day of a number; zeros if it has none. -/
noncomputable def civ (n : Int) : Int × Int × Int := if h : ∃ t : Int × Int × Int, IsC n t.1 t.2.1 t.2.2 then h.choose else (0, 0, 0)
theorem civ_is {n y m d : Int} (h : IsC n y m d) : civ n = (y, m, d) := by
  have hex : ∃ t : Int × Int × Int, IsC n t.1 t.2.1 t.2.2 := ⟨(y, m, d), h⟩
  unfold civ
  rw [dif_pos hex]
  obtain ⟨e1, e2, e3⟩ := isC_unique hex.choose_spec h
  exact Prod.ext e1 (Prod.ext e2 e3)
theorem civ_no {n : Int} (h : ¬ (1 ≤ n ∧ n ≤ 109573)) : civ n = (0, 0, 0) := by
  unfold civ
  rw [dif_neg fun ⟨t, ht⟩ => h (valid_range ht)]
theorem civ_ok {n : Int} (h1 : 1 ≤ n) (h2 : n ≤ 109573) : IsC n (civ n).1 (civ n).2.1 (civ n).2.2 := by
  obtain ⟨y, m, d, hc⟩ := isC_exists (n - 1).toNat (by omega)
  rw [show (((n - 1).toNat : Nat) : Int) + 1 = n by omega] at hc
  rw [civ_is hc]; exact hc
end Go.Proofs.YtlphgipgdgoieaaDoor
