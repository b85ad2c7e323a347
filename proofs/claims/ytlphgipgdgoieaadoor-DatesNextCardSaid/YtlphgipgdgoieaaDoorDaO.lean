/- The order of the texts of days: plain mathematics, of no program. -/
import Derived.Test.YtlphgipgdgoieaaDoorDaT
namespace Go.Proofs.YtlphgipgdgoieaaDoor

theorem dg_lt {a b : Nat} (ha : a < 10) (hb : b < 10) : dg a < dg b ↔ a < b := by
  rw [UInt8.lt_iff_toNat_lt, dg_nat ha, dg_nat hb]; omega
theorem dg_eq {a b : Nat} (ha : a < 10) (hb : b < 10) : dg a = dg b ↔ a = b := ⟨dg_inj ha hb, fun h => by rw [h]⟩
theorem lex2 {a b : Nat} (ha : a < 100) (hb : b < 100) (x y : List UInt8) : d2 a ++ x < d2 b ++ y ↔ a < b ∨ (a = b ∧ x < y) := by
  unfold d2
  simp only [List.cons_append, List.nil_append, List.cons_lt_cons_iff]
  rw [dg_lt (by omega) (by omega), dg_lt (by omega) (by omega), dg_eq (by omega) (by omega), dg_eq (by omega) (by omega)]
  by_cases h : x < y
  · simp only [h, and_true]; omega
  · simp only [h, and_false, or_false]; omega
theorem lex4 {a b : Nat} (ha : a < 10000) (hb : b < 10000) (x y : List UInt8) : d4 a ++ x < d4 b ++ y ↔ a < b ∨ (a = b ∧ x < y) := by
  unfold d4
  simp only [List.cons_append, List.nil_append, List.cons_lt_cons_iff]
  rw [dg_lt (by omega) (by omega), dg_lt (by omega) (by omega), dg_lt (by omega) (by omega), dg_lt (by omega) (by omega), dg_eq (by omega) (by omega), dg_eq (by omega) (by omega), dg_eq (by omega) (by omega), dg_eq (by omega) (by omega)]
  by_cases h : x < y
  · simp only [h, and_true]; omega
  · simp only [h, and_false, or_false]; omega
theorem lex_sep (x y : List UInt8) : (45 :: x : List UInt8) < 45 :: y ↔ x < y := by
  rw [List.cons_lt_cons_iff]
  constructor
  · rintro (h | h)
    · exact absurd h (by decide)
    · exact h.2
  · exact fun h => .inr ⟨rfl, h⟩
theorem txt_lt {y m d y' m' d' : Nat} (h1 : y < 10000) (h2 : m < 100) (h3 : d < 100) (k1 : y' < 10000) (k2 : m' < 100) (k3 : d' < 100) :
    txt y m d < txt y' m' d' ↔ (y < y' ∨ (y = y' ∧ (m < m' ∨ (m = m' ∧ d < d')))) := by
  unfold txt
  rw [lex4 h1 k1, lex_sep, lex2 h2 k2, lex_sep]
  have := lex2 h3 k3 [] []
  rw [List.append_nil, List.append_nil] at this
  rw [this]
  have hn : ¬ (([] : List UInt8) < []) := by simp
  simp only [hn, and_false, or_false]
/-- The texts of days have the order of the days. -/
theorem txtN_lt {a b : Int} (ha : 1 ≤ a ∧ a ≤ 109573) (hb : 1 ≤ b ∧ b ≤ 109573) : txtN a < txtN b ↔ a < b := by
  have ca := civ_ok ha.1 ha.2
  have cb := civ_ok hb.1 hb.2
  unfold txtN
  rw [if_pos ha, if_pos hb]
  obtain ⟨va, na⟩ := ca
  obtain ⟨vb, nb⟩ := cb
  have va' := va
  have vb' := vb
  obtain ⟨a1, a2, a3, a4, a5, a6⟩ := va'
  obtain ⟨b1, b2, b3, b4, b5, b6⟩ := vb'
  have da := (dim_pos (civ a).1 (civ a).2.1).2
  have db := (dim_pos (civ b).1 (civ b).2.1).2
  rw [txt_lt (by omega) (by omega) (by omega) (by omega) (by omega) (by omega)]
  constructor
  · intro h
    have := dayN_lt va vb (by omega)
    omega
  · intro h
    rcases Int.lt_trichotomy (civ a).1 (civ b).1 with g | g | g
    · left; omega
    · rcases Int.lt_trichotomy (civ a).2.1 (civ b).2.1 with g2 | g2 | g2
      · right; exact ⟨by omega, .inl (by omega)⟩
      · rcases Int.lt_trichotomy (civ a).2.2 (civ b).2.2 with g3 | g3 | g3
        · right; exact ⟨by omega, .inr ⟨by omega, by omega⟩⟩
        · exfalso
          have e : dayN (civ a).1 (civ a).2.1 (civ a).2.2 = dayN (civ b).1 (civ b).2.1 (civ b).2.2 := by rw [g, g2, g3]
          omega
        · exfalso; have := dayN_lt vb va (.inr ⟨g.symm, .inr ⟨g2.symm, g3⟩⟩); omega
      · exfalso; have := dayN_lt vb va (.inr ⟨g.symm, .inl g2⟩); omega
    · exfalso; have := dayN_lt vb va (.inl g); omega
theorem txtN_inj {a b : Int} (ha : 1 ≤ a ∧ a ≤ 109573) (hb : 1 ≤ b ∧ b ≤ 109573) : txtN a = txtN b ↔ a = b := by
  constructor
  · intro h
    have h1 := parR_txtN ha.1 ha.2
    have h2 := parR_txtN hb.1 hb.2
    rw [h, h2] at h1
    exact (Option.some.inj h1).symm
  · intro h; rw [h]
end Go.Proofs.YtlphgipgdgoieaaDoor
