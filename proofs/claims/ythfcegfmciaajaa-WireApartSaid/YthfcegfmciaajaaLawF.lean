/- An argument that is a struct of a number, a string and a list of numbers, opened. -/
import Derived.Test.YthfcegfmciaajaaLawE
namespace Go.Proofs.Ythfcegfmciaajaa
open Go.RowKit Go.ChangeShapes Go.WideShapes Go.ChangeAt Go.Joins Go.Deep

section
variable {H : Type} {enc : TypeId × Value → H} {P : Program}

/-- A cell that is a slice of ints. -/
theorem cell_Ints {t e : TypeId} (ht : P.underlying t = some (.slice e)) (he : P.underlying e = some (.int .i64)) (hc : P.cellsOf e = 1) {W : World} {fuel : Nat} {v : Value} {y : DataW H × List MemPlace}
    (hf : DataW.trod enc P W 0 (fun _ => true) true fuel t [v] = some y) (hp : ∀ x ∈ y.2, x.block < W.heap.size) :
    ∃ A l cap, v = .slice A l.length cap ∧ Ints W A l ∧ Fit l ∧ l.length ≤ maxLen := by
  rcases open_ints ht he hc hf with ⟨hcs, hx⟩ | ⟨a, len', cap', zs, hcs, _, hl, hm, hz, hx, hcell, hwz⟩
  · simp at hcs
    subst hcs
    exact ⟨none, [], 0, rfl, Ints.nil_ _ _, fun x hx => by simp at hx, by simp⟩
  · simp at hcs
    subst hcs
    subst hx
    simp only [if_true] at hz
    have hlen : (zs.take len').length = len' := by rw [List.length_take]; omega
    refine ⟨some a, zs.take len', cap', by rw [hlen], ⟨by simp, fun hn => ⟨a, rfl, ?_, fun j u hu => ?_⟩⟩, fun x hx => ?_, by rw [hlen]; omega⟩
    · have := hp (.cell a.block a.off) (MemPlace.mem_row.2 ⟨0, by omega, by simp⟩)
      exact this
    · have hj : j < len' := by
        rcases Nat.lt_or_ge j len' with h1 | h1
        · exact h1
        · rw [List.getElem?_eq_none (by simp; omega)] at hu; cases hu
      rw [hcell j (by omega)]
      rw [List.getElem?_map, List.getElem?_take, if_pos hj, List.getElem?_eq_getElem (by omega)] at hu
      rw [List.getD_eq_getElem?_getD, List.getElem?_eq_getElem (by omega)]
      simpa using hu
    · have hw := hwz x (List.mem_of_mem_take hx)
      simp [Lit.wf, IntKind.min, IntKind.max, IntKind.signed, IntKind.bits] at hw
      exact ⟨by omega, by omega⟩

theorem open_thing {t ti ts tl te : TypeId} {f0 f1 f2 : Field} (hs : P.underlying t = some (.struct #[f0, f1, f2])) (hone : oneCellFields P #[f0, f1, f2] = true) (hC : P.cellsOf t = 3) (h0 : f0.type = ti) (h1 : f1.type = ts) (h2 : f2.type = tl)
    (hi : P.underlying ti = some (.int .i64)) (hst : P.underlying ts = some .string) (hl : P.underlying tl = some (.slice te)) (he : P.underlying te = some (.int .i64)) (hc : P.cellsOf te = 1)
    {W : World} {base : Nat} {r : Reach} {v : Value} {d : DataW H} {p : List MemPlace} (hv : Value.okWide P W r base t v) (h : DataW.Trod enc P W 0 (fun _ => true) true t v d p) (hp : ∀ x ∈ p, x.block < W.heap.size) :
    ∃ (n : Int) (s : List UInt8) (A : Option Addr) (l : List Int) (cap : Nat), v = .agg #[.int .i64 n, .string ⟨s.toArray⟩, .slice A l.length cap] ∧ Fits n ∧ s.length ≤ maxLen ∧ Ints W A l ∧ Fit l ∧ l.length ≤ maxLen := by
  obtain ⟨v0, v1, v2, y0, y1, y2, n, rfl, _, rfl, k0, k1, k2⟩ := open_agg3 hs hone hC hv h
  rw [h0] at k0
  rw [h1] at k1
  rw [h2] at k2
  obtain ⟨a, e0, _, wa⟩ := DataW.trod_int hi k0
  obtain ⟨s, e1, _, hsl⟩ := DataW.trod_string hst k1
  obtain ⟨A, l, cap, rfl, hI, hF, hL⟩ := cell_Ints hl he hc k2 (fun x hx => hp x (by simp [hx]))
  simp at e0 e1
  subst e0 e1
  simp [Lit.wf, IntKind.min, IntKind.max, IntKind.signed, IntKind.bits] at wa
  exact ⟨a, s.data.toList, A, l, cap, rfl, ⟨by omega, by omega⟩, by simpa using hsl, hI, hF, hL⟩

/-- An argument that is a uint16. -/
theorem open_u16 {t : TypeId} (ht : P.underlying t = some (.int .u16)) {W : World} {base : Nat} {r : Reach} {v : Value} {d : DataW H} {p : List MemPlace}
    (hv : Value.okWide P W r base t v) (h : DataW.Trod enc P W 0 (fun _ => true) true t v d p) : ∃ x : Nat, v = .int .u16 (x : Int) ∧ x < 65536 := by
  obtain ⟨n, rfl, _, _, hw⟩ := open_int ht hv h
  simp [Lit.wf, IntKind.min, IntKind.max, IntKind.signed, IntKind.bits] at hw
  exact ⟨n.toNat, by rw [Int.toNat_of_nonneg (by omega)], by omega⟩
end
end Go.Proofs.Ythfcegfmciaajaa
