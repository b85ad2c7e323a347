/- An argument that is a slice of structs of a number and a slice of bytes, opened. -/
import Derived.Test.YtefjjjclgcidnaaLawE
import Derived.Test.YtefjjjclgcidnaaFrCM
import Derived.Deep.SlicePairs
namespace Go.Proofs.Ytefjjjclgcidnaa
open Go.RowKit Go.ChangeShapes Go.WideShapes Go.ChangeAt Go.Joins Go.Deep

section
variable {H : Type} {enc : TypeId × Value → H} {P : Program}

/-- A cell that is a slice of bytes. -/
theorem cell_Bytes {t e : TypeId} (ht : P.underlying t = some (.slice e)) (he : P.underlying e = some (.int .u8)) (hc : P.cellsOf e = 1) {W : World} {fuel : Nat} {v : Value} {y : DataW H × List MemPlace}
    (hf : DataW.trod enc P W 0 (fun _ => true) true fuel t [v] = some y) (hp : ∀ x ∈ y.2, x.block < W.heap.size) :
    ∃ A l cap, v = .slice A l.length cap ∧ l.length ≤ maxLen ∧ Bytes W A l := by
  rcases open_ints ht he hc hf with ⟨hcs, hx⟩ | ⟨a, len, cap, zs, hcs, _, hl, hm, hz, hx, hcell, hwz⟩
  · simp at hcs
    subst hcs
    exact ⟨none, [], 0, rfl, by simp, Bytes.nil_ _ _⟩
  · simp at hcs
    subst hcs
    subst hx
    simp only [if_true] at hz
    have hlen : ((zs.take len).map fun z => UInt8.ofNat z.toNat).length = len := by rw [List.length_map, List.length_take]; omega
    refine ⟨some a, (zs.take len).map fun z => UInt8.ofNat z.toNat, cap, by rw [hlen], by rw [hlen]; omega, ⟨by simp, fun hn => ⟨a, rfl, ?_, fun j u hu => ?_⟩⟩⟩
    · exact hp (.cell a.block a.off) (MemPlace.mem_row.2 ⟨0, by rw [hlen] at hn; omega, by simp⟩)
    · have hj : j < len := by
        rcases Nat.lt_or_ge j len with h1 | h1
        · exact h1
        · rw [List.getElem?_eq_none (by rw [List.length_map, hlen]; exact h1)] at hu; cases hu
      have hw := hwz zs[j] (List.getElem_mem (by omega))
      simp [Lit.wf, IntKind.min, IntKind.max, IntKind.signed, IntKind.bits] at hw
      rw [hcell j (by omega)]
      rw [List.getElem?_map, List.getElem?_map, List.getElem?_take, if_pos hj, List.getElem?_eq_getElem (by omega)] at hu
      rw [List.getD_eq_getElem?_getD, List.getElem?_eq_getElem (by omega)]
      simp only [Option.map_some, Option.some.injEq, Option.getD_some] at hu ⊢
      rw [← hu]
      congr 1
      have : (UInt8.ofNat (zs[j]).toNat).toNat = (zs[j]).toNat := by simp; omega
      rw [this]
      omega

theorem open_parts {t te ti tb tu : TypeId} {f0 f1 : Field} (ht : P.underlying t = some (.slice te)) (he : P.underlying te = some (.struct #[f0, f1])) (ce : P.cellsOf te = 2) (o0 : f0.offset = 0) (o1 : f1.offset = 1) (k0 : P.cellsOf f0.type = 1) (k1 : P.cellsOf f1.type = 1)
    (h0 : f0.type = ti) (h1 : f1.type = tb) (hi : P.underlying ti = some (.int .i64)) (hb : P.underlying tb = some (.slice tu)) (hu : P.underlying tu = some (.int .u8)) (hc : P.cellsOf tu = 1)
    {W : World} {base : Nat} {r : Reach} {v : Value} {d : DataW H} {p : List MemPlace} (hv : Value.okWide P W r base t v) (h : DataW.Trod enc P W 0 (fun _ => true) true t v d p) (hp : ∀ x ∈ p, x.block < W.heap.size) :
    ∃ A ps cap, v = .slice A ps.length cap ∧ ps.length ≤ maxLen ∧ Parts W A ps := by
  obtain ⟨a0, len0, cap0, rfl⟩ := okWide_slice ht hv
  obtain ⟨fuel, hf⟩ := h
  rcases open_slice_pairs ht he ce o0 o1 k0 k1 hf with ⟨hcs, _⟩ | ⟨a, len, cap, m, n, V0, V1, D0, D1, P0, P1, hcs, _, hl, hm, hmm, hx, hall⟩
  · simp [Value.cells] at hcs
    obtain ⟨rfl, rfl, rfl⟩ := hcs
    exact ⟨none, [], 0, rfl, by simp, fun i h => by simp at h⟩
  · simp [Value.cells] at hcs
    obtain ⟨rfl, rfl, rfl⟩ := hcs
    simp only [if_true] at hmm
    simp only [Prod.mk.injEq] at hx
    obtain ⟨_, rfl⟩ := hx
    have key : ∀ i, ∃ q : Int × List UInt8, i < len0 → ∃ B cb, a.block < W.heap.size ∧ W.cell? (a.add (i * 2)) = some (.int .i64 q.1) ∧ W.cell? (a.add (i * 2 + 1)) = some (.slice B q.2.length cb) ∧ Bytes W B q.2 ∧ Fits q.1 := by
      intro i
      by_cases hi2 : i < len0
      · obtain ⟨e0, e1, t0, t1⟩ := hall i (by omega)
        rw [h0] at t0
        rw [h1] at t1
        obtain ⟨x, ex, _, wx⟩ := DataW.trod_int hi t0
        have hpl : ∀ y ∈ P1 i, y.block < W.heap.size := fun y hy => hp y (by
          refine List.mem_append.2 (.inr (List.mem_flatMap.2 ⟨i, List.mem_range.2 (by omega), ?_⟩))
          simp [hy])
        obtain ⟨B, l, cb, hB, _, hY⟩ := cell_Bytes hb hu hc t1 hpl
        simp at ex
        rw [ex] at e0
        rw [hB] at e1
        simp [Lit.wf, IntKind.min, IntKind.max, IntKind.signed, IntKind.bits] at wx
        refine ⟨(x, l), fun _ => ⟨B, cb, ?_, e0, e1, hY, by omega, by omega⟩⟩
        exact hp (.cell a.block a.off) (List.mem_append.2 (.inl (MemPlace.mem_row.2 ⟨0, by omega, by simp⟩)))
      · exact ⟨(0, []), fun h => absurd h hi2⟩
    obtain ⟨f, hfq⟩ := Classical.axiomOfChoice key
    have hlen : ((List.range len0).map f).length = len0 := by simp
    refine ⟨some a, (List.range len0).map f, cap0, by rw [hlen], by rw [hlen]; omega, fun i hi2 => ?_⟩
    rw [hlen] at hi2
    obtain ⟨B, cb, g0, g1, g2, g3, g4⟩ := hfq i hi2
    have e : ((List.range len0).map f)[i] = f i := by simp
    rw [e]
    exact ⟨a, B, cb, rfl, g0, g1, g2, g3, g4⟩
end
end Go.Proofs.Ytefjjjclgcidnaa
