/- Slices of structs of plain fields, in general: k cells an element, 'enc1' the cells of an element. -/
import Derived.Test.YtofnbohcofgfkaaBase
import Derived.ProofKit
import Derived.OpenShut
import Derived.Lib.SmallJoins
import Derived.StringKeys
import Derived.Deep.Slices
import Derived.Deep.Onto
namespace Go.Proofs.Ytofnbohcofgfkaa
open Go.RowKit Go.ChangeShapes Go.WideShapes Go.ChangeAt Go.Joins Go.Deep

/-- A slice of structs reads as a list. -/
def Structs {α : Type} (k : Nat) (enc1 : α → List Value) (w : World) (A : Option Addr) (l : List α) : Prop :=
  ∀ i (h : i < l.length), ∃ ad, A = some ad ∧ ad.block < w.heap.size ∧ ∀ j v, (enc1 l[i])[j]? = some v → w.cell? (ad.add (i * k + j)) = some v

section
variable {α : Type} {k : Nat} {enc1 : α → List Value}
theorem Structs.below {w w' : World} {A : Option Addr} {l : List α} (h : Structs k enc1 w A l) (hb : Below w.heap.size w w') : Structs k enc1 w' A l := fun i hi => by
  obtain ⟨ad, e, hlt, hc⟩ := h i hi
  exact ⟨ad, e, Nat.lt_of_lt_of_le hlt hb.size, fun j v hv => (hb.cell (by rw [block_of_add]; exact hlt)).trans (hc j v hv)⟩
theorem Structs.alloc {w : World} {A : Option Addr} {l : List α} (h : Structs k enc1 w A l) (o : Obj) : Structs k enc1 (w.alloc o) A l := h.below ((Below.refl _ _).alloc (Nat.le_refl _) o)
theorem Structs.nil_ (w : World) (A : Option Addr) : Structs k enc1 w A ([] : List α) := fun i h => by simp at h
theorem Structs.take {w : World} {A : Option Addr} {l : List α} (h : Structs k enc1 w A l) (n : Nat) : Structs k enc1 w A (l.take n) := fun i hi => by
  have hi' : i < l.length := by rw [List.length_take] at hi; omega
  obtain ⟨ad, e, hlt, hc⟩ := h i hi'
  have e1 : (l.take n)[i] = l[i] := by simp
  rw [e1]
  exact ⟨ad, e, hlt, hc⟩
theorem Structs.drop {w : World} {ad : Addr} {l : List α} (h : Structs k enc1 w (some ad) l) (n : Nat) : Structs k enc1 w (some (ad.add (n * k))) (l.drop n) := fun i hi => by
  have hi' : n + i < l.length := by rw [List.length_drop] at hi; omega
  obtain ⟨ad', e, hlt, hc⟩ := h (n + i) hi'
  injection e with e
  subst e
  have e1 : (l.drop n)[i] = l[n + i] := by simp
  rw [e1]
  refine ⟨_, rfl, by rw [block_of_add]; exact hlt, fun j v hv => ?_⟩
  rw [add_of_add, show n * k + (i * k + j) = (n + i) * k + j by rw [Nat.add_mul]; omega]
  exact hc j v hv
theorem Structs.addr {w : World} {A : Option Addr} {l : List α} (h : Structs k enc1 w A l) (hl : 0 < l.length) : ∃ ad, A = some ad ∧ ad.block < w.heap.size := by
  obtain ⟨ad, e, hlt, _⟩ := h 0 hl
  exact ⟨ad, e, hlt⟩

theorem sspot_none {w : World} {a : Addr} {v : Value} (h : w.cell? a = some v) : a.spot = none := by
  cases hs : a.spot with
  | none => rfl
  | some i =>
    exfalso
    unfold World.cell? at h
    rw [hs] at h
    cases hb : w.heap[a.block]? with
    | none => rw [hb] at h; simp at h
    | some o => rw [hb] at h; cases o <;> simp at h

/-- The cells as the library's contracts ask them. -/
theorem Structs.rows [Inhabited α] {w : World} {A : Option Addr} {l : List α} (h : Structs k enc1 w A l) (hl : 0 < l.length) (hne : ∀ x : α, 0 < (enc1 x).length) : ∃ b off, A = some ⟨b, off, none⟩ ∧ b < w.heap.size ∧
    ∀ j, j < l.length → ∀ i v, (enc1 l[j]!)[i]? = some v → w.cell? ⟨b, off + j * k + i, none⟩ = some v := by
  obtain ⟨ad, rfl, hlt, hc⟩ := h 0 hl
  have c0 := hc 0 _ (List.getElem?_eq_getElem (hne l[0]))
  rw [show 0 * k + 0 = 0 by omega, show ad.add 0 = ad by unfold Addr.add; simp] at c0
  have hs := sspot_none c0
  obtain ⟨b, off, sp⟩ := ad
  simp only at hs
  subst hs
  refine ⟨b, off, rfl, hlt, fun j hj i v hv => ?_⟩
  obtain ⟨ad', e, _, hd⟩ := h j hj
  injection e with e
  subst e
  have hg : l[j]! = l[j] := by simp [hj]
  rw [hg] at hv
  have := hd i v hv
  rw [show (⟨b, off, none⟩ : Addr).add (j * k + i) = ⟨b, off + (j * k + i), none⟩ by unfold Addr.add; split <;> simp_all, ← Nat.add_assoc] at this
  exact this
end

section
variable {H : Type} {enc : TypeId × Value → H} {P : Program} {α : Type} [Inhabited α]
/-- An argument that is a slice of structs: 'hel' says what an element's cells are. -/
theorem open_structs {t te : TypeId} {k : Nat} {enc1 : α → List Value} {OK : α → Prop} (ht : P.underlying t = some (.slice te)) (ce : P.cellsOf te = k) (hk : 0 < k)
    {W : World} {base : Nat} {r : Reach} {v : Value} {d : DataW H} {p : List MemPlace} (hel : ∀ n cs x, DataW.trod enc P W 0 (fun _ => true) true n te cs = some x → (∀ y ∈ x.2, y.block < W.heap.size) → ∃ a, cs = enc1 a ∧ OK a)
    (hv : Value.okWide P W r base t v) (h : DataW.Trod enc P W 0 (fun _ => true) true t v d p) (hp : ∀ x ∈ p, x.block < W.heap.size) :
    ∃ A l cap, v = .slice A l.length cap ∧ l.length ≤ maxLen ∧ l.length ≤ cap ∧ Structs k enc1 W A l ∧ ∀ a ∈ l, OK a := by
  obtain ⟨a0, len0, cap0, rfl⟩ := okWide_slice ht hv
  obtain ⟨fuel, hf⟩ := h
  rcases open_slice ht hf with ⟨hcs, _⟩ | ⟨a, len, cap, m, n, D, Pl, hcs, _, hl, hm, hmm, hx, hall⟩
  · simp [Value.cells] at hcs
    obtain ⟨rfl, rfl, rfl⟩ := hcs
    exact ⟨none, [], 0, rfl, by simp, by simp, Structs.nil_ _ _, fun a ha => by simp at ha⟩
  · simp [Value.cells] at hcs
    obtain ⟨rfl, rfl, rfl⟩ := hcs
    simp only [if_true] at hmm
    simp only [Prod.mk.injEq] at hx
    obtain ⟨_, rfl⟩ := hx
    have key : ∀ i, ∃ q : α, i < len0 → a.block < W.heap.size ∧ OK q ∧ ∀ j v, (enc1 q)[j]? = some v → W.cell? (a.add (i * k + j)) = some v := by
      intro i
      by_cases hi2 : i < len0
      · obtain ⟨cs', e1, e2⟩ := hall i (by omega)
        rw [ce] at e1
        obtain ⟨_, hlen, hcell⟩ := World.cells?_some e1
        obtain ⟨q, rfl, ok⟩ := hel n cs' _ e2 (fun y hy => hp y (List.mem_append.2 (.inr (List.mem_flatMap.2 ⟨i, List.mem_range.2 (by omega), hy⟩))))
        refine ⟨q, fun _ => ⟨?_, ok, fun j v hv => ?_⟩⟩
        · exact hp (.cell a.block a.off) (List.mem_append.2 (.inl (MemPlace.mem_row.2 ⟨0, by rw [ce]; exact Nat.mul_pos (by omega) hk, by simp⟩)))
        · have hj : j < (enc1 q).length := by
            rcases Nat.lt_or_ge j (enc1 q).length with h1 | h1
            · exact h1
            · rw [List.getElem?_eq_none h1] at hv; cases hv
          have := hcell j (by omega)
          rw [add_of_add] at this
          rw [this]
          simpa using hv
      · exact ⟨default, fun h => absurd h hi2⟩
    obtain ⟨f, hfq⟩ := Classical.axiomOfChoice key
    have hlen : ((List.range len0).map f).length = len0 := by simp
    refine ⟨some a, (List.range len0).map f, cap0, by rw [hlen], by rw [hlen]; omega, by rw [hlen]; omega, fun i hi2 => ?_, fun q hq => ?_⟩
    · rw [hlen] at hi2
      obtain ⟨g0, _, g1⟩ := hfq i hi2
      have e : ((List.range len0).map f)[i] = f i := by simp
      rw [e]
      exact ⟨a, rfl, g0, g1⟩
    · obtain ⟨i, hi, rfl⟩ := List.mem_map.1 hq
      exact (hfq i (List.mem_range.1 hi)).2.1
end
end Go.Proofs.Ytofnbohcofgfkaa
