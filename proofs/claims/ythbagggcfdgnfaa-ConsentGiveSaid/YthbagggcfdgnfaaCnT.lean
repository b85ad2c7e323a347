/- Persons and consents: their cells; slices of them as arguments. -/
import Derived.Test.YthbagggcfdgnfaaStr
namespace Go.Proofs.Ythbagggcfdgnfaa
open Go.RowKit Go.ChangeShapes Go.WideShapes Go.ChangeAt Go.Joins Go.Deep

/-- A person: an Id, a name, whether a member. -/
structure Pn where
  id : Int
  nm : List UInt8
  mb : Bool
instance : Inhabited Pn := ⟨⟨0, [], false⟩⟩
def encP (x : Pn) : List Value := [.int .i64 x.id, .string ⟨x.nm.toArray⟩, .bool x.mb]
def OkP (x : Pn) : Prop := Fits x.id ∧ x.nm.length ≤ maxLen
/-- A consent: a person, a recording, a day, a kind. -/
structure Cn where
  p : Int
  r : Int
  d : Int
  k : Int
instance : Inhabited Cn := ⟨⟨0, 0, 0, 0⟩⟩
def encC (x : Cn) : List Value := [.int .i64 x.p, .int .i64 x.r, .int .i64 x.d, .int .i64 x.k]
def OkC (x : Cn) : Prop := Fits x.p ∧ Fits x.r ∧ Fits x.d ∧ Fits x.k

abbrev People (w : World) (A : Option Addr) (l : List Pn) : Prop := Structs 3 encP w A l
abbrev Cons (w : World) (A : Option Addr) (l : List Cn) : Prop := Structs 4 encC w A l

theorem add_plus (a : Addr) (m j : Nat) (hj : j ≠ 0) : a.add (m + j) = ⟨(a.add m).block, (a.add m).off + j, none⟩ := by
  unfold Addr.add
  by_cases hm : m = 0 <;> simp [hm, hj, Nat.add_assoc]
theorem People.cells {w : World} {A : Option Addr} {l : List Pn} (h : People w A l) {i : Nat} (hi : i < l.length) : ∃ ad, A = some ad ∧ ad.block < w.heap.size ∧ w.cell? (ad.add (i * 3)) = some (.int .i64 l[i].id) ∧
    w.cell? ⟨(ad.add (i * 3)).block, (ad.add (i * 3)).off + 1, none⟩ = some (.string ⟨l[i].nm.toArray⟩) ∧ w.cell? ⟨(ad.add (i * 3)).block, (ad.add (i * 3)).off + 2, none⟩ = some (.bool l[i].mb) := by
  obtain ⟨ad, e, hlt, hc⟩ := h i hi
  refine ⟨ad, e, hlt, hc 0 _ rfl, ?_, ?_⟩
  · rw [← add_plus _ _ _ (by decide)]; exact hc 1 _ rfl
  · rw [← add_plus _ _ _ (by decide)]; exact hc 2 _ rfl
theorem Cons.cells {w : World} {A : Option Addr} {l : List Cn} (h : Cons w A l) {i : Nat} (hi : i < l.length) : ∃ ad, A = some ad ∧ ad.block < w.heap.size ∧ w.cell? (ad.add (i * 4)) = some (.int .i64 l[i].p) ∧
    w.cell? ⟨(ad.add (i * 4)).block, (ad.add (i * 4)).off + 1, none⟩ = some (.int .i64 l[i].r) ∧ w.cell? ⟨(ad.add (i * 4)).block, (ad.add (i * 4)).off + 2, none⟩ = some (.int .i64 l[i].d) ∧
    w.cell? ⟨(ad.add (i * 4)).block, (ad.add (i * 4)).off + 3, none⟩ = some (.int .i64 l[i].k) := by
  obtain ⟨ad, e, hlt, hc⟩ := h i hi
  refine ⟨ad, e, hlt, hc 0 _ rfl, ?_, ?_, ?_⟩
  · rw [← add_plus _ _ _ (by decide)]; exact hc 1 _ rfl
  · rw [← add_plus _ _ _ (by decide)]; exact hc 2 _ rfl
  · rw [← add_plus _ _ _ (by decide)]; exact hc 3 _ rfl

section
variable {H : Type} {enc : TypeId × Value → H} {P : Program}
theorem el_person {te ti ts tb : TypeId} {f0 f1 f2 : Field} (he : P.underlying te = some (.struct #[f0, f1, f2])) (ce : P.cellsOf te = 3) (o0 : f0.offset = 0) (o1 : f1.offset = 1) (o2 : f2.offset = 2)
    (h0 : f0.type = ti) (h1 : f1.type = ts) (h2 : f2.type = tb) (ki : P.cellsOf ti = 1) (ks : P.cellsOf ts = 1) (kb : P.cellsOf tb = 1) (ui : P.underlying ti = some (.int .i64)) (us : P.underlying ts = some .string) (ub : P.underlying tb = some .bool)
    {W : World} : ∀ n cs x, DataW.trod enc P W 0 (fun _ => true) true n te cs = some x → (∀ y ∈ x.2, y.block < W.heap.size) → ∃ a, cs = encP a ∧ OkP a := by
  intro n cs x h _
  obtain ⟨xs, k, hk, hxy, hlen, hxl, hfi⟩ := DataW.trod_struct he h
  rw [ce] at hlen
  match xs, hxl, cs, hlen with
  | [y0, y1, y2], _, [v0, v1, v2], _ =>
    have g0 := hfi 0 f0 rfl
    have g1 := hfi 1 f1 rfl
    have g2 := hfi 2 f2 rfl
    simp [o0, o1, o2, h0, h1, h2, ki, ks, kb] at g0 g1 g2
    obtain ⟨x0, e0, _, w0⟩ := DataW.trod_int ui g0
    obtain ⟨s, e1, _, w1⟩ := DataW.trod_string us g1
    obtain ⟨b, e2, _⟩ := DataW.trod_bool ub g2
    simp at e0 e1 e2
    subst e0 e1 e2
    simp [Lit.wf, IntKind.min, IntKind.max, IntKind.signed, IntKind.bits] at w0
    have f0' : Fits x0 := ⟨by omega, by omega⟩
    have f1' : s.data.toList.length ≤ maxLen := by rw [Array.length_toList]; exact w1
    exact ⟨⟨x0, s.data.toList, b⟩, rfl, f0', f1'⟩

theorem el_consent {te ti : TypeId} {f0 f1 f2 f3 : Field} (he : P.underlying te = some (.struct #[f0, f1, f2, f3])) (ce : P.cellsOf te = 4) (o0 : f0.offset = 0) (o1 : f1.offset = 1) (o2 : f2.offset = 2) (o3 : f3.offset = 3)
    (h0 : f0.type = ti) (h1 : f1.type = ti) (h2 : f2.type = ti) (h3 : f3.type = ti) (ki : P.cellsOf ti = 1) (ui : P.underlying ti = some (.int .i64))
    {W : World} : ∀ n cs x, DataW.trod enc P W 0 (fun _ => true) true n te cs = some x → (∀ y ∈ x.2, y.block < W.heap.size) → ∃ a, cs = encC a ∧ OkC a := by
  intro n cs x h _
  obtain ⟨xs, k, hk, hxy, hlen, hxl, hfi⟩ := DataW.trod_struct he h
  rw [ce] at hlen
  match xs, hxl, cs, hlen with
  | [y0, y1, y2, y3], _, [v0, v1, v2, v3], _ =>
    have g0 := hfi 0 f0 rfl
    have g1 := hfi 1 f1 rfl
    have g2 := hfi 2 f2 rfl
    have g3 := hfi 3 f3 rfl
    simp [o0, o1, o2, o3, h0, h1, h2, h3, ki] at g0 g1 g2 g3
    obtain ⟨x0, e0, _, w0⟩ := DataW.trod_int ui g0
    obtain ⟨x1, e1, _, w1⟩ := DataW.trod_int ui g1
    obtain ⟨x2, e2, _, w2⟩ := DataW.trod_int ui g2
    obtain ⟨x3, e3, _, w3⟩ := DataW.trod_int ui g3
    simp at e0 e1 e2 e3
    subst e0 e1 e2 e3
    simp [Lit.wf, IntKind.min, IntKind.max, IntKind.signed, IntKind.bits] at w0 w1 w2 w3
    have f0' : Fits x0 := ⟨by omega, by omega⟩
    have f1' : Fits x1 := ⟨by omega, by omega⟩
    have f2' : Fits x2 := ⟨by omega, by omega⟩
    have f3' : Fits x3 := ⟨by omega, by omega⟩
    exact ⟨⟨x0, x1, x2, x3⟩, rfl, f0', f1', f2', f3'⟩
end
end Go.Proofs.Ythbagggcfdgnfaa
