/- Arguments opened: spans, a span. -/
import Derived.Test.YtofnbohcofgfkaaSpC
import Derived.Test.YtofnbohcofgfkaaLaw
namespace Go.Proofs.Ytofnbohcofgfkaa
open Go.RowKit Go.ChangeShapes Go.WideShapes Go.ChangeAt Go.Joins Go.Deep

section
variable {H : Type} {enc : TypeId × Value → H} {P : Program}
theorem el_span {te ti : TypeId} {f0 f1 : Field} (he : P.underlying te = some (.struct #[f0, f1])) (ce : P.cellsOf te = 2) (o0 : f0.offset = 0) (o1 : f1.offset = 1)
    (h0 : f0.type = ti) (h1 : f1.type = ti) (ki : P.cellsOf ti = 1) (ui : P.underlying ti = some (.int .i64))
    {W : World} : ∀ n cs x, DataW.trod enc P W 0 (fun _ => true) true n te cs = some x → (∀ y ∈ x.2, y.block < W.heap.size) → ∃ a, cs = encS a ∧ True := by
  intro n cs x h _
  obtain ⟨xs, k, hk, hxy, hlen, hxl, hfi⟩ := DataW.trod_struct he h
  rw [ce] at hlen
  match xs, hxl, cs, hlen with
  | [y0, y1], _, [v0, v1], _ =>
    have g0 := hfi 0 f0 rfl
    have g1 := hfi 1 f1 rfl
    simp [o0, o1, h0, h1, ki] at g0 g1
    obtain ⟨x0, e0, _, w0⟩ := DataW.trod_int ui g0
    obtain ⟨x1, e1, _, w1⟩ := DataW.trod_int ui g1
    simp at e0 e1
    subst e0 e1
    exact ⟨⟨x0, x1⟩, rfl, trivial⟩
end
end Go.Proofs.Ytofnbohcofgfkaa
