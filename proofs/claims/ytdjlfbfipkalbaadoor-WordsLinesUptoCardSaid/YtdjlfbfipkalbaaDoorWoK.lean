/- internal/bytealg.MaxLen holds some int. -/
import Derived.Test.YtdjlfbfipkalbaaDoorBase
namespace Go.Proofs.YtdjlfbfipkalbaaDoor
open Go.RowKit

/-- What the walks ask of the world: internal/bytealg.MaxLen holds some int. -/
def Laid (w : World) : Prop := ∃ m : Int, w.cell? ⟨2, 0, none⟩ = some (.int .i64 m)
theorem Laid.below {W w : World} (h : Laid W) (hb : Below W.heap.size W w) : Laid w := by
  obtain ⟨m, e⟩ := h
  refine ⟨m, (hb.cell (p := ⟨2, 0, none⟩) ?_).trans e⟩
  rcases Nat.lt_or_ge 2 W.heap.size with h1 | h1
  · exact h1
  · exfalso
    unfold World.cell? at e
    rw [Array.getElem?_eq_none h1] at e
    simp at e
end Go.Proofs.YtdjlfbfipkalbaaDoor
