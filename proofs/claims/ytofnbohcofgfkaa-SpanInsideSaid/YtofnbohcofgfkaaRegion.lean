/- A region that draws its order, under a condition that may grow. -/
import Derived.Test.YtofnbohcofgfkaaBase
import Derived.Deep.RegionHeld3
namespace Go.Proofs.Ytofnbohcofgfkaa
open Go.RowKit

/-- The condition may be made stronger on the way. -/
theorem wpAnyH_mono {P : Program} {md : Region.Mode} {ops : Array Oper} {Q : Exit → Act → World → Prop} {S S' : World → Prop} (h : ∀ w, S' w → S w) :
    ∀ (fuel : Nat) (listed : Array Bool) (a : Act) (w : World), wpAnyH P md ops Q S' fuel listed a w → wpAnyH P md ops Q S fuel listed a w
  | 0, _, _, _, k => k
  | fuel + 1, _, _, _, k => ⟨k.1, fun i hi => wpOp_mono (fun _ _ m => ⟨h _ m.1, wpAnyH_mono h fuel _ _ _ m.2⟩) (k.2 i hi)⟩
end Go.Proofs.Ytofnbohcofgfkaa
