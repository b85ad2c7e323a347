/- What the rows hand the walks: utf8's two tables, out of the seat's list. -/
import Derived.Test.YtmgdeckooiblaaaDoorRuY
import Derived.Test.YtmgdeckooiblaaaDoorLawSh
import Derived.Test.YtmgdeckooiblaaaDoorLawK
import Derived.Test.YtmgdeckooiblaaaDoorTie
import Derived.PinnedBridge
import Derived.LaidHandle
import Derived.MakeChecks
import Derived.LaidMore
namespace Go.Proofs.YtmgdeckooiblaaaDoor
open Go.RowKit Go.Shelf

/-- The seat's list. -/
abbrev laidL : List (String × DataW Unit) := Rows.runesPointsRow.laid
theorem laid_of {W : World} (h : laidMetH Tryd.prog laidL W) : Laid W := by
  rw [MakeChecks.laidMetH_plain _ _ _ (by kernel_rfl)] at h
  exact utf8Tabs_of_readsT (U8Types.of196 Tryd.laysValid) ⟨by kernel_rfl, by kernel_rfl, by kernel_rfl, by kernel_rfl, by kernel_rfl, by kernel_rfl, by kernel_rfl⟩ (Pinned.utf8First_eq ▸ Lib.laidMet.reads h (.tail _ (.head _))) (Lib.laidMet.reads h (.head _))
end Go.Proofs.YtmgdeckooiblaaaDoor
