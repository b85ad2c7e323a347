/- What the rows hand the walks: internal/bytealg.MaxLen holds some int, out of the world's shape. -/
import Derived.Test.YtdjlfbfipkalbaaDoorWoQ3
import Derived.Test.YtdjlfbfipkalbaaDoorLawU
namespace Go.Proofs.YtdjlfbfipkalbaaDoor
open Go.RowKit

theorem max_of {W : World} (h : W.ShapedOpen Tryd.prog) : Laid W := Tryd.laysM146.s1_3 W h
/-- The seat's list. -/
abbrev laidL : List (String × DataW Unit) := Rows.wordsQuotesUptoRow.laid
end Go.Proofs.YtdjlfbfipkalbaaDoor
