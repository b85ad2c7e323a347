/- internal/bytealg.MaxLen holds some int: out of the world's shape. -/
import Derived.Test.YtlphgipgdgoieaaDoorDaW
import Derived.Test.YtlphgipgdgoieaaDoorLawSh
namespace Go.Proofs.YtlphgipgdgoieaaDoor
open Go.RowKit

theorem max_of {W : World} (h : W.ShapedOpen Tryd.prog) : ∃ m : Int, W.cell? ⟨1, 0, none⟩ = some (.int .i64 m) := Tryd.laysM147.s1_3 W h
end Go.Proofs.YtlphgipgdgoieaaDoor
