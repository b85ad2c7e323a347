/- What the listed package variables hold, out of the row's condition (layer 08); facts that last while the call only makes memory. -/
import Derived.Test.YtlphgipgdgoieaaDoorBase
import Derived.Lib.LaidTab
import Derived.Lib.ItoaNum
import Derived.Stop.LaidErr
import Derived.MakeChecks
namespace Go.Proofs.YtlphgipgdgoieaaDoor
open Go.RowKit

/-- What the listed variables hold. -/
structure Laid (w : World) : Prop where
  pow : Lib.TabIs Tryd.prog w "internal/strconv.uint64pow10" .u64 Lib.pow10Tab
  rng : ∃ tp p, w.var? Tryd.prog "strconv.ErrRange" = some #[.iface tp p]
  syn : ∃ tp p, w.var? Tryd.prog "strconv.ErrSyntax" = some #[.iface tp p]
  mon : Lib.TabIs Tryd.prog w "langdoc/dates.monthDays" .i64 [31, 28, 31, 30, 31, 30, 31, 31, 30, 31, 30, 31]
  max : ∃ m : Int, w.cell? ⟨1, 0, none⟩ = some (.int .i64 m)

theorem var?_below {P : Program} {W w : World} {n : String} {cs : Array Value} (hb : Below W.heap.size W w) (h : W.var? P n = some cs) : w.var? P n = some cs := by
  unfold World.var? at h ⊢
  cases hg : P.globalNamed n with
  | none => simp [hg] at h
  | some g =>
    simp only [hg, Option.bind_some] at h ⊢
    have hlt : g < W.heap.size := by
      rcases Nat.lt_or_ge g W.heap.size with h' | h'
      · exact h'
      · simp [Array.getElem?_eq_none h'] at h
    rw [hb.block g hlt]
    exact h

theorem Laid.below {W w : World} (h : Laid W) (hb : Below W.heap.size W w) : Laid w where
  pow := var?_below hb h.pow
  rng := let ⟨a, b, e⟩ := h.rng; ⟨a, b, var?_below hb e⟩
  syn := let ⟨a, b, e⟩ := h.syn; ⟨a, b, var?_below hb e⟩
  mon := var?_below hb h.mon
  max := let ⟨m, e⟩ := h.max; ⟨m, (hb.cell (p := ⟨1, 0, none⟩) (by
    rcases Nat.lt_or_ge 1 W.heap.size with h1 | h1
    · exact h1
    · exfalso
      unfold World.cell? at e
      rw [Array.getElem?_eq_none h1] at e
      simp at e)).trans e⟩

/-- The table of the months, cell by cell. -/
theorem mday_cells {w : World} (hL : Laid w) :
    w.cell? ⟨0, 0, none⟩ = some (.int .i64 31) ∧ w.cell? ⟨0, 1, none⟩ = some (.int .i64 28) ∧ w.cell? ⟨0, 2, none⟩ = some (.int .i64 31) ∧ w.cell? ⟨0, 3, none⟩ = some (.int .i64 30) ∧
    w.cell? ⟨0, 4, none⟩ = some (.int .i64 31) ∧ w.cell? ⟨0, 5, none⟩ = some (.int .i64 30) ∧ w.cell? ⟨0, 6, none⟩ = some (.int .i64 31) ∧ w.cell? ⟨0, 7, none⟩ = some (.int .i64 31) ∧
    w.cell? ⟨0, 8, none⟩ = some (.int .i64 30) ∧ w.cell? ⟨0, 9, none⟩ = some (.int .i64 31) ∧ w.cell? ⟨0, 10, none⟩ = some (.int .i64 30) ∧ w.cell? ⟨0, 11, none⟩ = some (.int .i64 31) := by
  have c := fun (i : Nat) (hi : i < 12) => hL.mon.cell (by kernel_rfl : (Tryd.prog).globalNamed "langdoc/dates.monthDays" = some 0) i hi
  exact ⟨c 0 (by decide), c 1 (by decide), c 2 (by decide), c 3 (by decide), c 4 (by decide), c 5 (by decide), c 6 (by decide), c 7 (by decide), c 8 (by decide), c 9 (by decide), c 10 (by decide), c 11 (by decide)⟩

theorem star : "*" ++ "errors.errorString" = "*errors.errorString" := by decide
theorem rowErr (u : TypeId) (h : (Tryd.prog).typeName? 3 u = some "*errors.errorString") : u = 86 :=
  typeName_ptr_named (nm := "errors.errorString") (by rw [star]; kernel_rfl) (by kernel_rfl) (by decide) u (by rw [star]; exact h)

/-- The seat's list. -/
abbrev laidL : List (String × DataW Unit) := Rows.datesLeapRow.laid

theorem laid_of {W : World} (h : laidMetH Tryd.prog laidL W) (hmax : ∃ m : Int, W.cell? ⟨1, 0, none⟩ = some (.int .i64 m)) : Laid W := by
  rw [MakeChecks.laidMetH_plain _ _ _ (by kernel_rfl)] at h
  have h3 := h.tail.tail
  have h4 := h3.tail.tail
  have h5 := h4.tail
  have h6 := h5.tail
  obtain ⟨a4, s4, v4, -⟩ := laid_sentinel h4 (by kernel_rfl : (Tryd.prog).globalNamed "strconv.ErrRange" = some 3) (ti := 42) (by kernel_rfl) Tryd.underlying42 rowErr Tryd.underlying86 Tryd.underlying88 rfl rfl Tryd.underlying9 (by kernel_rfl) (by kernel_rfl)
  obtain ⟨a5, s5, v5, -⟩ := laid_sentinel h5 (by kernel_rfl : (Tryd.prog).globalNamed "strconv.ErrSyntax" = some 2) (ti := 42) (by kernel_rfl) Tryd.underlying42 rowErr Tryd.underlying86 Tryd.underlying88 rfl rfl Tryd.underlying9 (by kernel_rfl) (by kernel_rfl)
  refine ⟨?_, ⟨_, _, v4⟩, ⟨_, _, v5⟩, ?_, hmax⟩
  · exact Lib.tabIs_of_head (by kernel_rfl : (Tryd.prog).globalNamed "internal/strconv.uint64pow10" = some 4) (by kernel_rfl) Tryd.underlying73 Tryd.underlying60 (by kernel_rfl) (by kernel_rfl) (k := .u64) (zs := Lib.pow10Tab) h3
  · exact Lib.tabIs_of_head (by kernel_rfl : (Tryd.prog).globalNamed "langdoc/dates.monthDays" = some 0) (by kernel_rfl) Tryd.underlying39 Tryd.underlying3 (by kernel_rfl) (by kernel_rfl) (k := .i64) (zs := [31, 28, 31, 30, 31, 30, 31, 31, 30, 31, 30, 31]) h6
end Go.Proofs.YtlphgipgdgoieaaDoor
