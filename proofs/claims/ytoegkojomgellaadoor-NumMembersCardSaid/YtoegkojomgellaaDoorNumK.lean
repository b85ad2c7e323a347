/- What the listed package variables hold, out of the row's condition; a fact that lasts while the call only makes memory. -/
import Derived.Test.YtoegkojomgellaaDoorBase
import Derived.Lib.LaidTab
import Derived.Lib.ItoaNum
import Derived.Stop.LaidErr
import Derived.MakeChecks
namespace Go.Proofs.YtoegkojomgellaaDoor
open Go.RowKit

/-- What the listed variables hold. -/
structure Laid (w : World) : Prop where
  pow : Lib.TabIs Tryd.prog w "internal/strconv.uint64pow10" .u64 Lib.pow10Tab
  rng : ∃ tp p, w.var? Tryd.prog "strconv.ErrRange" = some #[.iface tp p]
  syn : ∃ tp p, w.var? Tryd.prog "strconv.ErrSyntax" = some #[.iface tp p]
  lim : Lib.TabIs Tryd.prog w "langdoc/num.limits" .i64 [-1099511627776, 1099511627776]

theorem var?_below {P : Program} {W w : World} {n : String} {cs : Array Value} (hb : Below W.heap.size W w) (h : W.var? P n = some cs) : w.var? P n = some cs := by
  unfold World.var? at h ⊢
  cases hg : P.globalNamed n with
  | none => simp [hg] at h
  | some g =>
    simp only [hg, Option.bind_some] at h ⊢
    have hlt : g < W.heap.size := by
      rcases Nat.lt_or_ge g W.heap.size with h' | h'
      · exact h'
      · simp [Array.getElem?_eq_none h'] at h
    rw [hb.block g hlt]
    exact h

theorem Laid.below {W w : World} (h : Laid W) (hb : Below W.heap.size W w) : Laid w where
  pow := var?_below hb h.pow
  rng := let ⟨a, b, e⟩ := h.rng; ⟨a, b, var?_below hb e⟩
  syn := let ⟨a, b, e⟩ := h.syn; ⟨a, b, var?_below hb e⟩
  lim := var?_below hb h.lim

theorem star : "*" ++ "errors.errorString" = "*errors.errorString" := by decide
theorem rowErr (u : TypeId) (h : (Tryd.prog).typeName? 3 u = some "*errors.errorString") : u = 92 :=
  typeName_ptr_named (nm := "errors.errorString") (by rw [star]; kernel_rfl) (by kernel_rfl) (by decide) u (by rw [star]; exact h)

/-- The seat's list. -/
abbrev laidL : List (String × DataW Unit) := Rows.numClipsRow.laid

theorem laid_of {W : World} (h : laidMetH Tryd.prog laidL W) : Laid W := by
  rw [MakeChecks.laidMetH_plain _ _ _ (by kernel_rfl)] at h
  have h3 := h.tail.tail
  have h4 := h3.tail
  have h5 := h4.tail
  have h6 := h5.tail
  obtain ⟨a4, s4, v4, -⟩ := laid_sentinel h4 (by kernel_rfl : (Tryd.prog).globalNamed "strconv.ErrRange" = some 2) (ti := 39) (by kernel_rfl) Tryd.underlying39 rowErr Tryd.underlying92 Tryd.underlying94 rfl rfl Tryd.underlying9 (by kernel_rfl) (by kernel_rfl)
  obtain ⟨a5, s5, v5, -⟩ := laid_sentinel h5 (by kernel_rfl : (Tryd.prog).globalNamed "strconv.ErrSyntax" = some 1) (ti := 39) (by kernel_rfl) Tryd.underlying39 rowErr Tryd.underlying92 Tryd.underlying94 rfl rfl Tryd.underlying9 (by kernel_rfl) (by kernel_rfl)
  refine ⟨?_, ⟨_, _, v4⟩, ⟨_, _, v5⟩, ?_⟩
  · exact Lib.tabIs_of_head (by kernel_rfl : (Tryd.prog).globalNamed "internal/strconv.uint64pow10" = some 3) (by kernel_rfl) Tryd.underlying97 Tryd.underlying73 (by kernel_rfl) (by kernel_rfl) (k := .u64) (zs := Lib.pow10Tab) h3
  · exact Lib.tabIs_of_head (by kernel_rfl : (Tryd.prog).globalNamed "langdoc/num.limits" = some 0) (by kernel_rfl) Tryd.underlying42 Tryd.underlying3 (by kernel_rfl) (by kernel_rfl) (k := .i64) (zs := [-1099511627776, 1099511627776]) h6
end Go.Proofs.YtoegkojomgellaaDoor
