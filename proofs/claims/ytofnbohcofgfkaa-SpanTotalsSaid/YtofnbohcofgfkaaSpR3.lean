/- The laws' rows, out of their walks. -/
import Derived.Test.YtofnbohcofgfkaaSpL3
import Derived.Test.YtofnbohcofgfkaaSpR1
namespace Go.Proofs.Ytofnbohcofgfkaa
open Go.RowKit Go.ChangeShapes Go.WideShapes Go.ChangeAt Go.Joins Go.Deep

set_option maxRecDepth 100000 in
theorem spanTotals_lifted (os : Os) (started : os.Started) (H : Type) (enc : TypeId × Value → H) :
    ReturnsInHanded {} Try.checked os 10 .any (Rows.spanTotalsSpec.pre6 enc Try.prog Try.f10 Rows.spanTotalsRow.domain false) (Rows.spanTotalsSpec.post enc Try.prog Try.f10 false true false false) := by
  refine law_lifted (C := Try.checked) own started (by kernel_rfl) Try.func10 laidOut (by kernel_rfl) 4 rfl Try.underlying4 rfl (fun ds h => ?_) (ChangeSpec.witness6 (enc := enc) (C := Try.checked) false ⟨#[], #[.slice none 0 0, .slice none 0 0], []⟩ 8 (by kernel_rfl) (by kernel_rfl) (by kernel_rfl) (by kernel_rfl)) ?_
  · match ds, h with
    | [d0, d1], _ => rfl
  intro W base args ds p hval0 hA0 hlt hsz
  have hval : ∀ (j : Nat) t v, Try.f10.params[j]? = some t → args[j]? = some v → Value.okWide Try.prog W .any base t v := hval0
  have hA : DataW.TrodAll enc Try.prog W 0 (fun _ => true) true Try.f10.params.toList args.toList ds p := hA0
  rw [Try.params10] at hA hval
  obtain ⟨v0, vs0, d0, ds0, p0, q0, hargs, rfl, rfl, h0, r0⟩ := trodAll_cons hA
  obtain ⟨v1, vs1, d1, ds1, p1, q1, rfl, rfl, rfl, h1, r1⟩ := trodAll_cons r0
  obtain ⟨rfl, rfl, rfl⟩ := trodAll_nil r1
  obtain rfl : args = #[v0, v1] := by cases args; simp_all
  obtain ⟨A0, l0, cap0, rfl, hl0, hc0, hr0, hk0⟩ := open_structs (k := 2) Try.underlying30 (by kernel_rfl) (by decide) (el_span Try.underlying23 (by kernel_rfl) rfl rfl rfl rfl (by kernel_rfl) Try.underlying3) (hval 0 30 _ rfl rfl) h0 (fun x hx => hlt x (by simp [hx]))
  obtain ⟨A1, l1, cap1, rfl, hl1, hc1, hr1, hk1⟩ := open_structs (k := 2) Try.underlying30 (by kernel_rfl) (by decide) (el_span Try.underlying23 (by kernel_rfl) rfl rfl rfl rfl (by kernel_rfl) Try.underlying3) (hval 1 30 _ rfl rfl) h1 (fun x hx => hlt x (by simp [hx]))
  exact spanTotals_walk W l0 l1 A0 A1 cap0 cap1 hr0 hr1

/-- SpanTotals: for every input the law returns true, and the arguments read as before. -/
theorem spanTotals_holds : Rows.SpanTotalsSaid :=
  OpenClaim.holds_of_wide 10 Try.f10 rfl rfl rfl rfl rfl rfl rfl ⟨rfl, rfl, rfl, rfl, rfl⟩ rfl rfl rfl rfl rfl (by kernel_rfl) Try.func10 (by kernel_rfl)
    (of_decide_eq_true (by kernel_rfl)) (by unfold Func.isWrapper; rw [if_neg (of_decide_eq_false (by kernel_rfl))]; exact ⟨rfl, rfl⟩)
    (fun os started H enc _ => spanTotals_lifted os started H enc)

end Go.Proofs.Ytofnbohcofgfkaa
