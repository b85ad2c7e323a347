/- The laws' rows, out of their walks. -/
import Derived.Test.YtofnbohcofgfkaaSpL5
import Derived.Test.YtofnbohcofgfkaaSpR1
namespace Go.Proofs.Ytofnbohcofgfkaa
open Go.RowKit Go.ChangeShapes Go.WideShapes Go.ChangeAt Go.Joins Go.Deep

set_option maxRecDepth 100000 in
theorem spanInside_lifted (os : Os) (started : os.Started) (H : Type) (enc : TypeId × Value → H) :
    ReturnsInHanded {} Try.checked os 11 .any (Rows.spanInsideSpec.pre6 enc Try.prog Try.f11 Rows.spanInsideRow.domain false) (Rows.spanInsideSpec.post enc Try.prog Try.f11 false true false false) := by
  refine law_lifted (C := Try.checked) own started (by kernel_rfl) Try.func11 laidOut (by kernel_rfl) 4 rfl Try.underlying4 rfl (fun ds h => ?_) (ChangeSpec.witness6 (enc := enc) (C := Try.checked) false ⟨#[], #[.slice none 0 0, .agg #[.int .i64 0, .int .i64 0], .agg #[.int .i64 0, .int .i64 0]], []⟩ 8 (by kernel_rfl) (by kernel_rfl) (by kernel_rfl) (by kernel_rfl)) ?_
  · match ds, h with
    | [d0, d1, d2], _ => rfl
  intro W base args ds p hval0 hA0 hlt hsz
  have hval : ∀ (j : Nat) t v, Try.f11.params[j]? = some t → args[j]? = some v → Value.okWide Try.prog W .any base t v := hval0
  have hA : DataW.TrodAll enc Try.prog W 0 (fun _ => true) true Try.f11.params.toList args.toList ds p := hA0
  rw [Try.params11] at hA hval
  obtain ⟨v0, vs0, d0, ds0, p0, q0, hargs, rfl, rfl, h0, r0⟩ := trodAll_cons hA
  obtain ⟨v1, vs1, d1, ds1, p1, q1, rfl, rfl, rfl, h1, r1⟩ := trodAll_cons r0
  obtain ⟨v2, vs2, d2, ds2, p2, q2, rfl, rfl, rfl, h2, r2⟩ := trodAll_cons r1
  obtain ⟨rfl, rfl, rfl⟩ := trodAll_nil r2
  obtain rfl : args = #[v0, v1, v2] := by cases args; simp_all
  obtain ⟨A0, l0, cap0, rfl, hl0, hc0, hr0, hk0⟩ := open_structs (k := 2) Try.underlying30 (by kernel_rfl) (by decide) (el_span Try.underlying23 (by kernel_rfl) rfl rfl rfl rfl (by kernel_rfl) Try.underlying3) (hval 0 30 _ rfl rfl) h0 (fun x hx => hlt x (by simp [hx]))
  obtain ⟨a1, b1, rfl, fa1, fb1⟩ := open_two Try.underlying23 (by kernel_rfl) (by kernel_rfl) rfl rfl Try.underlying3 (hval 1 23 _ rfl rfl) h1
  obtain ⟨a2, b2, rfl, fa2, fb2⟩ := open_two Try.underlying23 (by kernel_rfl) (by kernel_rfl) rfl rfl Try.underlying3 (hval 2 23 _ rfl rfl) h2
  exact inside_walk W l0 ⟨a1, b1⟩ ⟨a2, b2⟩ A0 cap0 hr0

/-- SpanInside: for every input the law returns true, and the arguments read as before. -/
theorem spanInside_holds : Rows.SpanInsideSaid :=
  OpenClaim.holds_of_wide 11 Try.f11 rfl rfl rfl rfl rfl rfl rfl ⟨rfl, rfl, rfl, rfl, rfl⟩ rfl rfl rfl rfl rfl (by kernel_rfl) Try.func11 (by kernel_rfl)
    (of_decide_eq_true (by kernel_rfl)) (by unfold Func.isWrapper; rw [if_neg (of_decide_eq_false (by kernel_rfl))]; exact ⟨rfl, rfl⟩)
    (fun os started H enc _ => spanInside_lifted os started H enc)

end Go.Proofs.Ytofnbohcofgfkaa
