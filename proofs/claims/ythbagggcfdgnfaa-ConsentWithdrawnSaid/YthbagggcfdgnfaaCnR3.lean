/- The laws' rows, out of their walks. -/
import Derived.Test.YthbagggcfdgnfaaCnR1
import Derived.Test.YthbagggcfdgnfaaCnN4
import Derived.Test.YthbagggcfdgnfaaCnN5
namespace Go.Proofs.Ythbagggcfdgnfaa
open Go.RowKit Go.ChangeShapes Go.WideShapes Go.ChangeAt Go.Joins Go.Deep

set_option maxRecDepth 100000 in
theorem consentWithdrawn_lifted (os : Os) (started : os.Started) (H : Type) (enc : TypeId × Value → H) :
    ReturnsInHanded {} Try.checked os 8 .any (Rows.consentWithdrawnSpec.pre6 enc Try.prog Try.f8 Rows.consentWithdrawnRow.domain false) (Rows.consentWithdrawnSpec.post enc Try.prog Try.f8 false true false false) := by
  refine law_lifted (C := Try.checked) own started (by kernel_rfl) Try.func8 laidOut (by kernel_rfl) 4 rfl Try.underlying4 rfl (fun ds h => ?_) (ChangeSpec.witness6 (enc := enc) (C := Try.checked) false ⟨#[], #[.agg #[.slice none 0 0, .slice none 0 0, .int .i64 0, .int .i64 0, .int .i64 0], .slice none 0 0], []⟩ 8 (by kernel_rfl) (by kernel_rfl) (by kernel_rfl) (by kernel_rfl)) ?_
  · match ds, h with
    | [d0, d1], _ => rfl
  intro W base args ds p hval0 hA0 hlt hsz
  have hval : ∀ (j : Nat) t v, Try.f8.params[j]? = some t → args[j]? = some v → Value.okWide Try.prog W .any base t v := hval0
  have hA : DataW.TrodAll enc Try.prog W 0 (fun _ => true) true Try.f8.params.toList args.toList ds p := hA0
  rw [Try.params8] at hA hval
  obtain ⟨v0, vs0, d0, ds0, p0, q0, hargs, rfl, rfl, h0, r0⟩ := trodAll_cons hA
  obtain ⟨v1, vs1, d1, ds1, p1, q1, rfl, rfl, rfl, h1, r1⟩ := trodAll_cons r0
  obtain ⟨rfl, rfl, rfl⟩ := trodAll_nil r1
  obtain rfl : args = #[v0, v1] := by cases args; simp_all
  obtain ⟨A0, ps0, ca0, B0, l0, cb0, x0, y0, z0, rfl, ha0, oa0, hb0, ob0, fx0, fy0, fz0, hla0, hlb0, hcap0⟩ := open_ask Try.underlying29 (by kernel_rfl) (by kernel_rfl) rfl rfl rfl rfl rfl Try.underlying22 Try.underlying23 Try.underlying3 (by kernel_rfl) (by kernel_rfl) (el_person Try.underlying46 (by kernel_rfl) rfl rfl rfl rfl rfl rfl (by kernel_rfl) (by kernel_rfl) (by kernel_rfl) Try.underlying3 Try.underlying9 Try.underlying4) (el_consent Try.underlying40 (by kernel_rfl) rfl rfl rfl rfl rfl rfl rfl rfl (by kernel_rfl) Try.underlying3) (hval 0 29 _ rfl rfl) h0 (fun x hx => hlt x (by simp [hx]))
  obtain ⟨A1, l1, cap1, rfl, hr1, hf1, hl1⟩ := open_Ints Try.underlying32 Try.underlying3 (by kernel_rfl) (hval 1 32 _ rfl rfl) h1 (fun x hx => hlt x (by simp [hx]))
  exact withdrawn_walk W ps0 l0 A0 B0 ca0 cb0 x0 y0 z0 l1 A1 cap1 ha0 hb0 hr1 hcap0

/-- ConsentWithdrawn: for every input the law returns true, and the arguments read as before. -/
theorem consentWithdrawn_holds : Rows.ConsentWithdrawnSaid :=
  OpenClaim.holds_of_wide 8 Try.f8 rfl rfl rfl rfl rfl rfl rfl ⟨rfl, rfl, rfl, rfl, rfl⟩ rfl rfl rfl rfl rfl (by kernel_rfl) Try.func8 (by kernel_rfl)
    (of_decide_eq_true (by kernel_rfl)) (by unfold Func.isWrapper; rw [if_neg (of_decide_eq_false (by kernel_rfl))]; exact ⟨rfl, rfl⟩)
    (fun os started H enc _ => consentWithdrawn_lifted os started H enc)

set_option maxRecDepth 100000 in
theorem consentDays_lifted (os : Os) (started : os.Started) (H : Type) (enc : TypeId × Value → H) :
    ReturnsInHanded {} Try.checked os 9 .any (Rows.consentDaysSpec.pre6 enc Try.prog Try.f9 Rows.consentDaysRow.domain false) (Rows.consentDaysSpec.post enc Try.prog Try.f9 false true false false) := by
  refine law_lifted (C := Try.checked) own started (by kernel_rfl) Try.func9 laidOut (by kernel_rfl) 4 rfl Try.underlying4 rfl (fun ds h => ?_) (ChangeSpec.witness6 (enc := enc) (C := Try.checked) false ⟨#[], #[.agg #[.slice none 0 0, .slice none 0 0, .int .i64 0, .int .i64 0, .int .i64 0], .slice none 0 0], []⟩ 8 (by kernel_rfl) (by kernel_rfl) (by kernel_rfl) (by kernel_rfl)) ?_
  · match ds, h with
    | [d0, d1], _ => rfl
  intro W base args ds p hval0 hA0 hlt hsz
  have hval : ∀ (j : Nat) t v, Try.f9.params[j]? = some t → args[j]? = some v → Value.okWide Try.prog W .any base t v := hval0
  have hA : DataW.TrodAll enc Try.prog W 0 (fun _ => true) true Try.f9.params.toList args.toList ds p := hA0
  rw [Try.params9] at hA hval
  obtain ⟨v0, vs0, d0, ds0, p0, q0, hargs, rfl, rfl, h0, r0⟩ := trodAll_cons hA
  obtain ⟨v1, vs1, d1, ds1, p1, q1, rfl, rfl, rfl, h1, r1⟩ := trodAll_cons r0
  obtain ⟨rfl, rfl, rfl⟩ := trodAll_nil r1
  obtain rfl : args = #[v0, v1] := by cases args; simp_all
  obtain ⟨A0, ps0, ca0, B0, l0, cb0, x0, y0, z0, rfl, ha0, oa0, hb0, ob0, fx0, fy0, fz0, hla0, hlb0, hcap0⟩ := open_ask Try.underlying29 (by kernel_rfl) (by kernel_rfl) rfl rfl rfl rfl rfl Try.underlying22 Try.underlying23 Try.underlying3 (by kernel_rfl) (by kernel_rfl) (el_person Try.underlying46 (by kernel_rfl) rfl rfl rfl rfl rfl rfl (by kernel_rfl) (by kernel_rfl) (by kernel_rfl) Try.underlying3 Try.underlying9 Try.underlying4) (el_consent Try.underlying40 (by kernel_rfl) rfl rfl rfl rfl rfl rfl rfl rfl (by kernel_rfl) Try.underlying3) (hval 0 29 _ rfl rfl) h0 (fun x hx => hlt x (by simp [hx]))
  obtain ⟨A1, l1, cap1, rfl, hr1, hf1, hl1⟩ := open_Ints Try.underlying32 Try.underlying3 (by kernel_rfl) (hval 1 32 _ rfl rfl) h1 (fun x hx => hlt x (by simp [hx]))
  exact days_walk W ps0 l0 A0 B0 ca0 cb0 x0 y0 z0 l1 A1 cap1 ha0 hb0 hr1

/-- ConsentDays: for every input the law returns true, and the arguments read as before. -/
theorem consentDays_holds : Rows.ConsentDaysSaid :=
  OpenClaim.holds_of_wide 9 Try.f9 rfl rfl rfl rfl rfl rfl rfl ⟨rfl, rfl, rfl, rfl, rfl⟩ rfl rfl rfl rfl rfl (by kernel_rfl) Try.func9 (by kernel_rfl)
    (of_decide_eq_true (by kernel_rfl)) (by unfold Func.isWrapper; rw [if_neg (of_decide_eq_false (by kernel_rfl))]; exact ⟨rfl, rfl⟩)
    (fun os started H enc _ => consentDays_lifted os started H enc)

end Go.Proofs.Ythbagggcfdgnfaa
