/- The laws' rows, out of their walks. -/
import Derived.Test.YtmgdeckooiblaaaDoorRuR1
import Derived.Test.YtmgdeckooiblaaaDoorLawK
import Derived.Test.YtmgdeckooiblaaaDoorTie
import Derived.Test.YtmgdeckooiblaaaDoorCards
namespace Go.Proofs.YtmgdeckooiblaaaDoor
open Go.RowKit Go.ChangeShapes Go.WideShapes Go.ChangeAt Go.Joins Go.Deep

set_option maxRecDepth 100000 in
theorem runesOf_lifted (os : Os) (started : os.Started) (H : Type) (enc : TypeId × Value → H) :
    ReturnsInHanded {} Tryd.checked os 4 .any (fun w args => (Rows.runesOfSpec.pre enc Tryd.prog Tryd.f4 [] false w args ∧ laidMetH Tryd.prog laidL w) ∧ sizedMet enc Tryd.prog Tryd.f4 (OpenSpec.ofChange Rows.runesOfSpec) false w args) (Rows.runesOfSpec.post enc Tryd.prog Tryd.f4 false true false false) := by
  refine law_shaped (C := Tryd.checked) (laid := laidL) own started (by kernel_rfl) Tryd.func4 laidOut (by kernel_rfl) 4 rfl Tryd.underlying4 rfl (fun ds h => ?_)
    (ChangeSpec.witness_shaped (enc := enc) (C := Tryd.checked) (os := os) (X := fun w _ => laidMetH Tryd.prog laidL w) false (World.laidAll Tryd.prog os laidL) #[.slice none 0 0] 8 (World.laidAll_os _ _ _) (World.shaped_of_ZipB (by kernel_rfl) (by kernel_rfl)) (by kernel_rfl) (by kernel_rfl) (by kernel_rfl) (by rw [MakeChecks.laidMetH_plain _ _ _ (by kernel_rfl)]; exact laidMet_laidAll _ (by kernel_rfl) (by kernel_rfl))) ?_
  · match ds, h with
    | [d0], _ => rfl
  intro W base args ds p hval0 hA0 hlt hsz hL hsh
  have hval : ∀ (j : Nat) t v, Tryd.f4.params[j]? = some t → args[j]? = some v → Value.okWide Tryd.prog W .any base t v := hval0
  have hA : DataW.TrodAll enc Tryd.prog W 0 (fun _ => true) true Tryd.f4.params.toList args.toList ds p := hA0
  rw [Tryd.params4] at hA hval
  obtain ⟨v0, vs0, d0, ds0, p0, q0, hargs, rfl, rfl, h0, r0⟩ := trodAll_cons hA
  obtain ⟨rfl, rfl, rfl⟩ := trodAll_nil r0
  obtain rfl : args = #[v0] := by cases args; simp_all
  obtain ⟨A0, l0, cap0, rfl, hr0, hf0, hl0⟩ := open_Ints Tryd.underlying24 Tryd.underlying3 (by kernel_rfl) (hval 0 24 _ rfl rfl) h0 (fun x hx => hlt x (by simp [hx]))
  exact of_walk W (laid_of hL) l0 A0 cap0 hr0

/-- RunesOf: for every input the law returns true, and the arguments read as before. -/
theorem runesOf_row_holds : Rows.RunesOfSaid :=
  OpenClaim.holds_of_wide 4 Tryd.f4 rfl rfl rfl rfl rfl rfl rfl ⟨rfl, rfl, rfl, rfl, rfl⟩ rfl rfl rfl rfl rfl (by kernel_rfl) Tryd.func4 (by kernel_rfl)
    (of_decide_eq_true (by kernel_rfl)) (by unfold Func.isWrapper; rw [if_neg (of_decide_eq_false (by kernel_rfl))]; exact ⟨rfl, rfl⟩)
    (fun os started H enc _ => runesOf_lifted os started H enc)

/-- RunesOf, the tied card: for every input the law returns true, and the arguments read as before; what the listed package variables hold at the start is tied to the text of the pruned copy of the project. -/
theorem runesOf_holds : Rows.RunesOfCardSaid :=
  Claim7.holds_tied_plain_at .later _ _ true _ _ runesOf_row_holds (fun _ h => by cases h) (by kernel_rfl) (fun _ h => by cases h) runesOf_row_tie rfl ⟨rfl, rfl⟩ (by kernel_rfl) rfl
    (fun f fn hf hfn => by
      obtain rfl : f = 4 := Option.some.inj ((show (Tryd.prog).funcNamed "langdoc/langdoclaw02.RunesOf" = some 4 by kernel_rfl).symm.trans hf) |>.symm
      obtain rfl : fn = Tryd.f4 := (Option.some.inj (Tryd.func4.symm.trans hfn)).symm
      exact ⟨by kernel_rfl, fun j t ht => by
        have hall : (Tryd.f4.params.toList.all fun u => !(Tryd.prog).wantsStandIn u) = true := by kernel_rfl
        have hm : t ∈ Tryd.f4.params.toList := by simpa using Array.mem_of_getElem? ht
        exact (show (Tryd.prog).wantsStandIn t = false by simpa using List.all_eq_true.1 hall t hm)⟩)
    (by kernel_rfl)

set_option maxRecDepth 100000 in
theorem runesClusters_lifted (os : Os) (started : os.Started) (H : Type) (enc : TypeId × Value → H) :
    ReturnsInHanded {} Tryd.checked os 6 .any (fun w args => (Rows.runesClustersSpec.pre enc Tryd.prog Tryd.f6 [] false w args ∧ laidMetH Tryd.prog laidL w) ∧ sizedMet enc Tryd.prog Tryd.f6 (OpenSpec.ofChange Rows.runesClustersSpec) false w args) (Rows.runesClustersSpec.post enc Tryd.prog Tryd.f6 false true false false) := by
  refine law_shaped (C := Tryd.checked) (laid := laidL) own started (by kernel_rfl) Tryd.func6 laidOut (by kernel_rfl) 4 rfl Tryd.underlying4 rfl (fun ds h => ?_)
    (ChangeSpec.witness_shaped (enc := enc) (C := Tryd.checked) (os := os) (X := fun w _ => laidMetH Tryd.prog laidL w) false (World.laidAll Tryd.prog os laidL) #[.string ByteArray.empty] 8 (World.laidAll_os _ _ _) (World.shaped_of_ZipB (by kernel_rfl) (by kernel_rfl)) (by kernel_rfl) (by kernel_rfl) (by kernel_rfl) (by rw [MakeChecks.laidMetH_plain _ _ _ (by kernel_rfl)]; exact laidMet_laidAll _ (by kernel_rfl) (by kernel_rfl))) ?_
  · match ds, h with
    | [d0], _ => rfl
  intro W base args ds p hval0 hA0 hlt hsz hL hsh
  have hval : ∀ (j : Nat) t v, Tryd.f6.params[j]? = some t → args[j]? = some v → Value.okWide Tryd.prog W .any base t v := hval0
  have hA : DataW.TrodAll enc Tryd.prog W 0 (fun _ => true) true Tryd.f6.params.toList args.toList ds p := hA0
  rw [Tryd.params6] at hA hval
  obtain ⟨v0, vs0, d0, ds0, p0, q0, hargs, rfl, rfl, h0, r0⟩ := trodAll_cons hA
  obtain ⟨rfl, rfl, rfl⟩ := trodAll_nil r0
  obtain rfl : args = #[v0] := by cases args; simp_all
  obtain ⟨l0, rfl, hl0⟩ := open_Str Tryd.underlying9 (hval 0 9 _ rfl rfl) h0
  exact clusters_walk W (laid_of hL) l0

/-- RunesClusters: for every input the law returns true, and the arguments read as before. -/
theorem runesClusters_row_holds : Rows.RunesClustersSaid :=
  OpenClaim.holds_of_wide 6 Tryd.f6 rfl rfl rfl rfl rfl rfl rfl ⟨rfl, rfl, rfl, rfl, rfl⟩ rfl rfl rfl rfl rfl (by kernel_rfl) Tryd.func6 (by kernel_rfl)
    (of_decide_eq_true (by kernel_rfl)) (by unfold Func.isWrapper; rw [if_neg (of_decide_eq_false (by kernel_rfl))]; exact ⟨rfl, rfl⟩)
    (fun os started H enc _ => runesClusters_lifted os started H enc)

/-- RunesClusters, the tied card: for every input the law returns true, and the arguments read as before; what the listed package variables hold at the start is tied to the text of the pruned copy of the project. -/
theorem runesClusters_holds : Rows.RunesClustersCardSaid :=
  Claim7.holds_tied_plain_at .later _ _ true _ _ runesClusters_row_holds (fun _ h => by cases h) (by kernel_rfl) (fun _ h => by cases h) runesClusters_row_tie rfl ⟨rfl, rfl⟩ (by kernel_rfl) rfl
    (fun f fn hf hfn => by
      obtain rfl : f = 6 := Option.some.inj ((show (Tryd.prog).funcNamed "langdoc/langdoclaw02.RunesClusters" = some 6 by kernel_rfl).symm.trans hf) |>.symm
      obtain rfl : fn = Tryd.f6 := (Option.some.inj (Tryd.func6.symm.trans hfn)).symm
      exact ⟨by kernel_rfl, fun j t ht => by
        have hall : (Tryd.f6.params.toList.all fun u => !(Tryd.prog).wantsStandIn u) = true := by kernel_rfl
        have hm : t ∈ Tryd.f6.params.toList := by simpa using Array.mem_of_getElem? ht
        exact (show (Tryd.prog).wantsStandIn t = false by simpa using List.all_eq_true.1 hall t hm)⟩)
    (by kernel_rfl)

end Go.Proofs.YtmgdeckooiblaaaDoor
