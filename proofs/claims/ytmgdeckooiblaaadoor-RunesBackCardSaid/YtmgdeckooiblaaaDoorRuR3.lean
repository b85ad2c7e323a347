/- The laws' rows, out of their walks. -/
import Derived.Test.YtmgdeckooiblaaaDoorRuR1
import Derived.Test.YtmgdeckooiblaaaDoorLawK
import Derived.Test.YtmgdeckooiblaaaDoorTie
import Derived.Test.YtmgdeckooiblaaaDoorCards
namespace Go.Proofs.YtmgdeckooiblaaaDoor
open Go.RowKit Go.ChangeShapes Go.WideShapes Go.ChangeAt Go.Joins Go.Deep

set_option maxRecDepth 100000 in
theorem runesBack_lifted (os : Os) (started : os.Started) (H : Type) (enc : TypeId × Value → H) :
    ReturnsInHanded {} Tryd.checked os 9 .any (fun w args => (Rows.runesBackSpec.pre enc Tryd.prog Tryd.f9 [] false w args ∧ laidMetH Tryd.prog laidL w) ∧ sizedMet enc Tryd.prog Tryd.f9 (OpenSpec.ofChange Rows.runesBackSpec) false w args) (Rows.runesBackSpec.post enc Tryd.prog Tryd.f9 false true false false) := by
  refine law_shaped (C := Tryd.checked) (laid := laidL) own started (by kernel_rfl) Tryd.func9 laidOut (by kernel_rfl) 4 rfl Tryd.underlying4 rfl (fun ds h => ?_)
    (ChangeSpec.witness_shaped (enc := enc) (C := Tryd.checked) (os := os) (X := fun w _ => laidMetH Tryd.prog laidL w) false (World.laidAll Tryd.prog os laidL) #[.slice none 0 0, .string ByteArray.empty] 8 (World.laidAll_os _ _ _) (World.shaped_of_ZipB (by kernel_rfl) (by kernel_rfl)) (by kernel_rfl) (by kernel_rfl) (by kernel_rfl) (by rw [MakeChecks.laidMetH_plain _ _ _ (by kernel_rfl)]; exact laidMet_laidAll _ (by kernel_rfl) (by kernel_rfl))) ?_
  · match ds, h with
    | [d0, d1], _ => rfl
  intro W base args ds p hval0 hA0 hlt hsz hL hsh
  have hval : ∀ (j : Nat) t v, Tryd.f9.params[j]? = some t → args[j]? = some v → Value.okWide Tryd.prog W .any base t v := hval0
  have hA : DataW.TrodAll enc Tryd.prog W 0 (fun _ => true) true Tryd.f9.params.toList args.toList ds p := hA0
  rw [Tryd.params9] at hA hval
  obtain ⟨v0, vs0, d0, ds0, p0, q0, hargs, rfl, rfl, h0, r0⟩ := trodAll_cons hA
  obtain ⟨v1, vs1, d1, ds1, p1, q1, rfl, rfl, rfl, h1, r1⟩ := trodAll_cons r0
  obtain ⟨rfl, rfl, rfl⟩ := trodAll_nil r1
  obtain rfl : args = #[v0, v1] := by cases args; simp_all
  obtain ⟨A0, l0, cap0, rfl, hr0, hf0, hl0⟩ := open_Ints Tryd.underlying24 Tryd.underlying3 (by kernel_rfl) (hval 0 24 _ rfl rfl) h0 (fun x hx => hlt x (by simp [hx]))
  obtain ⟨l1, rfl, hl1⟩ := open_Str Tryd.underlying9 (hval 1 9 _ rfl rfl) h1
  exact back_walk W (laid_of hL) l0 A0 cap0 hr0 l1

/-- RunesBack: for every input the law returns true, and the arguments read as before. -/
theorem runesBack_row_holds : Rows.RunesBackSaid :=
  OpenClaim.holds_of_wide 9 Tryd.f9 rfl rfl rfl rfl rfl rfl rfl ⟨rfl, rfl, rfl, rfl, rfl⟩ rfl rfl rfl rfl rfl (by kernel_rfl) Tryd.func9 (by kernel_rfl)
    (of_decide_eq_true (by kernel_rfl)) (by unfold Func.isWrapper; rw [if_neg (of_decide_eq_false (by kernel_rfl))]; exact ⟨rfl, rfl⟩)
    (fun os started H enc _ => runesBack_lifted os started H enc)

/-- RunesBack, the tied card: for every input the law returns true, and the arguments read as before; what the listed package variables hold at the start is tied to the text of the pruned copy of the project. -/
theorem runesBack_holds : Rows.RunesBackCardSaid :=
  Claim7.holds_tied_plain_at .later _ _ true _ _ runesBack_row_holds (fun _ h => by cases h) (by kernel_rfl) (fun _ h => by cases h) runesBack_row_tie rfl ⟨rfl, rfl⟩ (by kernel_rfl) rfl
    (fun f fn hf hfn => by
      obtain rfl : f = 9 := Option.some.inj ((show (Tryd.prog).funcNamed "langdoc/langdoclaw02.RunesBack" = some 9 by kernel_rfl).symm.trans hf) |>.symm
      obtain rfl : fn = Tryd.f9 := (Option.some.inj (Tryd.func9.symm.trans hfn)).symm
      exact ⟨by kernel_rfl, fun j t ht => by
        have hall : (Tryd.f9.params.toList.all fun u => !(Tryd.prog).wantsStandIn u) = true := by kernel_rfl
        have hm : t ∈ Tryd.f9.params.toList := by simpa using Array.mem_of_getElem? ht
        exact (show (Tryd.prog).wantsStandIn t = false by simpa using List.all_eq_true.1 hall t hm)⟩)
    (by kernel_rfl)

end Go.Proofs.YtmgdeckooiblaaaDoor
