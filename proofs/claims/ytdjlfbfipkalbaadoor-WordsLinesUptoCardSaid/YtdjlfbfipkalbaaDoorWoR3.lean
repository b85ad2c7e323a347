/- The laws' rows, out of their walks. -/
import Derived.Lay
import Derived.Test.YtdjlfbfipkalbaaDoorWoZ
import Derived.Test.YtdjlfbfipkalbaaDoorWoR1
import Derived.Test.YtdjlfbfipkalbaaDoorLawK
import Derived.Test.YtdjlfbfipkalbaaDoorTie
import Derived.Test.YtdjlfbfipkalbaaDoorCards
namespace Go.Proofs.YtdjlfbfipkalbaaDoor
open Go.RowKit Go.ChangeShapes Go.WideShapes Go.ChangeAt Go.Joins Go.Deep

/-- The witness is read so. -/
theorem wordsSplits_reads (os : Os) {H : Type} (enc : TypeId × Value → H) : ∃ places, DataW.whole enc Tryd.prog ((World.laidAll Tryd.prog os laidL).forCall (fun _ _ => 0) ⟨#[], #[.string ByteArray.empty], []⟩).memory Tryd.f8.params.toList Rows.wordsSplitsSpec.vars false #[.string ByteArray.empty].toList 8 = some ([.lit (.string [])], [], places) :=
  ⟨[], by kernel_rfl⟩
set_option maxRecDepth 100000 in
theorem wordsSplits_lifted (os : Os) (started : os.Started) (H : Type) (enc : TypeId × Value → H) (Fi : Stop.Interp) :
    ReturnsInHanded {} Tryd.checked os 8 .any ((Rows.OpenSpec.upto Rows.wordsSplitsSpec).preRow enc Tryd.prog Tryd.f8 Rows.wordsSplitsUptoRow.domain false Rows.wordsSplitsUptoRow.laid) (((Rows.OpenSpec.upto Rows.wordsSplitsSpec).at Fi).post enc Tryd.prog Tryd.f8 false true false false) := by
  obtain ⟨places, hx⟩ := wordsSplits_reads os enc
  refine law_upto (C := Tryd.checked) (s := Rows.wordsSplitsSpec) (laid := Rows.wordsSplitsUptoRow.laid) own started (by kernel_rfl) Tryd.func8 laidOut (by kernel_rfl) 4 rfl Tryd.underlying4 rfl (fun ds h => ?_)
    (witness_upto (enc := enc) (C := Tryd.checked) (World.laidAll Tryd.prog os laidL) #[.string ByteArray.empty] (World.laidAll_os _ _ _) (World.shaped_of_ZipB (by kernel_rfl) (by kernel_rfl)) (by kernel_rfl)
      (OpenSpec.preRow_of_cond 8 hx (by kernel_rfl) (fun k hk => by cases hk; kernel_rfl) (by kernel_rfl) (by rw [MakeChecks.laidMetH_plain _ _ _ (by kernel_rfl)]; exact laidMet_laidAll _ (by kernel_rfl) (by kernel_rfl)))) ?_
  · match ds, h with
    | [d0], _ => rfl
  intro W base args ds p hval0 hA0 hlt hbk hL hsh
  have hval : ∀ (j : Nat) t v, Tryd.f8.params[j]? = some t → args[j]? = some v → Value.okWide Tryd.prog W .any base t v := hval0
  have hA : DataW.TrodAll enc Tryd.prog W 0 (fun _ => true) true Tryd.f8.params.toList args.toList ds p := hA0
  rw [Tryd.params8] at hA hval
  obtain ⟨v0, vs0, d0, ds0, p0, q0, hargs, rfl, rfl, h0, r0⟩ := trodAll_cons hA
  obtain ⟨rfl, rfl, rfl⟩ := trodAll_nil r0
  obtain rfl : args = #[v0] := by cases args; simp_all
  obtain ⟨l0, rfl, hl0⟩ := open_StrU Tryd.underlying9 (hval 0 9 _ rfl rfl) h0
  simp only [Rows.uptoBulkAll] at hbk
  have HL0 : _ ≤ 1048576 := Nat.le_trans hl0 (by omega)
  exact splits_walk W (max_of hsh) l0 HL0

/-- WordsSplits: for every input of a bulk of at most 1048576 values and letters the law returns true, and the arguments read as before. -/
theorem wordsSplits_row_holds : Rows.WordsSplitsUptoSaid :=
  OpenClaim.holds_of_cond 8 Tryd.f8 rfl rfl rfl rfl rfl rfl rfl ⟨rfl, rfl, rfl, rfl, rfl⟩ rfl rfl rfl rfl rfl (by kernel_rfl) Tryd.func8 (by kernel_rfl)
    (of_decide_eq_true (by kernel_rfl)) (by unfold Func.isWrapper; rw [if_neg (of_decide_eq_false (by kernel_rfl))]; exact ⟨rfl, rfl⟩)
    (fun os started H enc _ Fi => by rw [OpenClaim.pre_eq_preRow]; exact wordsSplits_lifted os started H enc Fi)

/-- WordsSplits, the tied card, in the second form: for every input of a bulk of at most 1048576 the law returns true, and the arguments read as before; what the listed package variables hold at the start is tied to the text of the pruned copy of the project. -/
theorem wordsSplits_holds : Rows.WordsSplitsUptoCardSaid :=
  Claim7.holds_tied_plain_at .later _ _ true _ _ wordsSplits_row_holds (fun _ h => by cases h) (by kernel_rfl) (fun _ h => by cases h) wordsSplitsUpto_row_tie rfl ⟨rfl, rfl⟩ (by kernel_rfl) rfl
    (fun f fn hf hfn => by
      obtain rfl : f = 8 := Option.some.inj ((show (Tryd.prog).funcNamed "langdoc/langdoclaw03.WordsSplits" = some 8 by kernel_rfl).symm.trans hf) |>.symm
      obtain rfl : fn = Tryd.f8 := (Option.some.inj (Tryd.func8.symm.trans hfn)).symm
      exact ⟨by kernel_rfl, fun j t ht => by
        have hall : (Tryd.f8.params.toList.all fun u => !(Tryd.prog).wantsStandIn u) = true := by kernel_rfl
        have hm : t ∈ Tryd.f8.params.toList := by simpa using Array.mem_of_getElem? ht
        exact (show (Tryd.prog).wantsStandIn t = false by simpa using List.all_eq_true.1 hall t hm)⟩)
    (by kernel_rfl)

/-- The witness is read so. -/
theorem wordsLines_reads (os : Os) {H : Type} (enc : TypeId × Value → H) : ∃ places, DataW.whole enc Tryd.prog ((World.laidAll Tryd.prog os laidL).forCall (fun _ _ => 0) ⟨#[], #[.string ByteArray.empty], []⟩).memory Tryd.f10.params.toList Rows.wordsLinesSpec.vars false #[.string ByteArray.empty].toList 8 = some ([.lit (.string [])], [], places) :=
  ⟨[], by kernel_rfl⟩
set_option maxRecDepth 100000 in
theorem wordsLines_lifted (os : Os) (started : os.Started) (H : Type) (enc : TypeId × Value → H) (Fi : Stop.Interp) :
    ReturnsInHanded {} Tryd.checked os 10 .any ((Rows.OpenSpec.upto Rows.wordsLinesSpec).preRow enc Tryd.prog Tryd.f10 Rows.wordsLinesUptoRow.domain false Rows.wordsLinesUptoRow.laid) (((Rows.OpenSpec.upto Rows.wordsLinesSpec).at Fi).post enc Tryd.prog Tryd.f10 false true false false) := by
  obtain ⟨places, hx⟩ := wordsLines_reads os enc
  refine law_upto (C := Tryd.checked) (s := Rows.wordsLinesSpec) (laid := Rows.wordsLinesUptoRow.laid) own started (by kernel_rfl) Tryd.func10 laidOut (by kernel_rfl) 4 rfl Tryd.underlying4 rfl (fun ds h => ?_)
    (witness_upto (enc := enc) (C := Tryd.checked) (World.laidAll Tryd.prog os laidL) #[.string ByteArray.empty] (World.laidAll_os _ _ _) (World.shaped_of_ZipB (by kernel_rfl) (by kernel_rfl)) (by kernel_rfl)
      (OpenSpec.preRow_of_cond 8 hx (by kernel_rfl) (fun k hk => by cases hk; kernel_rfl) (by kernel_rfl) (by rw [MakeChecks.laidMetH_plain _ _ _ (by kernel_rfl)]; exact laidMet_laidAll _ (by kernel_rfl) (by kernel_rfl)))) ?_
  · match ds, h with
    | [d0], _ => rfl
  intro W base args ds p hval0 hA0 hlt hbk hL hsh
  have hval : ∀ (j : Nat) t v, Tryd.f10.params[j]? = some t → args[j]? = some v → Value.okWide Tryd.prog W .any base t v := hval0
  have hA : DataW.TrodAll enc Tryd.prog W 0 (fun _ => true) true Tryd.f10.params.toList args.toList ds p := hA0
  rw [Tryd.params10] at hA hval
  obtain ⟨v0, vs0, d0, ds0, p0, q0, hargs, rfl, rfl, h0, r0⟩ := trodAll_cons hA
  obtain ⟨rfl, rfl, rfl⟩ := trodAll_nil r0
  obtain rfl : args = #[v0] := by cases args; simp_all
  obtain ⟨l0, rfl, hl0⟩ := open_StrU Tryd.underlying9 (hval 0 9 _ rfl rfl) h0
  simp only [Rows.uptoBulkAll] at hbk
  have HL0 : _ ≤ 1048576 := Nat.le_trans hl0 (by omega)
  exact lines_walk W (max_of hsh) l0 HL0

/-- WordsLines: for every input of a bulk of at most 1048576 values and letters the law returns true, and the arguments read as before. -/
theorem wordsLines_row_holds : Rows.WordsLinesUptoSaid :=
  OpenClaim.holds_of_cond 10 Tryd.f10 rfl rfl rfl rfl rfl rfl rfl ⟨rfl, rfl, rfl, rfl, rfl⟩ rfl rfl rfl rfl rfl (by kernel_rfl) Tryd.func10 (by kernel_rfl)
    (of_decide_eq_true (by kernel_rfl)) (by unfold Func.isWrapper; rw [if_neg (of_decide_eq_false (by kernel_rfl))]; exact ⟨rfl, rfl⟩)
    (fun os started H enc _ Fi => by rw [OpenClaim.pre_eq_preRow]; exact wordsLines_lifted os started H enc Fi)

/-- WordsLines, the tied card, in the second form: for every input of a bulk of at most 1048576 the law returns true, and the arguments read as before; what the listed package variables hold at the start is tied to the text of the pruned copy of the project. -/
theorem wordsLines_holds : Rows.WordsLinesUptoCardSaid :=
  Claim7.holds_tied_plain_at .later _ _ true _ _ wordsLines_row_holds (fun _ h => by cases h) (by kernel_rfl) (fun _ h => by cases h) wordsLinesUpto_row_tie rfl ⟨rfl, rfl⟩ (by kernel_rfl) rfl
    (fun f fn hf hfn => by
      obtain rfl : f = 10 := Option.some.inj ((show (Tryd.prog).funcNamed "langdoc/langdoclaw03.WordsLines" = some 10 by kernel_rfl).symm.trans hf) |>.symm
      obtain rfl : fn = Tryd.f10 := (Option.some.inj (Tryd.func10.symm.trans hfn)).symm
      exact ⟨by kernel_rfl, fun j t ht => by
        have hall : (Tryd.f10.params.toList.all fun u => !(Tryd.prog).wantsStandIn u) = true := by kernel_rfl
        have hm : t ∈ Tryd.f10.params.toList := by simpa using Array.mem_of_getElem? ht
        exact (show (Tryd.prog).wantsStandIn t = false by simpa using List.all_eq_true.1 hall t hm)⟩)
    (by kernel_rfl)

end Go.Proofs.YtdjlfbfipkalbaaDoor
