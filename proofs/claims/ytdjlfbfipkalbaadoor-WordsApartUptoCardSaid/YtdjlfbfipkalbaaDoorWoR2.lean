/- The laws' rows, out of their walks. -/
import Derived.Lay
import Derived.Test.YtdjlfbfipkalbaaDoorWoZ
import Derived.Test.YtdjlfbfipkalbaaDoorWoR1
import Derived.Test.YtdjlfbfipkalbaaDoorLawK
import Derived.Test.YtdjlfbfipkalbaaDoorTie
import Derived.Test.YtdjlfbfipkalbaaDoorCards
namespace Go.Proofs.YtdjlfbfipkalbaaDoor
open Go.RowKit Go.ChangeShapes Go.WideShapes Go.ChangeAt Go.Joins Go.Deep

/-- The witness is read so. -/
theorem wordsApart_reads (os : Os) {H : Type} (enc : TypeId × Value → H) : ∃ places, DataW.whole enc Tryd.prog ((World.laidAll Tryd.prog os laidL).forCall (fun _ _ => 0) ⟨#[], #[.string ByteArray.empty, .string ByteArray.empty], []⟩).memory Tryd.f6.params.toList Rows.wordsApartSpec.vars false #[.string ByteArray.empty, .string ByteArray.empty].toList 8 = some ([.lit (.string []), .lit (.string [])], [], places) :=
  ⟨[], by kernel_rfl⟩
set_option maxRecDepth 100000 in
theorem wordsApart_lifted (os : Os) (started : os.Started) (H : Type) (enc : TypeId × Value → H) (Fi : Stop.Interp) :
    ReturnsInHanded {} Tryd.checked os 6 .any ((Rows.OpenSpec.upto Rows.wordsApartSpec).preRow enc Tryd.prog Tryd.f6 Rows.wordsApartUptoRow.domain false Rows.wordsApartUptoRow.laid) (((Rows.OpenSpec.upto Rows.wordsApartSpec).at Fi).post enc Tryd.prog Tryd.f6 false true false false) := by
  obtain ⟨places, hx⟩ := wordsApart_reads os enc
  refine law_upto (C := Tryd.checked) (s := Rows.wordsApartSpec) (laid := Rows.wordsApartUptoRow.laid) own started (by kernel_rfl) Tryd.func6 laidOut (by kernel_rfl) 4 rfl Tryd.underlying4 rfl (fun ds h => ?_)
    (witness_upto (enc := enc) (C := Tryd.checked) (World.laidAll Tryd.prog os laidL) #[.string ByteArray.empty, .string ByteArray.empty] (World.laidAll_os _ _ _) (World.shaped_of_ZipB (by kernel_rfl) (by kernel_rfl)) (by kernel_rfl)
      (OpenSpec.preRow_of_cond 8 hx (by kernel_rfl) (fun k hk => by cases hk; kernel_rfl) (by kernel_rfl) (by rw [MakeChecks.laidMetH_plain _ _ _ (by kernel_rfl)]; exact laidMet_laidAll _ (by kernel_rfl) (by kernel_rfl)))) ?_
  · match ds, h with
    | [d0, d1], _ => rfl
  intro W base args ds p hval0 hA0 hlt hbk hL hsh
  have hval : ∀ (j : Nat) t v, Tryd.f6.params[j]? = some t → args[j]? = some v → Value.okWide Tryd.prog W .any base t v := hval0
  have hA : DataW.TrodAll enc Tryd.prog W 0 (fun _ => true) true Tryd.f6.params.toList args.toList ds p := hA0
  rw [Tryd.params6] at hA hval
  obtain ⟨v0, vs0, d0, ds0, p0, q0, hargs, rfl, rfl, h0, r0⟩ := trodAll_cons hA
  obtain ⟨v1, vs1, d1, ds1, p1, q1, rfl, rfl, rfl, h1, r1⟩ := trodAll_cons r0
  obtain ⟨rfl, rfl, rfl⟩ := trodAll_nil r1
  obtain rfl : args = #[v0, v1] := by cases args; simp_all
  obtain ⟨l0, rfl, hl0⟩ := open_StrU Tryd.underlying9 (hval 0 9 _ rfl rfl) h0
  obtain ⟨l1, rfl, hl1⟩ := open_StrU Tryd.underlying9 (hval 1 9 _ rfl rfl) h1
  simp only [Rows.uptoBulkAll] at hbk
  have HL0 : _ ≤ 1048576 := Nat.le_trans hl0 (by omega)
  have HL1 : _ ≤ 1048576 := Nat.le_trans hl1 (by omega)
  exact apart_walk W (max_of hsh) l0 HL0 l1 HL1

/-- WordsApart: for every input of a bulk of at most 1048576 values and letters the law returns true, and the arguments read as before. -/
theorem wordsApart_row_holds : Rows.WordsApartUptoSaid :=
  OpenClaim.holds_of_cond 6 Tryd.f6 rfl rfl rfl rfl rfl rfl rfl ⟨rfl, rfl, rfl, rfl, rfl⟩ rfl rfl rfl rfl rfl (by kernel_rfl) Tryd.func6 (by kernel_rfl)
    (of_decide_eq_true (by kernel_rfl)) (by unfold Func.isWrapper; rw [if_neg (of_decide_eq_false (by kernel_rfl))]; exact ⟨rfl, rfl⟩)
    (fun os started H enc _ Fi => by rw [OpenClaim.pre_eq_preRow]; exact wordsApart_lifted os started H enc Fi)

/-- WordsApart, the tied card, in the second form: for every input of a bulk of at most 1048576 the law returns true, and the arguments read as before; what the listed package variables hold at the start is tied to the text of the pruned copy of the project. -/
theorem wordsApart_holds : Rows.WordsApartUptoCardSaid :=
  Claim7.holds_tied_plain_at .later _ _ true _ _ wordsApart_row_holds (fun _ h => by cases h) (by kernel_rfl) (fun _ h => by cases h) wordsApartUpto_row_tie rfl ⟨rfl, rfl⟩ (by kernel_rfl) rfl
    (fun f fn hf hfn => by
      obtain rfl : f = 6 := Option.some.inj ((show (Tryd.prog).funcNamed "langdoc/langdoclaw03.WordsApart" = some 6 by kernel_rfl).symm.trans hf) |>.symm
      obtain rfl : fn = Tryd.f6 := (Option.some.inj (Tryd.func6.symm.trans hfn)).symm
      exact ⟨by kernel_rfl, fun j t ht => by
        have hall : (Tryd.f6.params.toList.all fun u => !(Tryd.prog).wantsStandIn u) = true := by kernel_rfl
        have hm : t ∈ Tryd.f6.params.toList := by simpa using Array.mem_of_getElem? ht
        exact (show (Tryd.prog).wantsStandIn t = false by simpa using List.all_eq_true.1 hall t hm)⟩)
    (by kernel_rfl)

/-- The witness is read so. -/
theorem wordsJoins_reads (os : Os) {H : Type} (enc : TypeId × Value → H) : ∃ places, DataW.whole enc Tryd.prog ((World.laidAll Tryd.prog os laidL).forCall (fun _ _ => 0) ⟨#[], #[.slice none 0 0], []⟩).memory Tryd.f7.params.toList Rows.wordsJoinsSpec.vars false #[.slice none 0 0].toList 8 = some ([.nil], [], places) :=
  ⟨[], by kernel_rfl⟩
set_option maxRecDepth 100000 in
theorem wordsJoins_lifted (os : Os) (started : os.Started) (H : Type) (enc : TypeId × Value → H) (Fi : Stop.Interp) :
    ReturnsInHanded {} Tryd.checked os 7 .any ((Rows.OpenSpec.upto Rows.wordsJoinsSpec).preRow enc Tryd.prog Tryd.f7 Rows.wordsJoinsUptoRow.domain false Rows.wordsJoinsUptoRow.laid) (((Rows.OpenSpec.upto Rows.wordsJoinsSpec).at Fi).post enc Tryd.prog Tryd.f7 false true false false) := by
  obtain ⟨places, hx⟩ := wordsJoins_reads os enc
  refine law_upto (C := Tryd.checked) (s := Rows.wordsJoinsSpec) (laid := Rows.wordsJoinsUptoRow.laid) own started (by kernel_rfl) Tryd.func7 laidOut (by kernel_rfl) 4 rfl Tryd.underlying4 rfl (fun ds h => ?_)
    (witness_upto (enc := enc) (C := Tryd.checked) (World.laidAll Tryd.prog os laidL) #[.slice none 0 0] (World.laidAll_os _ _ _) (World.shaped_of_ZipB (by kernel_rfl) (by kernel_rfl)) (by kernel_rfl)
      (OpenSpec.preRow_of_cond 8 hx (by kernel_rfl) (fun k hk => by cases hk; kernel_rfl) (by kernel_rfl) (by rw [MakeChecks.laidMetH_plain _ _ _ (by kernel_rfl)]; exact laidMet_laidAll _ (by kernel_rfl) (by kernel_rfl)))) ?_
  · match ds, h with
    | [d0], _ => rfl
  intro W base args ds p hval0 hA0 hlt hbk hL hsh
  have hval : ∀ (j : Nat) t v, Tryd.f7.params[j]? = some t → args[j]? = some v → Value.okWide Tryd.prog W .any base t v := hval0
  have hA : DataW.TrodAll enc Tryd.prog W 0 (fun _ => true) true Tryd.f7.params.toList args.toList ds p := hA0
  rw [Tryd.params7] at hA hval
  obtain ⟨v0, vs0, d0, ds0, p0, q0, hargs, rfl, rfl, h0, r0⟩ := trodAll_cons hA
  obtain ⟨rfl, rfl, rfl⟩ := trodAll_nil r0
  obtain rfl : args = #[v0] := by cases args; simp_all
  obtain ⟨A0, l0, cap0, rfl, hl0, hr0⟩ := open_StrsU Tryd.underlying28 Tryd.underlying9 (by kernel_rfl) (hval 0 28 _ rfl rfl) h0 (fun x hx => hlt x (by simp [hx]))
  simp only [Rows.uptoBulkAll] at hbk
  have HL0 : _ ≤ 1048576 := Nat.le_trans hl0 (by omega)
  exact joins_walk W (max_of hsh) l0 A0 cap0 HL0 hr0

/-- WordsJoins: for every input of a bulk of at most 1048576 values and letters the law returns true, and the arguments read as before. -/
theorem wordsJoins_row_holds : Rows.WordsJoinsUptoSaid :=
  OpenClaim.holds_of_cond 7 Tryd.f7 rfl rfl rfl rfl rfl rfl rfl ⟨rfl, rfl, rfl, rfl, rfl⟩ rfl rfl rfl rfl rfl (by kernel_rfl) Tryd.func7 (by kernel_rfl)
    (of_decide_eq_true (by kernel_rfl)) (by unfold Func.isWrapper; rw [if_neg (of_decide_eq_false (by kernel_rfl))]; exact ⟨rfl, rfl⟩)
    (fun os started H enc _ Fi => by rw [OpenClaim.pre_eq_preRow]; exact wordsJoins_lifted os started H enc Fi)

/-- WordsJoins, the tied card, in the second form: for every input of a bulk of at most 1048576 the law returns true, and the arguments read as before; what the listed package variables hold at the start is tied to the text of the pruned copy of the project. -/
theorem wordsJoins_holds : Rows.WordsJoinsUptoCardSaid :=
  Claim7.holds_tied_plain_at .later _ _ true _ _ wordsJoins_row_holds (fun _ h => by cases h) (by kernel_rfl) (fun _ h => by cases h) wordsJoinsUpto_row_tie rfl ⟨rfl, rfl⟩ (by kernel_rfl) rfl
    (fun f fn hf hfn => by
      obtain rfl : f = 7 := Option.some.inj ((show (Tryd.prog).funcNamed "langdoc/langdoclaw03.WordsJoins" = some 7 by kernel_rfl).symm.trans hf) |>.symm
      obtain rfl : fn = Tryd.f7 := (Option.some.inj (Tryd.func7.symm.trans hfn)).symm
      exact ⟨by kernel_rfl, fun j t ht => by
        have hall : (Tryd.f7.params.toList.all fun u => !(Tryd.prog).wantsStandIn u) = true := by kernel_rfl
        have hm : t ∈ Tryd.f7.params.toList := by simpa using Array.mem_of_getElem? ht
        exact (show (Tryd.prog).wantsStandIn t = false by simpa using List.all_eq_true.1 hall t hm)⟩)
    (by kernel_rfl)

/-- The witness is read so. -/
theorem wordsTexts_reads (os : Os) {H : Type} (enc : TypeId × Value → H) : ∃ places, DataW.whole enc Tryd.prog ((World.laidAll Tryd.prog os laidL).forCall (fun _ _ => 0) ⟨#[], #[.slice none 0 0], []⟩).memory Tryd.f11.params.toList Rows.wordsTextsSpec.vars false #[.slice none 0 0].toList 8 = some ([.nil], [], places) :=
  ⟨[], by kernel_rfl⟩
set_option maxRecDepth 100000 in
theorem wordsTexts_lifted (os : Os) (started : os.Started) (H : Type) (enc : TypeId × Value → H) (Fi : Stop.Interp) :
    ReturnsInHanded {} Tryd.checked os 11 .any ((Rows.OpenSpec.upto Rows.wordsTextsSpec).preRow enc Tryd.prog Tryd.f11 Rows.wordsTextsUptoRow.domain false Rows.wordsTextsUptoRow.laid) (((Rows.OpenSpec.upto Rows.wordsTextsSpec).at Fi).post enc Tryd.prog Tryd.f11 false true false false) := by
  obtain ⟨places, hx⟩ := wordsTexts_reads os enc
  refine law_upto (C := Tryd.checked) (s := Rows.wordsTextsSpec) (laid := Rows.wordsTextsUptoRow.laid) own started (by kernel_rfl) Tryd.func11 laidOut (by kernel_rfl) 4 rfl Tryd.underlying4 rfl (fun ds h => ?_)
    (witness_upto (enc := enc) (C := Tryd.checked) (World.laidAll Tryd.prog os laidL) #[.slice none 0 0] (World.laidAll_os _ _ _) (World.shaped_of_ZipB (by kernel_rfl) (by kernel_rfl)) (by kernel_rfl)
      (OpenSpec.preRow_of_cond 8 hx (by kernel_rfl) (fun k hk => by cases hk; kernel_rfl) (by kernel_rfl) (by rw [MakeChecks.laidMetH_plain _ _ _ (by kernel_rfl)]; exact laidMet_laidAll _ (by kernel_rfl) (by kernel_rfl)))) ?_
  · match ds, h with
    | [d0], _ => rfl
  intro W base args ds p hval0 hA0 hlt hbk hL hsh
  have hval : ∀ (j : Nat) t v, Tryd.f11.params[j]? = some t → args[j]? = some v → Value.okWide Tryd.prog W .any base t v := hval0
  have hA : DataW.TrodAll enc Tryd.prog W 0 (fun _ => true) true Tryd.f11.params.toList args.toList ds p := hA0
  rw [Tryd.params11] at hA hval
  obtain ⟨v0, vs0, d0, ds0, p0, q0, hargs, rfl, rfl, h0, r0⟩ := trodAll_cons hA
  obtain ⟨rfl, rfl, rfl⟩ := trodAll_nil r0
  obtain rfl : args = #[v0] := by cases args; simp_all
  obtain ⟨A0, l0, cap0, rfl, hl0, hr0⟩ := open_StrsU Tryd.underlying28 Tryd.underlying9 (by kernel_rfl) (hval 0 28 _ rfl rfl) h0 (fun x hx => hlt x (by simp [hx]))
  simp only [Rows.uptoBulkAll] at hbk
  have HL0 : _ ≤ 1048576 := Nat.le_trans hl0 (by omega)
  exact texts_walk W (max_of hsh) l0 A0 cap0 HL0 hr0

/-- WordsTexts: for every input of a bulk of at most 1048576 values and letters the law returns true, and the arguments read as before. -/
theorem wordsTexts_row_holds : Rows.WordsTextsUptoSaid :=
  OpenClaim.holds_of_cond 11 Tryd.f11 rfl rfl rfl rfl rfl rfl rfl ⟨rfl, rfl, rfl, rfl, rfl⟩ rfl rfl rfl rfl rfl (by kernel_rfl) Tryd.func11 (by kernel_rfl)
    (of_decide_eq_true (by kernel_rfl)) (by unfold Func.isWrapper; rw [if_neg (of_decide_eq_false (by kernel_rfl))]; exact ⟨rfl, rfl⟩)
    (fun os started H enc _ Fi => by rw [OpenClaim.pre_eq_preRow]; exact wordsTexts_lifted os started H enc Fi)

/-- WordsTexts, the tied card, in the second form: for every input of a bulk of at most 1048576 the law returns true, and the arguments read as before; what the listed package variables hold at the start is tied to the text of the pruned copy of the project. -/
theorem wordsTexts_holds : Rows.WordsTextsUptoCardSaid :=
  Claim7.holds_tied_plain_at .later _ _ true _ _ wordsTexts_row_holds (fun _ h => by cases h) (by kernel_rfl) (fun _ h => by cases h) wordsTextsUpto_row_tie rfl ⟨rfl, rfl⟩ (by kernel_rfl) rfl
    (fun f fn hf hfn => by
      obtain rfl : f = 11 := Option.some.inj ((show (Tryd.prog).funcNamed "langdoc/langdoclaw03.WordsTexts" = some 11 by kernel_rfl).symm.trans hf) |>.symm
      obtain rfl : fn = Tryd.f11 := (Option.some.inj (Tryd.func11.symm.trans hfn)).symm
      exact ⟨by kernel_rfl, fun j t ht => by
        have hall : (Tryd.f11.params.toList.all fun u => !(Tryd.prog).wantsStandIn u) = true := by kernel_rfl
        have hm : t ∈ Tryd.f11.params.toList := by simpa using Array.mem_of_getElem? ht
        exact (show (Tryd.prog).wantsStandIn t = false by simpa using List.all_eq_true.1 hall t hm)⟩)
    (by kernel_rfl)

end Go.Proofs.YtdjlfbfipkalbaaDoor
