/- The laws' rows, out of their walks. -/
import Derived.Lay
import Derived.Test.YtdjlfbfipkalbaaDoorWoZ
import Derived.Test.YtdjlfbfipkalbaaDoorWoR1
import Derived.Test.YtdjlfbfipkalbaaDoorLawK
import Derived.Test.YtdjlfbfipkalbaaDoorTie
import Derived.Test.YtdjlfbfipkalbaaDoorCards
namespace Go.Proofs.YtdjlfbfipkalbaaDoor
open Go.RowKit Go.ChangeShapes Go.WideShapes Go.ChangeAt Go.Joins Go.Deep

/-- The witness is read so. -/
theorem wordsRejoins_reads (os : Os) {H : Type} (enc : TypeId × Value → H) : ∃ places, DataW.whole enc Tryd.prog ((World.laidAll Tryd.prog os laidL).forCall (fun _ _ => 0) ⟨#[], #[.slice none 0 0, .string ByteArray.empty], []⟩).memory Tryd.f9.params.toList Rows.wordsRejoinsSpec.vars false #[.slice none 0 0, .string ByteArray.empty].toList 8 = some ([.nil, .lit (.string [])], [], places) :=
  ⟨[], by kernel_rfl⟩
set_option maxRecDepth 100000 in
theorem wordsRejoins_lifted (os : Os) (started : os.Started) (H : Type) (enc : TypeId × Value → H) (Fi : Stop.Interp) :
    ReturnsInHanded {} Tryd.checked os 9 .any ((Rows.OpenSpec.upto Rows.wordsRejoinsSpec).preRow enc Tryd.prog Tryd.f9 Rows.wordsRejoinsUptoRow.domain false Rows.wordsRejoinsUptoRow.laid) (((Rows.OpenSpec.upto Rows.wordsRejoinsSpec).at Fi).post enc Tryd.prog Tryd.f9 false true false false) := by
  obtain ⟨places, hx⟩ := wordsRejoins_reads os enc
  refine law_upto (C := Tryd.checked) (s := Rows.wordsRejoinsSpec) (laid := Rows.wordsRejoinsUptoRow.laid) own started (by kernel_rfl) Tryd.func9 laidOut (by kernel_rfl) 4 rfl Tryd.underlying4 rfl (fun ds h => ?_)
    (witness_upto (enc := enc) (C := Tryd.checked) (World.laidAll Tryd.prog os laidL) #[.slice none 0 0, .string ByteArray.empty] (World.laidAll_os _ _ _) (World.shaped_of_ZipB (by kernel_rfl) (by kernel_rfl)) (by kernel_rfl)
      (OpenSpec.preRow_of_cond 8 hx (by kernel_rfl) (fun k hk => by cases hk; kernel_rfl) (by kernel_rfl) (by rw [MakeChecks.laidMetH_plain _ _ _ (by kernel_rfl)]; exact laidMet_laidAll _ (by kernel_rfl) (by kernel_rfl)))) ?_
  · match ds, h with
    | [d0, d1], _ => rfl
  intro W base args ds p hval0 hA0 hlt hbk hL hsh
  have hval : ∀ (j : Nat) t v, Tryd.f9.params[j]? = some t → args[j]? = some v → Value.okWide Tryd.prog W .any base t v := hval0
  have hA : DataW.TrodAll enc Tryd.prog W 0 (fun _ => true) true Tryd.f9.params.toList args.toList ds p := hA0
  rw [Tryd.params9] at hA hval
  obtain ⟨v0, vs0, d0, ds0, p0, q0, hargs, rfl, rfl, h0, r0⟩ := trodAll_cons hA
  obtain ⟨v1, vs1, d1, ds1, p1, q1, rfl, rfl, rfl, h1, r1⟩ := trodAll_cons r0
  obtain ⟨rfl, rfl, rfl⟩ := trodAll_nil r1
  obtain rfl : args = #[v0, v1] := by cases args; simp_all
  obtain ⟨A0, l0, cap0, rfl, hl0, hr0⟩ := open_StrsU Tryd.underlying28 Tryd.underlying9 (by kernel_rfl) (hval 0 28 _ rfl rfl) h0 (fun x hx => hlt x (by simp [hx]))
  obtain ⟨l1, rfl, hl1⟩ := open_StrU Tryd.underlying9 (hval 1 9 _ rfl rfl) h1
  simp only [Rows.uptoBulkAll] at hbk
  have HL0 : _ ≤ 1048576 := Nat.le_trans hl0 (by omega)
  have HL1 : _ ≤ 1048576 := Nat.le_trans hl1 (by omega)
  exact rejoins_walk W (max_of hsh) l0 A0 cap0 HL0 hr0 l1 HL1

/-- WordsRejoins: for every input of a bulk of at most 1048576 values and letters the law returns true, and the arguments read as before. -/
theorem wordsRejoins_row_holds : Rows.WordsRejoinsUptoSaid :=
  OpenClaim.holds_of_cond 9 Tryd.f9 rfl rfl rfl rfl rfl rfl rfl ⟨rfl, rfl, rfl, rfl, rfl⟩ rfl rfl rfl rfl rfl (by kernel_rfl) Tryd.func9 (by kernel_rfl)
    (of_decide_eq_true (by kernel_rfl)) (by unfold Func.isWrapper; rw [if_neg (of_decide_eq_false (by kernel_rfl))]; exact ⟨rfl, rfl⟩)
    (fun os started H enc _ Fi => by rw [OpenClaim.pre_eq_preRow]; exact wordsRejoins_lifted os started H enc Fi)

/-- WordsRejoins, the tied card, in the second form: for every input of a bulk of at most 1048576 the law returns true, and the arguments read as before; what the listed package variables hold at the start is tied to the text of the pruned copy of the project. -/
theorem wordsRejoins_holds : Rows.WordsRejoinsUptoCardSaid :=
  Claim7.holds_tied_plain_at .later _ _ true _ _ wordsRejoins_row_holds (fun _ h => by cases h) (by kernel_rfl) (fun _ h => by cases h) wordsRejoinsUpto_row_tie rfl ⟨rfl, rfl⟩ (by kernel_rfl) rfl
    (fun f fn hf hfn => by
      obtain rfl : f = 9 := Option.some.inj ((show (Tryd.prog).funcNamed "langdoc/langdoclaw03.WordsRejoins" = some 9 by kernel_rfl).symm.trans hf) |>.symm
      obtain rfl : fn = Tryd.f9 := (Option.some.inj (Tryd.func9.symm.trans hfn)).symm
      exact ⟨by kernel_rfl, fun j t ht => by
        have hall : (Tryd.f9.params.toList.all fun u => !(Tryd.prog).wantsStandIn u) = true := by kernel_rfl
        have hm : t ∈ Tryd.f9.params.toList := by simpa using Array.mem_of_getElem? ht
        exact (show (Tryd.prog).wantsStandIn t = false by simpa using List.all_eq_true.1 hall t hm)⟩)
    (by kernel_rfl)

/-- The witness is read so. -/
theorem wordsReads_reads (os : Os) {H : Type} (enc : TypeId × Value → H) : ∃ places, DataW.whole enc Tryd.prog ((World.laidAll Tryd.prog os laidL).forCall (fun _ _ => 0) ⟨#[], #[.slice none 0 0, .string ByteArray.empty], []⟩).memory Tryd.f12.params.toList Rows.wordsReadsSpec.vars false #[.slice none 0 0, .string ByteArray.empty].toList 8 = some ([.nil, .lit (.string [])], [], places) :=
  ⟨[], by kernel_rfl⟩
set_option maxRecDepth 100000 in
theorem wordsReads_lifted (os : Os) (started : os.Started) (H : Type) (enc : TypeId × Value → H) (Fi : Stop.Interp) :
    ReturnsInHanded {} Tryd.checked os 12 .any ((Rows.OpenSpec.upto Rows.wordsReadsSpec).preRow enc Tryd.prog Tryd.f12 Rows.wordsReadsUptoRow.domain false Rows.wordsReadsUptoRow.laid) (((Rows.OpenSpec.upto Rows.wordsReadsSpec).at Fi).post enc Tryd.prog Tryd.f12 false true false false) := by
  obtain ⟨places, hx⟩ := wordsReads_reads os enc
  refine law_upto (C := Tryd.checked) (s := Rows.wordsReadsSpec) (laid := Rows.wordsReadsUptoRow.laid) own started (by kernel_rfl) Tryd.func12 laidOut (by kernel_rfl) 4 rfl Tryd.underlying4 rfl (fun ds h => ?_)
    (witness_upto (enc := enc) (C := Tryd.checked) (World.laidAll Tryd.prog os laidL) #[.slice none 0 0, .string ByteArray.empty] (World.laidAll_os _ _ _) (World.shaped_of_ZipB (by kernel_rfl) (by kernel_rfl)) (by kernel_rfl)
      (OpenSpec.preRow_of_cond 8 hx (by kernel_rfl) (fun k hk => by cases hk; kernel_rfl) (by kernel_rfl) (by rw [MakeChecks.laidMetH_plain _ _ _ (by kernel_rfl)]; exact laidMet_laidAll _ (by kernel_rfl) (by kernel_rfl)))) ?_
  · match ds, h with
    | [d0, d1], _ => rfl
  intro W base args ds p hval0 hA0 hlt hbk hL hsh
  have hval : ∀ (j : Nat) t v, Tryd.f12.params[j]? = some t → args[j]? = some v → Value.okWide Tryd.prog W .any base t v := hval0
  have hA : DataW.TrodAll enc Tryd.prog W 0 (fun _ => true) true Tryd.f12.params.toList args.toList ds p := hA0
  rw [Tryd.params12] at hA hval
  obtain ⟨v0, vs0, d0, ds0, p0, q0, hargs, rfl, rfl, h0, r0⟩ := trodAll_cons hA
  obtain ⟨v1, vs1, d1, ds1, p1, q1, rfl, rfl, rfl, h1, r1⟩ := trodAll_cons r0
  obtain ⟨rfl, rfl, rfl⟩ := trodAll_nil r1
  obtain rfl : args = #[v0, v1] := by cases args; simp_all
  obtain ⟨A0, l0, cap0, rfl, hl0, hr0⟩ := open_StrsU Tryd.underlying28 Tryd.underlying9 (by kernel_rfl) (hval 0 28 _ rfl rfl) h0 (fun x hx => hlt x (by simp [hx]))
  obtain ⟨l1, rfl, hl1⟩ := open_StrU Tryd.underlying9 (hval 1 9 _ rfl rfl) h1
  simp only [Rows.uptoBulkAll] at hbk
  have HL0 : _ ≤ 1048576 := Nat.le_trans hl0 (by omega)
  have HL1 : _ ≤ 1048576 := Nat.le_trans hl1 (by omega)
  exact reads_walk W (max_of hsh) l0 A0 cap0 HL0 hr0 l1 HL1

/-- WordsReads: for every input of a bulk of at most 1048576 values and letters the law returns true, and the arguments read as before. -/
theorem wordsReads_row_holds : Rows.WordsReadsUptoSaid :=
  OpenClaim.holds_of_cond 12 Tryd.f12 rfl rfl rfl rfl rfl rfl rfl ⟨rfl, rfl, rfl, rfl, rfl⟩ rfl rfl rfl rfl rfl (by kernel_rfl) Tryd.func12 (by kernel_rfl)
    (of_decide_eq_true (by kernel_rfl)) (by unfold Func.isWrapper; rw [if_neg (of_decide_eq_false (by kernel_rfl))]; exact ⟨rfl, rfl⟩)
    (fun os started H enc _ Fi => by rw [OpenClaim.pre_eq_preRow]; exact wordsReads_lifted os started H enc Fi)

/-- WordsReads, the tied card, in the second form: for every input of a bulk of at most 1048576 the law returns true, and the arguments read as before; what the listed package variables hold at the start is tied to the text of the pruned copy of the project. -/
theorem wordsReads_holds : Rows.WordsReadsUptoCardSaid :=
  Claim7.holds_tied_plain_at .later _ _ true _ _ wordsReads_row_holds (fun _ h => by cases h) (by kernel_rfl) (fun _ h => by cases h) wordsReadsUpto_row_tie rfl ⟨rfl, rfl⟩ (by kernel_rfl) rfl
    (fun f fn hf hfn => by
      obtain rfl : f = 12 := Option.some.inj ((show (Tryd.prog).funcNamed "langdoc/langdoclaw03.WordsReads" = some 12 by kernel_rfl).symm.trans hf) |>.symm
      obtain rfl : fn = Tryd.f12 := (Option.some.inj (Tryd.func12.symm.trans hfn)).symm
      exact ⟨by kernel_rfl, fun j t ht => by
        have hall : (Tryd.f12.params.toList.all fun u => !(Tryd.prog).wantsStandIn u) = true := by kernel_rfl
        have hm : t ∈ Tryd.f12.params.toList := by simpa using Array.mem_of_getElem? ht
        exact (show (Tryd.prog).wantsStandIn t = false by simpa using List.all_eq_true.1 hall t hm)⟩)
    (by kernel_rfl)

end Go.Proofs.YtdjlfbfipkalbaaDoor
