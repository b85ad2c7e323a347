/-
  No cell of these rows narrows 'for every input' (looked for: loops, veiled, ifaces, maps, wideKeys, modest, calm, conditions, laid).
  DERIVED. THE GIVEN ROWS OF THIS SEAT. 8 by the template 'for every input the law returns true; each argument reads behind the call as it read before'; 0 by the template 'total and deterministic' (their statements: YtopedbkefncfnaaTotals.lean).
  GIVEN WITH THE SEED: the statements are not yours to turn. If you find one false, say at which input.
  Laid BY PROGRAM, IN A SANDBOX (cutbox-rows.mjs): the forced cells as the released guide's own fill.sh prints them over the translation 775a766f3c7d065c… (all of the seat's roots in one cut). By AI agents, Wed Nov 11 2026. No macro, syntax, notation, axiom, sorry.
-/
import Derived.Test.YtopedbkefncfnaaChecked
import GoSem.Claim
import GoSem.ClaimJoined
import GoSem.ClaimMapViews
import Derived.JoinedTies
import Derived.KernelRfl
namespace Go.Proofs.Ytopedbkefncfnaa
/- THE CELL 'sum', in the pinned program and in every row, IS THE sha256 OF THE DUMP (.gsa) THAT YtopedbkefncfnaaProg.lean LOADS. Nothing in Lean hashes anything: it is a label: what it is worth is what the hold of that sum in a sandbox is worth. -/
noncomputable def Try.pinned : Pinned := { name := "ytopedbkefncfnaa", sum := "775a766f3c7d065c747b02bb26c098b882d24759d557aac9178bff45edd90252", checked := Try.checked }
namespace Rows
def none {H : Type} : Left H := { results := [], args := [] }

/-- 'langdoclaw05.SumsCrc': WHATEVER THE INPUT: true; the input reads as it did. -/
def sumsCrcSpec : ChangeSpec := { name := "sumsCrc", fn := fun _ => fun
  | [d] => { results := [.lit (.bool true)], args := [d] }
  | _ => none }
def sumsCrcRow : OpenClaim := { program := "ytopedbkefncfnaa", sum := "775a766f3c7d065c747b02bb26c098b882d24759d557aac9178bff45edd90252", func := "langdoc/langdoclaw05.SumsCrc", spec := "sumsCrc", inPlace := ["internal/bytealg.IndexByteString"], apart := false }
def SumsCrcSaid : Prop := sumsCrcRow.holds Try.pinned (OpenSpec.ofChange sumsCrcSpec)

/-- ITS FALSE NEIGHBOUR: 'it returns false'. Refute it at one input. -/
def sumsCrcWrong : ChangeSpec := { name := "sumsCrc", fn := fun _ => fun
  | [d] => { results := [.lit (.bool false)], args := [d] }
  | _ => none }
def SumsCrcWrongFalsely : Prop := sumsCrcRow.holds Try.pinned (OpenSpec.ofChange sumsCrcWrong)

/-- 'langdoclaw05.SumsHash': WHATEVER THE INPUT: true; the input reads as it did. -/
def sumsHashSpec : ChangeSpec := { name := "sumsHash", fn := fun _ => fun
  | [d1, d2] => { results := [.lit (.bool true)], args := [d1, d2] }
  | _ => none }
def sumsHashRow : OpenClaim := { program := "ytopedbkefncfnaa", sum := "775a766f3c7d065c747b02bb26c098b882d24759d557aac9178bff45edd90252", func := "langdoc/langdoclaw05.SumsHash", spec := "sumsHash", inPlace := ["internal/bytealg.IndexByteString"], apart := false }
def SumsHashSaid : Prop := sumsHashRow.holds Try.pinned (OpenSpec.ofChange sumsHashSpec)

/-- ITS FALSE NEIGHBOUR: 'it returns false'. Refute it at one input. -/
def sumsHashWrong : ChangeSpec := { name := "sumsHash", fn := fun _ => fun
  | [d1, d2] => { results := [.lit (.bool false)], args := [d1, d2] }
  | _ => none }
def SumsHashWrongFalsely : Prop := sumsHashRow.holds Try.pinned (OpenSpec.ofChange sumsHashWrong)

/-- 'langdoclaw05.SumsHex': WHATEVER THE INPUT: true; the input reads as it did. -/
def sumsHexSpec : ChangeSpec := { name := "sumsHex", fn := fun _ => fun
  | [d] => { results := [.lit (.bool true)], args := [d] }
  | _ => none }
def sumsHexRow : OpenClaim := { program := "ytopedbkefncfnaa", sum := "775a766f3c7d065c747b02bb26c098b882d24759d557aac9178bff45edd90252", func := "langdoc/langdoclaw05.SumsHex", spec := "sumsHex", inPlace := ["internal/bytealg.IndexByteString"], apart := false }
def SumsHexSaid : Prop := sumsHexRow.holds Try.pinned (OpenSpec.ofChange sumsHexSpec)

/-- ITS FALSE NEIGHBOUR: 'it returns false'. Refute it at one input. -/
def sumsHexWrong : ChangeSpec := { name := "sumsHex", fn := fun _ => fun
  | [d] => { results := [.lit (.bool false)], args := [d] }
  | _ => none }
def SumsHexWrongFalsely : Prop := sumsHexRow.holds Try.pinned (OpenSpec.ofChange sumsHexWrong)

/-- 'langdoclaw05.SumsUnhex': WHATEVER THE INPUT: true; the input reads as it did. -/
def sumsUnhexSpec : ChangeSpec := { name := "sumsUnhex", fn := fun _ => fun
  | [d] => { results := [.lit (.bool true)], args := [d] }
  | _ => none }
def sumsUnhexRow : OpenClaim := { program := "ytopedbkefncfnaa", sum := "775a766f3c7d065c747b02bb26c098b882d24759d557aac9178bff45edd90252", func := "langdoc/langdoclaw05.SumsUnhex", spec := "sumsUnhex", inPlace := ["internal/bytealg.IndexByteString"], apart := false }
def SumsUnhexSaid : Prop := sumsUnhexRow.holds Try.pinned (OpenSpec.ofChange sumsUnhexSpec)

/-- ITS FALSE NEIGHBOUR: 'it returns false'. Refute it at one input. -/
def sumsUnhexWrong : ChangeSpec := { name := "sumsUnhex", fn := fun _ => fun
  | [d] => { results := [.lit (.bool false)], args := [d] }
  | _ => none }
def SumsUnhexWrongFalsely : Prop := sumsUnhexRow.holds Try.pinned (OpenSpec.ofChange sumsUnhexWrong)

/-- 'langdoclaw05.SumsBack': WHATEVER THE INPUT: true; the input reads as it did. -/
def sumsBackSpec : ChangeSpec := { name := "sumsBack", fn := fun _ => fun
  | [d1, d2] => { results := [.lit (.bool true)], args := [d1, d2] }
  | _ => none }
def sumsBackRow : OpenClaim := { program := "ytopedbkefncfnaa", sum := "775a766f3c7d065c747b02bb26c098b882d24759d557aac9178bff45edd90252", func := "langdoc/langdoclaw05.SumsBack", spec := "sumsBack", inPlace := ["internal/bytealg.IndexByteString"], apart := false }
def SumsBackSaid : Prop := sumsBackRow.holds Try.pinned (OpenSpec.ofChange sumsBackSpec)

/-- ITS FALSE NEIGHBOUR: 'it returns false'. Refute it at one input. -/
def sumsBackWrong : ChangeSpec := { name := "sumsBack", fn := fun _ => fun
  | [d1, d2] => { results := [.lit (.bool false)], args := [d1, d2] }
  | _ => none }
def SumsBackWrongFalsely : Prop := sumsBackRow.holds Try.pinned (OpenSpec.ofChange sumsBackWrong)

/-- 'langdoclaw05.SumsMore': WHATEVER THE INPUT: true; the input reads as it did. -/
def sumsMoreSpec : ChangeSpec := { name := "sumsMore", fn := fun _ => fun
  | [d1, d2, d3] => { results := [.lit (.bool true)], args := [d1, d2, d3] }
  | _ => none }
def sumsMoreRow : OpenClaim := { program := "ytopedbkefncfnaa", sum := "775a766f3c7d065c747b02bb26c098b882d24759d557aac9178bff45edd90252", func := "langdoc/langdoclaw05.SumsMore", spec := "sumsMore", inPlace := ["internal/bytealg.IndexByteString"], apart := false }
def SumsMoreSaid : Prop := sumsMoreRow.holds Try.pinned (OpenSpec.ofChange sumsMoreSpec)

/-- ITS FALSE NEIGHBOUR: 'it returns false'. Refute it at one input. -/
def sumsMoreWrong : ChangeSpec := { name := "sumsMore", fn := fun _ => fun
  | [d1, d2, d3] => { results := [.lit (.bool false)], args := [d1, d2, d3] }
  | _ => none }
def SumsMoreWrongFalsely : Prop := sumsMoreRow.holds Try.pinned (OpenSpec.ofChange sumsMoreWrong)

/-- 'langdoclaw05.SumsBurst': WHATEVER THE INPUT: true; the input reads as it did. -/
def sumsBurstSpec : ChangeSpec := { name := "sumsBurst", fn := fun _ => fun
  | [d1, d2, d3] => { results := [.lit (.bool true)], args := [d1, d2, d3] }
  | _ => none }
def sumsBurstRow : OpenClaim := { program := "ytopedbkefncfnaa", sum := "775a766f3c7d065c747b02bb26c098b882d24759d557aac9178bff45edd90252", func := "langdoc/langdoclaw05.SumsBurst", spec := "sumsBurst", inPlace := ["internal/bytealg.IndexByteString"], apart := false }
def SumsBurstSaid : Prop := sumsBurstRow.holds Try.pinned (OpenSpec.ofChange sumsBurstSpec)

/-- ITS FALSE NEIGHBOUR: 'it returns false'. Refute it at one input. -/
def sumsBurstWrong : ChangeSpec := { name := "sumsBurst", fn := fun _ => fun
  | [d1, d2, d3] => { results := [.lit (.bool false)], args := [d1, d2, d3] }
  | _ => none }
def SumsBurstWrongFalsely : Prop := sumsBurstRow.holds Try.pinned (OpenSpec.ofChange sumsBurstWrong)

/-- 'langdoclaw05.SumsApart': WHATEVER THE INPUT: true; the input reads as it did. -/
def sumsApartSpec : ChangeSpec := { name := "sumsApart", fn := fun _ => fun
  | [d1, d2, d3, d4] => { results := [.lit (.bool true)], args := [d1, d2, d3, d4] }
  | _ => none }
def sumsApartRow : OpenClaim := { program := "ytopedbkefncfnaa", sum := "775a766f3c7d065c747b02bb26c098b882d24759d557aac9178bff45edd90252", func := "langdoc/langdoclaw05.SumsApart", spec := "sumsApart", inPlace := ["internal/bytealg.IndexByteString"], apart := false }
def SumsApartSaid : Prop := sumsApartRow.holds Try.pinned (OpenSpec.ofChange sumsApartSpec)

/-- ITS FALSE NEIGHBOUR: 'it returns false'. Refute it at one input. -/
def sumsApartWrong : ChangeSpec := { name := "sumsApart", fn := fun _ => fun
  | [d1, d2, d3, d4] => { results := [.lit (.bool false)], args := [d1, d2, d3, d4] }
  | _ => none }
def SumsApartWrongFalsely : Prop := sumsApartRow.holds Try.pinned (OpenSpec.ofChange sumsApartWrong)

/- THE SECOND FORM. 'bulk': how many values and letters a reading holds, each counted each time it is reached (what is shared counts as often as it is met; a slice's spare places count too). A statement '..UptoSaid' is the law's where the arguments, and the package variables that the reading takes, are together of bulk at most 1048576: NARROWER than '..Said'. Prove '..Said' where nothing that the law and all that it calls make is longer than what came in: it says more and counts as full. Else prove '..UptoSaid'. A law counts once. -/
mutual
def uptoBulk {H : Type} : DataW H → Nat
  | .lit (.string bytes) => bytes.length + 1
  | .lit _ => 1
  | .nil => 1
  | .ptr d => uptoBulk d + 1
  | .slice elems spare => uptoBulkAll elems + uptoBulkAll spare + 1
  | .agg parts => uptoBulkAll parts + 1
  | .iface _ d => uptoBulk d + 1
  | .map entries => uptoBulkEntries entries + 1
  | .held _ => 1
def uptoBulkAll {H : Type} : List (DataW H) → Nat
  | [] => 0
  | d :: r => uptoBulk d + uptoBulkAll r
def uptoBulkEntries {H : Type} : List (Lit × DataW H) → Nat
  | [] => 0
  | x :: r => uptoBulkEntry x + uptoBulkEntries r
def uptoBulkEntry {H : Type} : Lit × DataW H → Nat
  | (.string bytes, d) => bytes.length + uptoBulk d + 1
  | (_, d) => uptoBulk d + 1
 end
def uptoSmall : (H : Type) → List (DataW H) → Bool := fun _ ds => decide (uptoBulkAll ds ≤ 1048576)
def OpenSpec.upto (s : _root_.Go.ChangeSpec) : _root_.Go.OpenSpec := { _root_.Go.OpenSpec.ofChange s with cond := some uptoSmall }

/-- 'langdoclaw05.SumsCrc', WHERE WHAT IT READS IS OF BULK AT MOST 1048576: true; the input reads as it did. -/
def sumsCrcUptoRow : OpenClaim := { program := "ytopedbkefncfnaa", sum := "775a766f3c7d065c747b02bb26c098b882d24759d557aac9178bff45edd90252", func := "langdoc/langdoclaw05.SumsCrc", spec := "sumsCrc", inPlace := ["internal/bytealg.IndexByteString"], apart := false, narrowed := true }
def SumsCrcUptoSaid : Prop := sumsCrcUptoRow.holds Try.pinned (OpenSpec.upto sumsCrcSpec)

/-- 'langdoclaw05.SumsHash', WHERE WHAT IT READS IS OF BULK AT MOST 1048576: true; the input reads as it did. -/
def sumsHashUptoRow : OpenClaim := { program := "ytopedbkefncfnaa", sum := "775a766f3c7d065c747b02bb26c098b882d24759d557aac9178bff45edd90252", func := "langdoc/langdoclaw05.SumsHash", spec := "sumsHash", inPlace := ["internal/bytealg.IndexByteString"], apart := false, narrowed := true }
def SumsHashUptoSaid : Prop := sumsHashUptoRow.holds Try.pinned (OpenSpec.upto sumsHashSpec)

/-- 'langdoclaw05.SumsHex', WHERE WHAT IT READS IS OF BULK AT MOST 1048576: true; the input reads as it did. -/
def sumsHexUptoRow : OpenClaim := { program := "ytopedbkefncfnaa", sum := "775a766f3c7d065c747b02bb26c098b882d24759d557aac9178bff45edd90252", func := "langdoc/langdoclaw05.SumsHex", spec := "sumsHex", inPlace := ["internal/bytealg.IndexByteString"], apart := false, narrowed := true }
def SumsHexUptoSaid : Prop := sumsHexUptoRow.holds Try.pinned (OpenSpec.upto sumsHexSpec)

/-- 'langdoclaw05.SumsUnhex', WHERE WHAT IT READS IS OF BULK AT MOST 1048576: true; the input reads as it did. -/
def sumsUnhexUptoRow : OpenClaim := { program := "ytopedbkefncfnaa", sum := "775a766f3c7d065c747b02bb26c098b882d24759d557aac9178bff45edd90252", func := "langdoc/langdoclaw05.SumsUnhex", spec := "sumsUnhex", inPlace := ["internal/bytealg.IndexByteString"], apart := false, narrowed := true }
def SumsUnhexUptoSaid : Prop := sumsUnhexUptoRow.holds Try.pinned (OpenSpec.upto sumsUnhexSpec)

/-- 'langdoclaw05.SumsBack', WHERE WHAT IT READS IS OF BULK AT MOST 1048576: true; the input reads as it did. -/
def sumsBackUptoRow : OpenClaim := { program := "ytopedbkefncfnaa", sum := "775a766f3c7d065c747b02bb26c098b882d24759d557aac9178bff45edd90252", func := "langdoc/langdoclaw05.SumsBack", spec := "sumsBack", inPlace := ["internal/bytealg.IndexByteString"], apart := false, narrowed := true }
def SumsBackUptoSaid : Prop := sumsBackUptoRow.holds Try.pinned (OpenSpec.upto sumsBackSpec)

/-- 'langdoclaw05.SumsMore', WHERE WHAT IT READS IS OF BULK AT MOST 1048576: true; the input reads as it did. -/
def sumsMoreUptoRow : OpenClaim := { program := "ytopedbkefncfnaa", sum := "775a766f3c7d065c747b02bb26c098b882d24759d557aac9178bff45edd90252", func := "langdoc/langdoclaw05.SumsMore", spec := "sumsMore", inPlace := ["internal/bytealg.IndexByteString"], apart := false, narrowed := true }
def SumsMoreUptoSaid : Prop := sumsMoreUptoRow.holds Try.pinned (OpenSpec.upto sumsMoreSpec)

/-- 'langdoclaw05.SumsBurst', WHERE WHAT IT READS IS OF BULK AT MOST 1048576: true; the input reads as it did. -/
def sumsBurstUptoRow : OpenClaim := { program := "ytopedbkefncfnaa", sum := "775a766f3c7d065c747b02bb26c098b882d24759d557aac9178bff45edd90252", func := "langdoc/langdoclaw05.SumsBurst", spec := "sumsBurst", inPlace := ["internal/bytealg.IndexByteString"], apart := false, narrowed := true }
def SumsBurstUptoSaid : Prop := sumsBurstUptoRow.holds Try.pinned (OpenSpec.upto sumsBurstSpec)

/-- 'langdoclaw05.SumsApart', WHERE WHAT IT READS IS OF BULK AT MOST 1048576: true; the input reads as it did. -/
def sumsApartUptoRow : OpenClaim := { program := "ytopedbkefncfnaa", sum := "775a766f3c7d065c747b02bb26c098b882d24759d557aac9178bff45edd90252", func := "langdoc/langdoclaw05.SumsApart", spec := "sumsApart", inPlace := ["internal/bytealg.IndexByteString"], apart := false, narrowed := true }
def SumsApartUptoSaid : Prop := sumsApartUptoRow.holds Try.pinned (OpenSpec.upto sumsApartSpec)

end Rows
end Go.Proofs.Ytopedbkefncfnaa
