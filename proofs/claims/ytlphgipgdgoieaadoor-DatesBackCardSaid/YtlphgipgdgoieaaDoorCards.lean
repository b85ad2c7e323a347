/-
  DERIVED. GIVEN WITH THE SEED: THE CARDS: each row of YtlphgipgdgoieaaDoorRows.lean that lists a variable, with what it lists TIED to the program's text (the seventh form; the later family's looks); each row that meets fmt, with fmt's text TOLD by the authors' own Lean function (tested against real Go, not proved from fmt's source: count such statements apart). THE CARD IS WHAT COUNTS. Prove the row's statement (the work); the ties are given (YtlphgipgdgoieaaDoorTie.lean); close each card by the builder's one call (the guide's Derived/Test/ToyasCard.lean, 'card_holds'). Laid BY PROGRAM, IN A SANDBOX (cutbox-door.mjs). By AI agents, Wed Nov 11 2026. No macro, syntax, notation, axiom, sorry.
-/
import Derived.Test.YtlphgipgdgoieaaDoorRows
import GoSem.ClaimSeven
namespace Go.Proofs.YtlphgipgdgoieaaDoor
namespace Rows

/-- THE TIED CARD OF 'langdoclaw08.DatesLeap'. -/
def datesLeapCard : Claim7 := { stood := { row := datesLeapRow, standIns := [], harness := (true, "974977d9ed1ba04a263f5702c999749ae2ace299ee4c3e8882907084635274ba"), looks := true }, kinds := [], alts := [], laidByText := true, laidKinds := [.data, .data, .data, .data, .sentinel, .sentinel, .data, .pinned], laidTests := true, laidLooks := .later }
def DatesLeapCardSaid : Prop := Claim7.holds Tryd.pinned (.plain (OpenSpec.ofChange datesLeapSpec)) datesLeapCard

/-- THE TIED CARD OF 'langdoclaw08.DatesDay'. -/
def datesDayCard : Claim7 := { stood := { row := datesDayRow, standIns := [], harness := (true, "974977d9ed1ba04a263f5702c999749ae2ace299ee4c3e8882907084635274ba"), looks := true }, kinds := [], alts := [], laidByText := true, laidKinds := [.data, .data, .data, .data, .sentinel, .sentinel, .data, .pinned], laidTests := true, laidLooks := .later }
def DatesDayCardSaid : Prop := Claim7.holds Tryd.pinned (.plain (OpenSpec.ofChange datesDaySpec)) datesDayCard

/-- THE TIED CARD OF 'langdoclaw08.DatesCivil'. -/
def datesCivilCard : Claim7 := { stood := { row := datesCivilRow, standIns := [], harness := (true, "974977d9ed1ba04a263f5702c999749ae2ace299ee4c3e8882907084635274ba"), looks := true }, kinds := [], alts := [], laidByText := true, laidKinds := [.data, .data, .data, .data, .sentinel, .sentinel, .data, .pinned], laidTests := true, laidLooks := .later }
def DatesCivilCardSaid : Prop := Claim7.holds Tryd.pinned (.plain (OpenSpec.ofChange datesCivilSpec)) datesCivilCard

/-- THE TIED CARD OF 'langdoclaw08.DatesWeekday'. -/
def datesWeekdayCard : Claim7 := { stood := { row := datesWeekdayRow, standIns := [], harness := (true, "974977d9ed1ba04a263f5702c999749ae2ace299ee4c3e8882907084635274ba"), looks := true }, kinds := [], alts := [], laidByText := true, laidKinds := [.data, .data, .data, .data, .sentinel, .sentinel, .data, .pinned], laidTests := true, laidLooks := .later }
def DatesWeekdayCardSaid : Prop := Claim7.holds Tryd.pinned (.plain (OpenSpec.ofChange datesWeekdaySpec)) datesWeekdayCard

/-- THE TIED CARD OF 'langdoclaw08.DatesTexts'. -/
def datesTextsCard : Claim7 := { stood := { row := datesTextsRow, standIns := [], harness := (true, "974977d9ed1ba04a263f5702c999749ae2ace299ee4c3e8882907084635274ba"), looks := true }, kinds := [], alts := [], laidByText := true, laidKinds := [.data, .data, .data, .data, .sentinel, .sentinel, .data, .pinned], laidTests := true, laidLooks := .later }
def DatesTextsCardSaid : Prop := Claim7.holds Tryd.pinned (.plain (OpenSpec.ofChange datesTextsSpec)) datesTextsCard

/-- THE TIED CARD OF 'langdoclaw08.DatesBack'. -/
def datesBackCard : Claim7 := { stood := { row := datesBackRow, standIns := [], harness := (true, "974977d9ed1ba04a263f5702c999749ae2ace299ee4c3e8882907084635274ba"), looks := true }, kinds := [], alts := [], laidByText := true, laidKinds := [.data, .data, .data, .data, .sentinel, .sentinel, .data, .pinned], laidTests := true, laidLooks := .later }
def DatesBackCardSaid : Prop := Claim7.holds Tryd.pinned (.plain (OpenSpec.ofChange datesBackSpec)) datesBackCard

/-- THE TIED CARD OF 'langdoclaw08.DatesNext'. -/
def datesNextCard : Claim7 := { stood := { row := datesNextRow, standIns := [], harness := (true, "974977d9ed1ba04a263f5702c999749ae2ace299ee4c3e8882907084635274ba"), looks := true }, kinds := [], alts := [], laidByText := true, laidKinds := [.data, .data, .data, .data, .sentinel, .sentinel, .data, .pinned], laidTests := true, laidLooks := .later }
def DatesNextCardSaid : Prop := Claim7.holds Tryd.pinned (.plain (OpenSpec.ofChange datesNextSpec)) datesNextCard

/-- THE TIED CARD OF 'langdoclaw08.DatesYears'. -/
def datesYearsCard : Claim7 := { stood := { row := datesYearsRow, standIns := [], harness := (true, "974977d9ed1ba04a263f5702c999749ae2ace299ee4c3e8882907084635274ba"), looks := true }, kinds := [], alts := [], laidByText := true, laidKinds := [.data, .data, .data, .data, .sentinel, .sentinel, .data, .pinned], laidTests := true, laidLooks := .later }
def DatesYearsCardSaid : Prop := Claim7.holds Tryd.pinned (.plain (OpenSpec.ofChange datesYearsSpec)) datesYearsCard

/-- THE TIED CARD OF 'langdoclaw08.DatesOrder'. -/
def datesOrderCard : Claim7 := { stood := { row := datesOrderRow, standIns := [], harness := (true, "974977d9ed1ba04a263f5702c999749ae2ace299ee4c3e8882907084635274ba"), looks := true }, kinds := [], alts := [], laidByText := true, laidKinds := [.data, .data, .data, .data, .sentinel, .sentinel, .data, .pinned], laidTests := true, laidLooks := .later }
def DatesOrderCardSaid : Prop := Claim7.holds Tryd.pinned (.plain (OpenSpec.ofChange datesOrderSpec)) datesOrderCard

/-- THE SECOND FORM's CARD OF 'langdoclaw08.DatesLeap'. -/
def datesLeapUptoCard : Claim7 := { stood := { row := datesLeapUptoRow, standIns := [], harness := (true, "974977d9ed1ba04a263f5702c999749ae2ace299ee4c3e8882907084635274ba"), looks := true }, kinds := [], alts := [], laidByText := true, laidKinds := [.data, .data, .data, .data, .sentinel, .sentinel, .data, .pinned], laidTests := true, laidLooks := .later }
def DatesLeapUptoCardSaid : Prop := Claim7.holds Tryd.pinned (.plain (OpenSpec.upto datesLeapSpec)) datesLeapUptoCard

/-- THE SECOND FORM's CARD OF 'langdoclaw08.DatesDay'. -/
def datesDayUptoCard : Claim7 := { stood := { row := datesDayUptoRow, standIns := [], harness := (true, "974977d9ed1ba04a263f5702c999749ae2ace299ee4c3e8882907084635274ba"), looks := true }, kinds := [], alts := [], laidByText := true, laidKinds := [.data, .data, .data, .data, .sentinel, .sentinel, .data, .pinned], laidTests := true, laidLooks := .later }
def DatesDayUptoCardSaid : Prop := Claim7.holds Tryd.pinned (.plain (OpenSpec.upto datesDaySpec)) datesDayUptoCard

/-- THE SECOND FORM's CARD OF 'langdoclaw08.DatesCivil'. -/
def datesCivilUptoCard : Claim7 := { stood := { row := datesCivilUptoRow, standIns := [], harness := (true, "974977d9ed1ba04a263f5702c999749ae2ace299ee4c3e8882907084635274ba"), looks := true }, kinds := [], alts := [], laidByText := true, laidKinds := [.data, .data, .data, .data, .sentinel, .sentinel, .data, .pinned], laidTests := true, laidLooks := .later }
def DatesCivilUptoCardSaid : Prop := Claim7.holds Tryd.pinned (.plain (OpenSpec.upto datesCivilSpec)) datesCivilUptoCard

/-- THE SECOND FORM's CARD OF 'langdoclaw08.DatesWeekday'. -/
def datesWeekdayUptoCard : Claim7 := { stood := { row := datesWeekdayUptoRow, standIns := [], harness := (true, "974977d9ed1ba04a263f5702c999749ae2ace299ee4c3e8882907084635274ba"), looks := true }, kinds := [], alts := [], laidByText := true, laidKinds := [.data, .data, .data, .data, .sentinel, .sentinel, .data, .pinned], laidTests := true, laidLooks := .later }
def DatesWeekdayUptoCardSaid : Prop := Claim7.holds Tryd.pinned (.plain (OpenSpec.upto datesWeekdaySpec)) datesWeekdayUptoCard

/-- THE SECOND FORM's CARD OF 'langdoclaw08.DatesTexts'. -/
def datesTextsUptoCard : Claim7 := { stood := { row := datesTextsUptoRow, standIns := [], harness := (true, "974977d9ed1ba04a263f5702c999749ae2ace299ee4c3e8882907084635274ba"), looks := true }, kinds := [], alts := [], laidByText := true, laidKinds := [.data, .data, .data, .data, .sentinel, .sentinel, .data, .pinned], laidTests := true, laidLooks := .later }
def DatesTextsUptoCardSaid : Prop := Claim7.holds Tryd.pinned (.plain (OpenSpec.upto datesTextsSpec)) datesTextsUptoCard

/-- THE SECOND FORM's CARD OF 'langdoclaw08.DatesBack'. -/
def datesBackUptoCard : Claim7 := { stood := { row := datesBackUptoRow, standIns := [], harness := (true, "974977d9ed1ba04a263f5702c999749ae2ace299ee4c3e8882907084635274ba"), looks := true }, kinds := [], alts := [], laidByText := true, laidKinds := [.data, .data, .data, .data, .sentinel, .sentinel, .data, .pinned], laidTests := true, laidLooks := .later }
def DatesBackUptoCardSaid : Prop := Claim7.holds Tryd.pinned (.plain (OpenSpec.upto datesBackSpec)) datesBackUptoCard

/-- THE SECOND FORM's CARD OF 'langdoclaw08.DatesNext'. -/
def datesNextUptoCard : Claim7 := { stood := { row := datesNextUptoRow, standIns := [], harness := (true, "974977d9ed1ba04a263f5702c999749ae2ace299ee4c3e8882907084635274ba"), looks := true }, kinds := [], alts := [], laidByText := true, laidKinds := [.data, .data, .data, .data, .sentinel, .sentinel, .data, .pinned], laidTests := true, laidLooks := .later }
def DatesNextUptoCardSaid : Prop := Claim7.holds Tryd.pinned (.plain (OpenSpec.upto datesNextSpec)) datesNextUptoCard

/-- THE SECOND FORM's CARD OF 'langdoclaw08.DatesYears'. -/
def datesYearsUptoCard : Claim7 := { stood := { row := datesYearsUptoRow, standIns := [], harness := (true, "974977d9ed1ba04a263f5702c999749ae2ace299ee4c3e8882907084635274ba"), looks := true }, kinds := [], alts := [], laidByText := true, laidKinds := [.data, .data, .data, .data, .sentinel, .sentinel, .data, .pinned], laidTests := true, laidLooks := .later }
def DatesYearsUptoCardSaid : Prop := Claim7.holds Tryd.pinned (.plain (OpenSpec.upto datesYearsSpec)) datesYearsUptoCard

/-- THE SECOND FORM's CARD OF 'langdoclaw08.DatesOrder'. -/
def datesOrderUptoCard : Claim7 := { stood := { row := datesOrderUptoRow, standIns := [], harness := (true, "974977d9ed1ba04a263f5702c999749ae2ace299ee4c3e8882907084635274ba"), looks := true }, kinds := [], alts := [], laidByText := true, laidKinds := [.data, .data, .data, .data, .sentinel, .sentinel, .data, .pinned], laidTests := true, laidLooks := .later }
def DatesOrderUptoCardSaid : Prop := Claim7.holds Tryd.pinned (.plain (OpenSpec.upto datesOrderSpec)) datesOrderUptoCard
end Rows
end Go.Proofs.YtlphgipgdgoieaaDoor
