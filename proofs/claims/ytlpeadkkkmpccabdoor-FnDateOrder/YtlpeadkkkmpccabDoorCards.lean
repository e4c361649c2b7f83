/-
  DERIVED. GIVEN WITH THE SEED: THE CARDS: each row of YtlpeadkkkmpccabDoorRows.lean that lists a variable, with what it lists TIED to the program's text (the seventh form; the later family's looks); each row that meets fmt, with fmt's text TOLD by the authors' own Lean function (tested against real Go, not proved from fmt's source: count such statements apart). THE CARD IS WHAT COUNTS. Prove the row's statement (the work); the ties are given (YtlpeadkkkmpccabDoorTie.lean); close each card by the builder's one call (the guide's Derived/Test/ToyasCard.lean, 'card_holds'). Laid BY PROGRAM, IN A SANDBOX (cutbox-door.mjs). By AI agents, Wed Nov 11 2026. No macro, syntax, notation, axiom, sorry.
-/
import Derived.Test.YtlpeadkkkmpccabDoorRows
import GoSem.ClaimSeven
namespace Go.Proofs.YtlpeadkkkmpccabDoor
namespace Rows

/-- THE TIED CARD OF 'laws.FnDates'. -/
def fnDatesCard : Claim7 := { stood := { row := fnDatesRow, standIns := [], harness := (true, "111415988f634c1ef9553b6d39c989e958fb37c5a9b516bd881daaa34275a9b3"), looks := false }, kinds := [], alts := [], laidByText := true, laidKinds := [.data, .data, .data, .data], laidTests := true, laidLooks := .later }
def FnDatesCardSaid : Prop := Claim7.holds Tryd.pinned (.plain (OpenSpec.ofChange fnDatesSpec)) fnDatesCard

/-- THE TIED CARD OF 'laws.FnDateOrder'. -/
def fnDateOrderCard : Claim7 := { stood := { row := fnDateOrderRow, standIns := [], harness := (true, "111415988f634c1ef9553b6d39c989e958fb37c5a9b516bd881daaa34275a9b3"), looks := false }, kinds := [], alts := [], laidByText := true, laidKinds := [.data, .data, .data, .data], laidTests := true, laidLooks := .later }
def FnDateOrderCardSaid : Prop := Claim7.holds Tryd.pinned (.plain (OpenSpec.ofChange fnDateOrderSpec)) fnDateOrderCard

/-- THE TIED CARD OF 'laws.FnLeap'. -/
def fnLeapCard : Claim7 := { stood := { row := fnLeapRow, standIns := [], harness := (true, "111415988f634c1ef9553b6d39c989e958fb37c5a9b516bd881daaa34275a9b3"), looks := false }, kinds := [], alts := [], laidByText := true, laidKinds := [.data], laidTests := true, laidLooks := .later }
def FnLeapCardSaid : Prop := Claim7.holds Tryd.pinned (.plain (OpenSpec.ofChange fnLeapSpec)) fnLeapCard

/-- THE TIED CARD OF 'laws.FnMonths'. -/
def fnMonthsCard : Claim7 := { stood := { row := fnMonthsRow, standIns := [], harness := (true, "111415988f634c1ef9553b6d39c989e958fb37c5a9b516bd881daaa34275a9b3"), looks := false }, kinds := [], alts := [], laidByText := true, laidKinds := [.data], laidTests := true, laidLooks := .later }
def FnMonthsCardSaid : Prop := Claim7.holds Tryd.pinned (.plain (OpenSpec.ofChange fnMonthsSpec)) fnMonthsCard

/-- THE TIED CARD OF 'laws.FnDues'. -/
def fnDuesCard : Claim7 := { stood := { row := fnDuesRow, standIns := [], harness := (true, "111415988f634c1ef9553b6d39c989e958fb37c5a9b516bd881daaa34275a9b3"), looks := false }, kinds := [], alts := [], laidByText := true, laidKinds := [.data], laidTests := true, laidLooks := .later }
def FnDuesCardSaid : Prop := Claim7.holds Tryd.pinned (.plain (OpenSpec.ofChange fnDuesSpec)) fnDuesCard

/-- THE TIED CARD OF 'laws.FnExactDayOf'. -/
def fnExactDayOfCard : Claim7 := { stood := { row := fnExactDayOfRow, standIns := [], harness := (true, "111415988f634c1ef9553b6d39c989e958fb37c5a9b516bd881daaa34275a9b3"), looks := false }, kinds := [], alts := [], laidByText := true, laidKinds := [.data], laidTests := true, laidLooks := .later }
def FnExactDayOfCardSaid : Prop := Claim7.holds Tryd.pinned (.plain (OpenSpec.ofChange fnExactDayOfSpec)) fnExactDayOfCard

/-- THE TIED CARD OF 'laws.FnExactDateOf'. -/
def fnExactDateOfCard : Claim7 := { stood := { row := fnExactDateOfRow, standIns := [], harness := (true, "111415988f634c1ef9553b6d39c989e958fb37c5a9b516bd881daaa34275a9b3"), looks := false }, kinds := [], alts := [], laidByText := true, laidKinds := [.data], laidTests := true, laidLooks := .later }
def FnExactDateOfCardSaid : Prop := Claim7.holds Tryd.pinned (.plain (OpenSpec.ofChange fnExactDateOfSpec)) fnExactDateOfCard

/-- THE TIED CARD OF 'laws.FnExactDateText'. -/
def fnExactDateTextCard : Claim7 := { stood := { row := fnExactDateTextRow, standIns := [], harness := (true, "111415988f634c1ef9553b6d39c989e958fb37c5a9b516bd881daaa34275a9b3"), looks := false }, kinds := [], alts := [], laidByText := true, laidKinds := [.data, .data, .data, .data], laidTests := true, laidLooks := .later }
def FnExactDateTextCardSaid : Prop := Claim7.holds Tryd.pinned (.plain (OpenSpec.ofChange fnExactDateTextSpec)) fnExactDateTextCard

/-- THE TIED CARD OF 'laws.FnExactReadDate'. -/
def fnExactReadDateCard : Claim7 := { stood := { row := fnExactReadDateRow, standIns := [], harness := (true, "111415988f634c1ef9553b6d39c989e958fb37c5a9b516bd881daaa34275a9b3"), looks := false }, kinds := [], alts := [], laidByText := true, laidKinds := [.data], laidTests := true, laidLooks := .later }
def FnExactReadDateCardSaid : Prop := Claim7.holds Tryd.pinned (.plain (OpenSpec.ofChange fnExactReadDateSpec)) fnExactReadDateCard

/-- THE TIED CARD OF 'laws.FnExactMonthsOn'. -/
def fnExactMonthsOnCard : Claim7 := { stood := { row := fnExactMonthsOnRow, standIns := [], harness := (true, "111415988f634c1ef9553b6d39c989e958fb37c5a9b516bd881daaa34275a9b3"), looks := false }, kinds := [], alts := [], laidByText := true, laidKinds := [.data], laidTests := true, laidLooks := .later }
def FnExactMonthsOnCardSaid : Prop := Claim7.holds Tryd.pinned (.plain (OpenSpec.ofChange fnExactMonthsOnSpec)) fnExactMonthsOnCard

/-- THE TIED CARD OF 'laws.FnExactDueDays'. -/
def fnExactDueDaysCard : Claim7 := { stood := { row := fnExactDueDaysRow, standIns := [], harness := (true, "111415988f634c1ef9553b6d39c989e958fb37c5a9b516bd881daaa34275a9b3"), looks := false }, kinds := [], alts := [], laidByText := true, laidKinds := [.data], laidTests := true, laidLooks := .later }
def FnExactDueDaysCardSaid : Prop := Claim7.holds Tryd.pinned (.plain (OpenSpec.ofChange fnExactDueDaysSpec)) fnExactDueDaysCard

/-- THE SECOND FORM's CARD OF 'laws.FnDates'. -/
def fnDatesUptoCard : Claim7 := { stood := { row := fnDatesUptoRow, standIns := [], harness := (true, "111415988f634c1ef9553b6d39c989e958fb37c5a9b516bd881daaa34275a9b3"), looks := false }, kinds := [], alts := [], laidByText := true, laidKinds := [.data, .data, .data, .data], laidTests := true, laidLooks := .later }
def FnDatesUptoCardSaid : Prop := Claim7.holds Tryd.pinned (.plain (OpenSpec.upto fnDatesSpec)) fnDatesUptoCard

/-- THE SECOND FORM's CARD OF 'laws.FnDateOrder'. -/
def fnDateOrderUptoCard : Claim7 := { stood := { row := fnDateOrderUptoRow, standIns := [], harness := (true, "111415988f634c1ef9553b6d39c989e958fb37c5a9b516bd881daaa34275a9b3"), looks := false }, kinds := [], alts := [], laidByText := true, laidKinds := [.data, .data, .data, .data], laidTests := true, laidLooks := .later }
def FnDateOrderUptoCardSaid : Prop := Claim7.holds Tryd.pinned (.plain (OpenSpec.upto fnDateOrderSpec)) fnDateOrderUptoCard

/-- THE SECOND FORM's CARD OF 'laws.FnLeap'. -/
def fnLeapUptoCard : Claim7 := { stood := { row := fnLeapUptoRow, standIns := [], harness := (true, "111415988f634c1ef9553b6d39c989e958fb37c5a9b516bd881daaa34275a9b3"), looks := false }, kinds := [], alts := [], laidByText := true, laidKinds := [.data], laidTests := true, laidLooks := .later }
def FnLeapUptoCardSaid : Prop := Claim7.holds Tryd.pinned (.plain (OpenSpec.upto fnLeapSpec)) fnLeapUptoCard

/-- THE SECOND FORM's CARD OF 'laws.FnMonths'. -/
def fnMonthsUptoCard : Claim7 := { stood := { row := fnMonthsUptoRow, standIns := [], harness := (true, "111415988f634c1ef9553b6d39c989e958fb37c5a9b516bd881daaa34275a9b3"), looks := false }, kinds := [], alts := [], laidByText := true, laidKinds := [.data], laidTests := true, laidLooks := .later }
def FnMonthsUptoCardSaid : Prop := Claim7.holds Tryd.pinned (.plain (OpenSpec.upto fnMonthsSpec)) fnMonthsUptoCard

/-- THE SECOND FORM's CARD OF 'laws.FnDues'. -/
def fnDuesUptoCard : Claim7 := { stood := { row := fnDuesUptoRow, standIns := [], harness := (true, "111415988f634c1ef9553b6d39c989e958fb37c5a9b516bd881daaa34275a9b3"), looks := false }, kinds := [], alts := [], laidByText := true, laidKinds := [.data], laidTests := true, laidLooks := .later }
def FnDuesUptoCardSaid : Prop := Claim7.holds Tryd.pinned (.plain (OpenSpec.upto fnDuesSpec)) fnDuesUptoCard

/-- THE SECOND FORM's CARD OF 'laws.FnExactDayOf'. -/
def fnExactDayOfUptoCard : Claim7 := { stood := { row := fnExactDayOfUptoRow, standIns := [], harness := (true, "111415988f634c1ef9553b6d39c989e958fb37c5a9b516bd881daaa34275a9b3"), looks := false }, kinds := [], alts := [], laidByText := true, laidKinds := [.data], laidTests := true, laidLooks := .later }
def FnExactDayOfUptoCardSaid : Prop := Claim7.holds Tryd.pinned (.plain (OpenSpec.upto fnExactDayOfSpec)) fnExactDayOfUptoCard

/-- THE SECOND FORM's CARD OF 'laws.FnExactDateOf'. -/
def fnExactDateOfUptoCard : Claim7 := { stood := { row := fnExactDateOfUptoRow, standIns := [], harness := (true, "111415988f634c1ef9553b6d39c989e958fb37c5a9b516bd881daaa34275a9b3"), looks := false }, kinds := [], alts := [], laidByText := true, laidKinds := [.data], laidTests := true, laidLooks := .later }
def FnExactDateOfUptoCardSaid : Prop := Claim7.holds Tryd.pinned (.plain (OpenSpec.upto fnExactDateOfSpec)) fnExactDateOfUptoCard

/-- THE SECOND FORM's CARD OF 'laws.FnExactDateText'. -/
def fnExactDateTextUptoCard : Claim7 := { stood := { row := fnExactDateTextUptoRow, standIns := [], harness := (true, "111415988f634c1ef9553b6d39c989e958fb37c5a9b516bd881daaa34275a9b3"), looks := false }, kinds := [], alts := [], laidByText := true, laidKinds := [.data, .data, .data, .data], laidTests := true, laidLooks := .later }
def FnExactDateTextUptoCardSaid : Prop := Claim7.holds Tryd.pinned (.plain (OpenSpec.upto fnExactDateTextSpec)) fnExactDateTextUptoCard

/-- THE SECOND FORM's CARD OF 'laws.FnExactReadDate'. -/
def fnExactReadDateUptoCard : Claim7 := { stood := { row := fnExactReadDateUptoRow, standIns := [], harness := (true, "111415988f634c1ef9553b6d39c989e958fb37c5a9b516bd881daaa34275a9b3"), looks := false }, kinds := [], alts := [], laidByText := true, laidKinds := [.data], laidTests := true, laidLooks := .later }
def FnExactReadDateUptoCardSaid : Prop := Claim7.holds Tryd.pinned (.plain (OpenSpec.upto fnExactReadDateSpec)) fnExactReadDateUptoCard

/-- THE SECOND FORM's CARD OF 'laws.FnExactMonthsOn'. -/
def fnExactMonthsOnUptoCard : Claim7 := { stood := { row := fnExactMonthsOnUptoRow, standIns := [], harness := (true, "111415988f634c1ef9553b6d39c989e958fb37c5a9b516bd881daaa34275a9b3"), looks := false }, kinds := [], alts := [], laidByText := true, laidKinds := [.data], laidTests := true, laidLooks := .later }
def FnExactMonthsOnUptoCardSaid : Prop := Claim7.holds Tryd.pinned (.plain (OpenSpec.upto fnExactMonthsOnSpec)) fnExactMonthsOnUptoCard

/-- THE SECOND FORM's CARD OF 'laws.FnExactDueDays'. -/
def fnExactDueDaysUptoCard : Claim7 := { stood := { row := fnExactDueDaysUptoRow, standIns := [], harness := (true, "111415988f634c1ef9553b6d39c989e958fb37c5a9b516bd881daaa34275a9b3"), looks := false }, kinds := [], alts := [], laidByText := true, laidKinds := [.data], laidTests := true, laidLooks := .later }
def FnExactDueDaysUptoCardSaid : Prop := Claim7.holds Tryd.pinned (.plain (OpenSpec.upto fnExactDueDaysSpec)) fnExactDueDaysUptoCard
end Rows
end Go.Proofs.YtlpeadkkkmpccabDoor
