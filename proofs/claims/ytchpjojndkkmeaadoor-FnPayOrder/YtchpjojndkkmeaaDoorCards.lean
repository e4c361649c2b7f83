/-
  DERIVED. GIVEN WITH THE SEED: THE CARDS: each row of YtchpjojndkkmeaaDoorRows.lean that lists a variable, with what it lists TIED to the program's text (the seventh form; the later family's looks); each row that meets fmt, with fmt's text TOLD by the authors' own Lean function (tested against real Go, not proved from fmt's source: count such statements apart). THE CARD IS WHAT COUNTS. Prove the row's statement (the work); the ties are given (YtchpjojndkkmeaaDoorTie.lean); close each card by the builder's one call (the guide's Derived/Test/ToyasCard.lean, 'card_holds'). Laid BY PROGRAM, IN A SANDBOX (cutbox-door.mjs). By AI agents, Wed Nov 11 2026. No macro, syntax, notation, axiom, sorry.
-/
import Derived.Test.YtchpjojndkkmeaaDoorRows
import GoSem.ClaimSeven
namespace Go.Proofs.YtchpjojndkkmeaaDoor
namespace Rows

/-- THE TIED CARD OF 'laws.FnExactPlanMade'. -/
def fnExactPlanMadeCard : Claim7 := { stood := { row := fnExactPlanMadeRow, standIns := [], harness := (true, "a49672b170c2f29329a1ccc03e35bd88ae340afb77a14af7ca22919e22395e14"), looks := false }, kinds := [], alts := [], laidByText := true, laidKinds := [.data], laidTests := true, laidLooks := .later }
def FnExactPlanMadeCardSaid : Prop := Claim7.holds Tryd.pinned (.plain (OpenSpec.ofChange fnExactPlanMadeSpec)) fnExactPlanMadeCard

/-- THE TIED CARD OF 'laws.FnPlanMade'. -/
def fnPlanMadeCard : Claim7 := { stood := { row := fnPlanMadeRow, standIns := [], harness := (true, "a49672b170c2f29329a1ccc03e35bd88ae340afb77a14af7ca22919e22395e14"), looks := false }, kinds := [], alts := [], laidByText := true, laidKinds := [.data], laidTests := true, laidLooks := .later }
def FnPlanMadeCardSaid : Prop := Claim7.holds Tryd.pinned (.plain (OpenSpec.ofChange fnPlanMadeSpec)) fnPlanMadeCard

/-- THE TIED CARD OF 'laws.FnPayOrder'. -/
def fnPayOrderCard : Claim7 := { stood := { row := fnPayOrderRow, standIns := [], harness := (true, "a49672b170c2f29329a1ccc03e35bd88ae340afb77a14af7ca22919e22395e14"), looks := false }, kinds := [], alts := [], laidByText := true, laidKinds := [.data], laidTests := true, laidLooks := .later }
def FnPayOrderCardSaid : Prop := Claim7.holds Tryd.pinned (.plain (OpenSpec.ofChange fnPayOrderSpec)) fnPayOrderCard

/-- THE SECOND FORM's CARD OF 'laws.FnExactPlanMade'. -/
def fnExactPlanMadeUptoCard : Claim7 := { stood := { row := fnExactPlanMadeUptoRow, standIns := [], harness := (true, "a49672b170c2f29329a1ccc03e35bd88ae340afb77a14af7ca22919e22395e14"), looks := false }, kinds := [], alts := [], laidByText := true, laidKinds := [.data], laidTests := true, laidLooks := .later }
def FnExactPlanMadeUptoCardSaid : Prop := Claim7.holds Tryd.pinned (.plain (OpenSpec.upto fnExactPlanMadeSpec)) fnExactPlanMadeUptoCard

/-- THE SECOND FORM's CARD OF 'laws.FnPlanMade'. -/
def fnPlanMadeUptoCard : Claim7 := { stood := { row := fnPlanMadeUptoRow, standIns := [], harness := (true, "a49672b170c2f29329a1ccc03e35bd88ae340afb77a14af7ca22919e22395e14"), looks := false }, kinds := [], alts := [], laidByText := true, laidKinds := [.data], laidTests := true, laidLooks := .later }
def FnPlanMadeUptoCardSaid : Prop := Claim7.holds Tryd.pinned (.plain (OpenSpec.upto fnPlanMadeSpec)) fnPlanMadeUptoCard

/-- THE SECOND FORM's CARD OF 'laws.FnPayOrder'. -/
def fnPayOrderUptoCard : Claim7 := { stood := { row := fnPayOrderUptoRow, standIns := [], harness := (true, "a49672b170c2f29329a1ccc03e35bd88ae340afb77a14af7ca22919e22395e14"), looks := false }, kinds := [], alts := [], laidByText := true, laidKinds := [.data], laidTests := true, laidLooks := .later }
def FnPayOrderUptoCardSaid : Prop := Claim7.holds Tryd.pinned (.plain (OpenSpec.upto fnPayOrderSpec)) fnPayOrderUptoCard
end Rows
end Go.Proofs.YtchpjojndkkmeaaDoor
