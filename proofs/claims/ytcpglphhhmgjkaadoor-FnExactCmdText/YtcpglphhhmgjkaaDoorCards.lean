/-
  DERIVED. GIVEN WITH THE SEED: THE CARDS: each row of YtcpglphhhmgjkaaDoorRows.lean that lists a variable, with what it lists TIED to the program's text (the seventh form; the later family's looks); each row that meets fmt, with fmt's text TOLD by the authors' own Lean function (tested against real Go, not proved from fmt's source: count such statements apart). THE CARD IS WHAT COUNTS. Prove the row's statement (the work); the ties are given (YtcpglphhhmgjkaaDoorTie.lean); close each card by the builder's one call (the guide's Derived/Test/ToyasCard.lean, 'card_holds'). Laid BY PROGRAM, IN A SANDBOX (cutbox-door.mjs). By AI agents, Wed Nov 11 2026. No macro, syntax, notation, axiom, sorry.
-/
import Derived.Test.YtcpglphhhmgjkaaDoorRows
import GoSem.ClaimSeven
namespace Go.Proofs.YtcpglphhhmgjkaaDoor
namespace Rows

/-- THE TIED CARD OF 'laws.FnExactCmdOk'. -/
def fnExactCmdOkCard : Claim7 := { stood := { row := fnExactCmdOkRow, standIns := [], harness := (true, "be17cf625f2c7834c77bf006e89f01ff8a59d02ed3c72d3849b6cff6a4fa9a75"), looks := false }, kinds := [], alts := [], laidByText := true, laidKinds := [.data], laidTests := true, laidLooks := .later }
def FnExactCmdOkCardSaid : Prop := Claim7.holds Tryd.pinned (.plain (OpenSpec.ofChange fnExactCmdOkSpec)) fnExactCmdOkCard

/-- THE TIED CARD OF 'laws.FnExactCmdText'. -/
def fnExactCmdTextCard : Claim7 := { stood := { row := fnExactCmdTextRow, standIns := [], harness := (true, "be17cf625f2c7834c77bf006e89f01ff8a59d02ed3c72d3849b6cff6a4fa9a75"), looks := false }, kinds := [], alts := [], laidByText := true, laidKinds := [.data, .data, .data, .data], laidTests := true, laidLooks := .later }
def FnExactCmdTextCardSaid : Prop := Claim7.holds Tryd.pinned (.plain (OpenSpec.ofChange fnExactCmdTextSpec)) fnExactCmdTextCard

/-- THE TIED CARD OF 'laws.FnExactReadCmd'. -/
def fnExactReadCmdCard : Claim7 := { stood := { row := fnExactReadCmdRow, standIns := [], harness := (true, "be17cf625f2c7834c77bf006e89f01ff8a59d02ed3c72d3849b6cff6a4fa9a75"), looks := false }, kinds := [], alts := [], laidByText := true, laidKinds := [.data, .data, .data, .data, .data, .pinned], laidTests := true, laidLooks := .later }
def FnExactReadCmdCardSaid : Prop := Claim7.holds Tryd.pinned (.plain (OpenSpec.ofChange fnExactReadCmdSpec)) fnExactReadCmdCard

/-- THE TIED CARD OF 'laws.FnCmdKeys'. -/
def fnCmdKeysCard : Claim7 := { stood := { row := fnCmdKeysRow, standIns := [], harness := (true, "be17cf625f2c7834c77bf006e89f01ff8a59d02ed3c72d3849b6cff6a4fa9a75"), looks := false }, kinds := [], alts := [], laidByText := true, laidKinds := [.data, .data, .data, .data], laidTests := true, laidLooks := .later }
def FnCmdKeysCardSaid : Prop := Claim7.holds Tryd.pinned (.plain (OpenSpec.ofChange fnCmdKeysSpec)) fnCmdKeysCard

/-- THE SECOND FORM's CARD OF 'laws.FnExactCmdOk'. -/
def fnExactCmdOkUptoCard : Claim7 := { stood := { row := fnExactCmdOkUptoRow, standIns := [], harness := (true, "be17cf625f2c7834c77bf006e89f01ff8a59d02ed3c72d3849b6cff6a4fa9a75"), looks := false }, kinds := [], alts := [], laidByText := true, laidKinds := [.data], laidTests := true, laidLooks := .later }
def FnExactCmdOkUptoCardSaid : Prop := Claim7.holds Tryd.pinned (.plain (OpenSpec.upto fnExactCmdOkSpec)) fnExactCmdOkUptoCard

/-- THE SECOND FORM's CARD OF 'laws.FnExactCmdText'. -/
def fnExactCmdTextUptoCard : Claim7 := { stood := { row := fnExactCmdTextUptoRow, standIns := [], harness := (true, "be17cf625f2c7834c77bf006e89f01ff8a59d02ed3c72d3849b6cff6a4fa9a75"), looks := false }, kinds := [], alts := [], laidByText := true, laidKinds := [.data, .data, .data, .data], laidTests := true, laidLooks := .later }
def FnExactCmdTextUptoCardSaid : Prop := Claim7.holds Tryd.pinned (.plain (OpenSpec.upto fnExactCmdTextSpec)) fnExactCmdTextUptoCard

/-- THE SECOND FORM's CARD OF 'laws.FnExactReadCmd'. -/
def fnExactReadCmdUptoCard : Claim7 := { stood := { row := fnExactReadCmdUptoRow, standIns := [], harness := (true, "be17cf625f2c7834c77bf006e89f01ff8a59d02ed3c72d3849b6cff6a4fa9a75"), looks := false }, kinds := [], alts := [], laidByText := true, laidKinds := [.data, .data, .data, .data, .data, .pinned], laidTests := true, laidLooks := .later }
def FnExactReadCmdUptoCardSaid : Prop := Claim7.holds Tryd.pinned (.plain (OpenSpec.upto fnExactReadCmdSpec)) fnExactReadCmdUptoCard

/-- THE SECOND FORM's CARD OF 'laws.FnCmdKeys'. -/
def fnCmdKeysUptoCard : Claim7 := { stood := { row := fnCmdKeysUptoRow, standIns := [], harness := (true, "be17cf625f2c7834c77bf006e89f01ff8a59d02ed3c72d3849b6cff6a4fa9a75"), looks := false }, kinds := [], alts := [], laidByText := true, laidKinds := [.data, .data, .data, .data], laidTests := true, laidLooks := .later }
def FnCmdKeysUptoCardSaid : Prop := Claim7.holds Tryd.pinned (.plain (OpenSpec.upto fnCmdKeysSpec)) fnCmdKeysUptoCard
end Rows
end Go.Proofs.YtcpglphhhmgjkaaDoor
