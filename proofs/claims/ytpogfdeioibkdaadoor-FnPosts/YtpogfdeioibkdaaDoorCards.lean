/-
  DERIVED. GIVEN WITH THE SEED: THE CARDS: each row of YtpogfdeioibkdaaDoorRows.lean that lists a variable, with what it lists TIED to the program's text (the seventh form; the later family's looks); each row that meets fmt, with fmt's text TOLD by the authors' own Lean function (tested against real Go, not proved from fmt's source: count such statements apart). THE CARD IS WHAT COUNTS. Prove the row's statement (the work); the ties are given (YtpogfdeioibkdaaDoorTie.lean); close each card by the builder's one call (the guide's Derived/Test/ToyasCard.lean, 'card_holds'). Laid BY PROGRAM, IN A SANDBOX (cutbox-door.mjs). By AI agents, Wed Nov 11 2026. No macro, syntax, notation, axiom, sorry.
-/
import Derived.Test.YtpogfdeioibkdaaDoorRows
import GoSem.ClaimSeven
namespace Go.Proofs.YtpogfdeioibkdaaDoor
namespace Rows

/-- THE TIED CARD OF 'laws.FnPosts'. -/
def fnPostsCard : Claim7 := { stood := { row := fnPostsRow, standIns := [], harness := (true, "2e30e864aea2be2b699f77ddf0e7be2698050496e0fb892fdaf97c9ea88a3ab4"), looks := false }, kinds := [], alts := [], laidByText := true, laidKinds := [.data, .data, .data, .data], laidTests := true, laidLooks := .later }
def FnPostsCardSaid : Prop := Claim7.holds Tryd.pinned (.plain (OpenSpec.ofChange fnPostsSpec)) fnPostsCard

/-- THE TIED CARD OF 'laws.FnExactPostText'. -/
def fnExactPostTextCard : Claim7 := { stood := { row := fnExactPostTextRow, standIns := [], harness := (true, "2e30e864aea2be2b699f77ddf0e7be2698050496e0fb892fdaf97c9ea88a3ab4"), looks := false }, kinds := [], alts := [], laidByText := true, laidKinds := [.data, .data, .data, .data], laidTests := true, laidLooks := .later }
def FnExactPostTextCardSaid : Prop := Claim7.holds Tryd.pinned (.plain (OpenSpec.ofChange fnExactPostTextSpec)) fnExactPostTextCard

/-- THE TIED CARD OF 'laws.FnExactReadPost'. -/
def fnExactReadPostCard : Claim7 := { stood := { row := fnExactReadPostRow, standIns := [], harness := (true, "2e30e864aea2be2b699f77ddf0e7be2698050496e0fb892fdaf97c9ea88a3ab4"), looks := false }, kinds := [], alts := [], laidByText := true, laidKinds := [.data, .data, .data, .data], laidTests := true, laidLooks := .later }
def FnExactReadPostCardSaid : Prop := Claim7.holds Tryd.pinned (.plain (OpenSpec.ofChange fnExactReadPostSpec)) fnExactReadPostCard

/-- THE TIED CARD OF 'laws.FnExactLedgerText'. -/
def fnExactLedgerTextCard : Claim7 := { stood := { row := fnExactLedgerTextRow, standIns := [], harness := (true, "2e30e864aea2be2b699f77ddf0e7be2698050496e0fb892fdaf97c9ea88a3ab4"), looks := false }, kinds := [], alts := [], laidByText := true, laidKinds := [.data, .data, .data, .data], laidTests := true, laidLooks := .later }
def FnExactLedgerTextCardSaid : Prop := Claim7.holds Tryd.pinned (.plain (OpenSpec.ofChange fnExactLedgerTextSpec)) fnExactLedgerTextCard

/-- THE TIED CARD OF 'laws.FnExactReadLedger'. -/
def fnExactReadLedgerCard : Claim7 := { stood := { row := fnExactReadLedgerRow, standIns := [], harness := (true, "2e30e864aea2be2b699f77ddf0e7be2698050496e0fb892fdaf97c9ea88a3ab4"), looks := false }, kinds := [], alts := [], laidByText := true, laidKinds := [.data, .data, .data, .data], laidTests := true, laidLooks := .later }
def FnExactReadLedgerCardSaid : Prop := Claim7.holds Tryd.pinned (.plain (OpenSpec.ofChange fnExactReadLedgerSpec)) fnExactReadLedgerCard

/-- THE SECOND FORM's CARD OF 'laws.FnPosts'. -/
def fnPostsUptoCard : Claim7 := { stood := { row := fnPostsUptoRow, standIns := [], harness := (true, "2e30e864aea2be2b699f77ddf0e7be2698050496e0fb892fdaf97c9ea88a3ab4"), looks := false }, kinds := [], alts := [], laidByText := true, laidKinds := [.data, .data, .data, .data], laidTests := true, laidLooks := .later }
def FnPostsUptoCardSaid : Prop := Claim7.holds Tryd.pinned (.plain (OpenSpec.upto fnPostsSpec)) fnPostsUptoCard

/-- THE SECOND FORM's CARD OF 'laws.FnExactPostText'. -/
def fnExactPostTextUptoCard : Claim7 := { stood := { row := fnExactPostTextUptoRow, standIns := [], harness := (true, "2e30e864aea2be2b699f77ddf0e7be2698050496e0fb892fdaf97c9ea88a3ab4"), looks := false }, kinds := [], alts := [], laidByText := true, laidKinds := [.data, .data, .data, .data], laidTests := true, laidLooks := .later }
def FnExactPostTextUptoCardSaid : Prop := Claim7.holds Tryd.pinned (.plain (OpenSpec.upto fnExactPostTextSpec)) fnExactPostTextUptoCard

/-- THE SECOND FORM's CARD OF 'laws.FnExactReadPost'. -/
def fnExactReadPostUptoCard : Claim7 := { stood := { row := fnExactReadPostUptoRow, standIns := [], harness := (true, "2e30e864aea2be2b699f77ddf0e7be2698050496e0fb892fdaf97c9ea88a3ab4"), looks := false }, kinds := [], alts := [], laidByText := true, laidKinds := [.data, .data, .data, .data], laidTests := true, laidLooks := .later }
def FnExactReadPostUptoCardSaid : Prop := Claim7.holds Tryd.pinned (.plain (OpenSpec.upto fnExactReadPostSpec)) fnExactReadPostUptoCard

/-- THE SECOND FORM's CARD OF 'laws.FnExactLedgerText'. -/
def fnExactLedgerTextUptoCard : Claim7 := { stood := { row := fnExactLedgerTextUptoRow, standIns := [], harness := (true, "2e30e864aea2be2b699f77ddf0e7be2698050496e0fb892fdaf97c9ea88a3ab4"), looks := false }, kinds := [], alts := [], laidByText := true, laidKinds := [.data, .data, .data, .data], laidTests := true, laidLooks := .later }
def FnExactLedgerTextUptoCardSaid : Prop := Claim7.holds Tryd.pinned (.plain (OpenSpec.upto fnExactLedgerTextSpec)) fnExactLedgerTextUptoCard

/-- THE SECOND FORM's CARD OF 'laws.FnExactReadLedger'. -/
def fnExactReadLedgerUptoCard : Claim7 := { stood := { row := fnExactReadLedgerUptoRow, standIns := [], harness := (true, "2e30e864aea2be2b699f77ddf0e7be2698050496e0fb892fdaf97c9ea88a3ab4"), looks := false }, kinds := [], alts := [], laidByText := true, laidKinds := [.data, .data, .data, .data], laidTests := true, laidLooks := .later }
def FnExactReadLedgerUptoCardSaid : Prop := Claim7.holds Tryd.pinned (.plain (OpenSpec.upto fnExactReadLedgerSpec)) fnExactReadLedgerUptoCard
end Rows
end Go.Proofs.YtpogfdeioibkdaaDoor
