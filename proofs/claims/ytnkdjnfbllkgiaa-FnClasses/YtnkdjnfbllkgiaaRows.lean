/-
  No cell of these rows narrows 'for every input' (looked for: loops, veiled, ifaces, maps, wideKeys, modest, calm, conditions, laid).
  DERIVED. THE GIVEN ROWS OF THIS SEAT. 10 by the template 'for every input the law returns true; each argument reads behind the call as it read before'; 0 by the template 'total and deterministic' (their statements: YtnkdjnfbllkgiaaTotals.lean).
  GIVEN WITH THE SEED: the statements are not yours to turn. If you find one false, say at which input.
  Laid BY PROGRAM, IN A SANDBOX (cutbox-rows.mjs): the forced cells as the released guide's own fill.sh prints them over the translation 0ec1a5ab8b0e35dc… (all of the seat's roots in one cut). By AI agents, Wed Nov 11 2026. No macro, syntax, notation, axiom, sorry.
-/
import Derived.Test.YtnkdjnfbllkgiaaChecked
import GoSem.Claim
import GoSem.ClaimJoined
import GoSem.ClaimMapViews
import Derived.JoinedTies
import Derived.KernelRfl
namespace Go.Proofs.Ytnkdjnfbllkgiaa
/- THE CELL 'sum', in the pinned program and in every row, IS THE sha256 OF THE DUMP (.gsa) THAT YtnkdjnfbllkgiaaProg.lean LOADS. Nothing in Lean hashes anything: it is a label: what it is worth is what the hold of that sum in a sandbox is worth. -/
noncomputable def Try.pinned : Pinned := { name := "ytnkdjnfbllkgiaa", sum := "0ec1a5ab8b0e35dcc6d8b5a1a1c125dc29da4df9d375c5ce8dea04c0f88b6939", checked := Try.checked }
namespace Rows
def none {H : Type} : Left H := { results := [], args := [] }

/-- 'laws.FnExactAcctOk': WHATEVER THE INPUT: true; the input reads as it did. -/
def fnExactAcctOkSpec : ChangeSpec := { name := "fnExactAcctOk", fn := fun _ => fun
  | [d] => { results := [.lit (.bool true)], args := [d] }
  | _ => none }
def fnExactAcctOkRow : OpenClaim := { program := "ytnkdjnfbllkgiaa", sum := "0ec1a5ab8b0e35dcc6d8b5a1a1c125dc29da4df9d375c5ce8dea04c0f88b6939", func := "loop.example/g00714/laws.FnExactAcctOk", spec := "fnExactAcctOk", plainKeys := false, apart := false }
def FnExactAcctOkSaid : Prop := fnExactAcctOkRow.holds Try.pinned (OpenSpec.ofChange fnExactAcctOkSpec)

/-- ITS FALSE NEIGHBOUR: 'it returns false'. Refute it at one input. -/
def fnExactAcctOkWrong : ChangeSpec := { name := "fnExactAcctOk", fn := fun _ => fun
  | [d] => { results := [.lit (.bool false)], args := [d] }
  | _ => none }
def FnExactAcctOkWrongFalsely : Prop := fnExactAcctOkRow.holds Try.pinned (OpenSpec.ofChange fnExactAcctOkWrong)

/-- 'laws.FnExactLedgerOk': WHATEVER THE INPUT: true; the input reads as it did. -/
def fnExactLedgerOkSpec : ChangeSpec := { name := "fnExactLedgerOk", fn := fun _ => fun
  | [d] => { results := [.lit (.bool true)], args := [d] }
  | _ => none }
def fnExactLedgerOkRow : OpenClaim := { program := "ytnkdjnfbllkgiaa", sum := "0ec1a5ab8b0e35dcc6d8b5a1a1c125dc29da4df9d375c5ce8dea04c0f88b6939", func := "loop.example/g00714/laws.FnExactLedgerOk", spec := "fnExactLedgerOk", plainKeys := false, apart := false }
def FnExactLedgerOkSaid : Prop := fnExactLedgerOkRow.holds Try.pinned (OpenSpec.ofChange fnExactLedgerOkSpec)

/-- ITS FALSE NEIGHBOUR: 'it returns false'. Refute it at one input. -/
def fnExactLedgerOkWrong : ChangeSpec := { name := "fnExactLedgerOk", fn := fun _ => fun
  | [d] => { results := [.lit (.bool false)], args := [d] }
  | _ => none }
def FnExactLedgerOkWrongFalsely : Prop := fnExactLedgerOkRow.holds Try.pinned (OpenSpec.ofChange fnExactLedgerOkWrong)

/-- 'laws.FnExactClassSum': WHATEVER THE INPUT: true; the input reads as it did. -/
def fnExactClassSumSpec : ChangeSpec := { name := "fnExactClassSum", fn := fun _ => fun
  | [d1, d2, d3] => { results := [.lit (.bool true)], args := [d1, d2, d3] }
  | _ => none }
def fnExactClassSumRow : OpenClaim := { program := "ytnkdjnfbllkgiaa", sum := "0ec1a5ab8b0e35dcc6d8b5a1a1c125dc29da4df9d375c5ce8dea04c0f88b6939", func := "loop.example/g00714/laws.FnExactClassSum", spec := "fnExactClassSum", plainKeys := false, apart := false }
def FnExactClassSumSaid : Prop := fnExactClassSumRow.holds Try.pinned (OpenSpec.ofChange fnExactClassSumSpec)

/-- ITS FALSE NEIGHBOUR: 'it returns false'. Refute it at one input. -/
def fnExactClassSumWrong : ChangeSpec := { name := "fnExactClassSum", fn := fun _ => fun
  | [d1, d2, d3] => { results := [.lit (.bool false)], args := [d1, d2, d3] }
  | _ => none }
def FnExactClassSumWrongFalsely : Prop := fnExactClassSumRow.holds Try.pinned (OpenSpec.ofChange fnExactClassSumWrong)

/-- 'laws.FnExactTrial': WHATEVER THE INPUT: true; the input reads as it did. -/
def fnExactTrialSpec : ChangeSpec := { name := "fnExactTrial", fn := fun _ => fun
  | [d] => { results := [.lit (.bool true)], args := [d] }
  | _ => none }
def fnExactTrialRow : OpenClaim := { program := "ytnkdjnfbllkgiaa", sum := "0ec1a5ab8b0e35dcc6d8b5a1a1c125dc29da4df9d375c5ce8dea04c0f88b6939", func := "loop.example/g00714/laws.FnExactTrial", spec := "fnExactTrial", plainKeys := false, apart := false }
def FnExactTrialSaid : Prop := fnExactTrialRow.holds Try.pinned (OpenSpec.ofChange fnExactTrialSpec)

/-- ITS FALSE NEIGHBOUR: 'it returns false'. Refute it at one input. -/
def fnExactTrialWrong : ChangeSpec := { name := "fnExactTrial", fn := fun _ => fun
  | [d] => { results := [.lit (.bool false)], args := [d] }
  | _ => none }
def FnExactTrialWrongFalsely : Prop := fnExactTrialRow.holds Try.pinned (OpenSpec.ofChange fnExactTrialWrong)

/-- 'laws.FnExactBalanceOf': WHATEVER THE INPUT: true; the input reads as it did. -/
def fnExactBalanceOfSpec : ChangeSpec := { name := "fnExactBalanceOf", fn := fun _ => fun
  | [d1, d2, d3] => { results := [.lit (.bool true)], args := [d1, d2, d3] }
  | _ => none }
def fnExactBalanceOfRow : OpenClaim := { program := "ytnkdjnfbllkgiaa", sum := "0ec1a5ab8b0e35dcc6d8b5a1a1c125dc29da4df9d375c5ce8dea04c0f88b6939", func := "loop.example/g00714/laws.FnExactBalanceOf", spec := "fnExactBalanceOf", plainKeys := false, apart := false }
def FnExactBalanceOfSaid : Prop := fnExactBalanceOfRow.holds Try.pinned (OpenSpec.ofChange fnExactBalanceOfSpec)

/-- ITS FALSE NEIGHBOUR: 'it returns false'. Refute it at one input. -/
def fnExactBalanceOfWrong : ChangeSpec := { name := "fnExactBalanceOf", fn := fun _ => fun
  | [d1, d2, d3] => { results := [.lit (.bool false)], args := [d1, d2, d3] }
  | _ => none }
def FnExactBalanceOfWrongFalsely : Prop := fnExactBalanceOfRow.holds Try.pinned (OpenSpec.ofChange fnExactBalanceOfWrong)

/-- 'laws.FnExactPosted': WHATEVER THE INPUT: true; the input reads as it did. -/
def fnExactPostedSpec : ChangeSpec := { name := "fnExactPosted", fn := fun _ => fun
  | [d1, d2] => { results := [.lit (.bool true)], args := [d1, d2] }
  | _ => none }
def fnExactPostedRow : OpenClaim := { program := "ytnkdjnfbllkgiaa", sum := "0ec1a5ab8b0e35dcc6d8b5a1a1c125dc29da4df9d375c5ce8dea04c0f88b6939", func := "loop.example/g00714/laws.FnExactPosted", spec := "fnExactPosted", unfollowed := true, recurses := true, plainKeys := false, apart := false }
def FnExactPostedSaid : Prop := fnExactPostedRow.holds Try.pinned (OpenSpec.ofChange fnExactPostedSpec)

/-- ITS FALSE NEIGHBOUR: 'it returns false'. Refute it at one input. -/
def fnExactPostedWrong : ChangeSpec := { name := "fnExactPosted", fn := fun _ => fun
  | [d1, d2] => { results := [.lit (.bool false)], args := [d1, d2] }
  | _ => none }
def FnExactPostedWrongFalsely : Prop := fnExactPostedRow.holds Try.pinned (OpenSpec.ofChange fnExactPostedWrong)

/-- 'laws.FnPosted': WHATEVER THE INPUT: true; the input reads as it did. -/
def fnPostedSpec : ChangeSpec := { name := "fnPosted", fn := fun _ => fun
  | [d] => { results := [.lit (.bool true)], args := [d] }
  | _ => none }
def fnPostedRow : OpenClaim := { program := "ytnkdjnfbllkgiaa", sum := "0ec1a5ab8b0e35dcc6d8b5a1a1c125dc29da4df9d375c5ce8dea04c0f88b6939", func := "loop.example/g00714/laws.FnPosted", spec := "fnPosted", unfollowed := true, recurses := true, plainKeys := false, apart := false }
def FnPostedSaid : Prop := fnPostedRow.holds Try.pinned (OpenSpec.ofChange fnPostedSpec)

/-- ITS FALSE NEIGHBOUR: 'it returns false'. Refute it at one input. -/
def fnPostedWrong : ChangeSpec := { name := "fnPosted", fn := fun _ => fun
  | [d] => { results := [.lit (.bool false)], args := [d] }
  | _ => none }
def FnPostedWrongFalsely : Prop := fnPostedRow.holds Try.pinned (OpenSpec.ofChange fnPostedWrong)

/-- 'laws.FnPostedBack': WHATEVER THE INPUT: true; the input reads as it did. -/
def fnPostedBackSpec : ChangeSpec := { name := "fnPostedBack", fn := fun _ => fun
  | [d] => { results := [.lit (.bool true)], args := [d] }
  | _ => none }
def fnPostedBackRow : OpenClaim := { program := "ytnkdjnfbllkgiaa", sum := "0ec1a5ab8b0e35dcc6d8b5a1a1c125dc29da4df9d375c5ce8dea04c0f88b6939", func := "loop.example/g00714/laws.FnPostedBack", spec := "fnPostedBack", unfollowed := true, recurses := true, plainKeys := false, apart := false }
def FnPostedBackSaid : Prop := fnPostedBackRow.holds Try.pinned (OpenSpec.ofChange fnPostedBackSpec)

/-- ITS FALSE NEIGHBOUR: 'it returns false'. Refute it at one input. -/
def fnPostedBackWrong : ChangeSpec := { name := "fnPostedBack", fn := fun _ => fun
  | [d] => { results := [.lit (.bool false)], args := [d] }
  | _ => none }
def FnPostedBackWrongFalsely : Prop := fnPostedBackRow.holds Try.pinned (OpenSpec.ofChange fnPostedBackWrong)

/-- 'laws.FnPostedOrder': WHATEVER THE INPUT: true; the input reads as it did. -/
def fnPostedOrderSpec : ChangeSpec := { name := "fnPostedOrder", fn := fun _ => fun
  | [d] => { results := [.lit (.bool true)], args := [d] }
  | _ => none }
def fnPostedOrderRow : OpenClaim := { program := "ytnkdjnfbllkgiaa", sum := "0ec1a5ab8b0e35dcc6d8b5a1a1c125dc29da4df9d375c5ce8dea04c0f88b6939", func := "loop.example/g00714/laws.FnPostedOrder", spec := "fnPostedOrder", unfollowed := true, recurses := true, plainKeys := false, apart := false }
def FnPostedOrderSaid : Prop := fnPostedOrderRow.holds Try.pinned (OpenSpec.ofChange fnPostedOrderSpec)

/-- ITS FALSE NEIGHBOUR: 'it returns false'. Refute it at one input. -/
def fnPostedOrderWrong : ChangeSpec := { name := "fnPostedOrder", fn := fun _ => fun
  | [d] => { results := [.lit (.bool false)], args := [d] }
  | _ => none }
def FnPostedOrderWrongFalsely : Prop := fnPostedOrderRow.holds Try.pinned (OpenSpec.ofChange fnPostedOrderWrong)

/-- 'laws.FnClasses': WHATEVER THE INPUT: true; the input reads as it did. -/
def fnClassesSpec : ChangeSpec := { name := "fnClasses", fn := fun _ => fun
  | [d] => { results := [.lit (.bool true)], args := [d] }
  | _ => none }
def fnClassesRow : OpenClaim := { program := "ytnkdjnfbllkgiaa", sum := "0ec1a5ab8b0e35dcc6d8b5a1a1c125dc29da4df9d375c5ce8dea04c0f88b6939", func := "loop.example/g00714/laws.FnClasses", spec := "fnClasses", plainKeys := false, apart := false }
def FnClassesSaid : Prop := fnClassesRow.holds Try.pinned (OpenSpec.ofChange fnClassesSpec)

/-- ITS FALSE NEIGHBOUR: 'it returns false'. Refute it at one input. -/
def fnClassesWrong : ChangeSpec := { name := "fnClasses", fn := fun _ => fun
  | [d] => { results := [.lit (.bool false)], args := [d] }
  | _ => none }
def FnClassesWrongFalsely : Prop := fnClassesRow.holds Try.pinned (OpenSpec.ofChange fnClassesWrong)

/- THE SECOND FORM. 'bulk': how many values and letters a reading holds, each counted each time it is reached (what is shared counts as often as it is met; a slice's spare places count too). A statement '..UptoSaid' is the law's where the arguments, and the package variables that the reading takes, are together of bulk at most 1048576: NARROWER than '..Said'. Prove '..Said' where nothing that the law and all that it calls make is longer than what came in: it says more and counts as full. Else prove '..UptoSaid'. A law counts once. -/
mutual
def uptoBulk {H : Type} : DataW H → Nat
  | .lit (.string bytes) => bytes.length + 1
  | .lit _ => 1
  | .nil => 1
  | .ptr d => uptoBulk d + 1
  | .slice elems spare => uptoBulkAll elems + uptoBulkAll spare + 1
  | .agg parts => uptoBulkAll parts + 1
  | .iface _ d => uptoBulk d + 1
  | .map entries => uptoBulkEntries entries + 1
  | .held _ => 1
def uptoBulkAll {H : Type} : List (DataW H) → Nat
  | [] => 0
  | d :: r => uptoBulk d + uptoBulkAll r
def uptoBulkEntries {H : Type} : List (Lit × DataW H) → Nat
  | [] => 0
  | x :: r => uptoBulkEntry x + uptoBulkEntries r
def uptoBulkEntry {H : Type} : Lit × DataW H → Nat
  | (.string bytes, d) => bytes.length + uptoBulk d + 1
  | (_, d) => uptoBulk d + 1
 end
def uptoSmall : (H : Type) → List (DataW H) → Bool := fun _ ds => decide (uptoBulkAll ds ≤ 1048576)
def OpenSpec.upto (s : _root_.Go.ChangeSpec) : _root_.Go.OpenSpec := { _root_.Go.OpenSpec.ofChange s with cond := some uptoSmall }

/-- 'laws.FnExactAcctOk', WHERE WHAT IT READS IS OF BULK AT MOST 1048576: true; the input reads as it did. -/
def fnExactAcctOkUptoRow : OpenClaim := { program := "ytnkdjnfbllkgiaa", sum := "0ec1a5ab8b0e35dcc6d8b5a1a1c125dc29da4df9d375c5ce8dea04c0f88b6939", func := "loop.example/g00714/laws.FnExactAcctOk", spec := "fnExactAcctOk", plainKeys := false, apart := false, narrowed := true }
def FnExactAcctOkUptoSaid : Prop := fnExactAcctOkUptoRow.holds Try.pinned (OpenSpec.upto fnExactAcctOkSpec)

/-- 'laws.FnExactLedgerOk', WHERE WHAT IT READS IS OF BULK AT MOST 1048576: true; the input reads as it did. -/
def fnExactLedgerOkUptoRow : OpenClaim := { program := "ytnkdjnfbllkgiaa", sum := "0ec1a5ab8b0e35dcc6d8b5a1a1c125dc29da4df9d375c5ce8dea04c0f88b6939", func := "loop.example/g00714/laws.FnExactLedgerOk", spec := "fnExactLedgerOk", plainKeys := false, apart := false, narrowed := true }
def FnExactLedgerOkUptoSaid : Prop := fnExactLedgerOkUptoRow.holds Try.pinned (OpenSpec.upto fnExactLedgerOkSpec)

/-- 'laws.FnExactClassSum', WHERE WHAT IT READS IS OF BULK AT MOST 1048576: true; the input reads as it did. -/
def fnExactClassSumUptoRow : OpenClaim := { program := "ytnkdjnfbllkgiaa", sum := "0ec1a5ab8b0e35dcc6d8b5a1a1c125dc29da4df9d375c5ce8dea04c0f88b6939", func := "loop.example/g00714/laws.FnExactClassSum", spec := "fnExactClassSum", plainKeys := false, apart := false, narrowed := true }
def FnExactClassSumUptoSaid : Prop := fnExactClassSumUptoRow.holds Try.pinned (OpenSpec.upto fnExactClassSumSpec)

/-- 'laws.FnExactTrial', WHERE WHAT IT READS IS OF BULK AT MOST 1048576: true; the input reads as it did. -/
def fnExactTrialUptoRow : OpenClaim := { program := "ytnkdjnfbllkgiaa", sum := "0ec1a5ab8b0e35dcc6d8b5a1a1c125dc29da4df9d375c5ce8dea04c0f88b6939", func := "loop.example/g00714/laws.FnExactTrial", spec := "fnExactTrial", plainKeys := false, apart := false, narrowed := true }
def FnExactTrialUptoSaid : Prop := fnExactTrialUptoRow.holds Try.pinned (OpenSpec.upto fnExactTrialSpec)

/-- 'laws.FnExactBalanceOf', WHERE WHAT IT READS IS OF BULK AT MOST 1048576: true; the input reads as it did. -/
def fnExactBalanceOfUptoRow : OpenClaim := { program := "ytnkdjnfbllkgiaa", sum := "0ec1a5ab8b0e35dcc6d8b5a1a1c125dc29da4df9d375c5ce8dea04c0f88b6939", func := "loop.example/g00714/laws.FnExactBalanceOf", spec := "fnExactBalanceOf", plainKeys := false, apart := false, narrowed := true }
def FnExactBalanceOfUptoSaid : Prop := fnExactBalanceOfUptoRow.holds Try.pinned (OpenSpec.upto fnExactBalanceOfSpec)

/-- 'laws.FnExactPosted', WHERE WHAT IT READS IS OF BULK AT MOST 1048576: true; the input reads as it did. -/
def fnExactPostedUptoRow : OpenClaim := { program := "ytnkdjnfbllkgiaa", sum := "0ec1a5ab8b0e35dcc6d8b5a1a1c125dc29da4df9d375c5ce8dea04c0f88b6939", func := "loop.example/g00714/laws.FnExactPosted", spec := "fnExactPosted", unfollowed := true, recurses := true, plainKeys := false, apart := false, narrowed := true }
def FnExactPostedUptoSaid : Prop := fnExactPostedUptoRow.holds Try.pinned (OpenSpec.upto fnExactPostedSpec)

/-- 'laws.FnPosted', WHERE WHAT IT READS IS OF BULK AT MOST 1048576: true; the input reads as it did. -/
def fnPostedUptoRow : OpenClaim := { program := "ytnkdjnfbllkgiaa", sum := "0ec1a5ab8b0e35dcc6d8b5a1a1c125dc29da4df9d375c5ce8dea04c0f88b6939", func := "loop.example/g00714/laws.FnPosted", spec := "fnPosted", unfollowed := true, recurses := true, plainKeys := false, apart := false, narrowed := true }
def FnPostedUptoSaid : Prop := fnPostedUptoRow.holds Try.pinned (OpenSpec.upto fnPostedSpec)

/-- 'laws.FnPostedBack', WHERE WHAT IT READS IS OF BULK AT MOST 1048576: true; the input reads as it did. -/
def fnPostedBackUptoRow : OpenClaim := { program := "ytnkdjnfbllkgiaa", sum := "0ec1a5ab8b0e35dcc6d8b5a1a1c125dc29da4df9d375c5ce8dea04c0f88b6939", func := "loop.example/g00714/laws.FnPostedBack", spec := "fnPostedBack", unfollowed := true, recurses := true, plainKeys := false, apart := false, narrowed := true }
def FnPostedBackUptoSaid : Prop := fnPostedBackUptoRow.holds Try.pinned (OpenSpec.upto fnPostedBackSpec)

/-- 'laws.FnPostedOrder', WHERE WHAT IT READS IS OF BULK AT MOST 1048576: true; the input reads as it did. -/
def fnPostedOrderUptoRow : OpenClaim := { program := "ytnkdjnfbllkgiaa", sum := "0ec1a5ab8b0e35dcc6d8b5a1a1c125dc29da4df9d375c5ce8dea04c0f88b6939", func := "loop.example/g00714/laws.FnPostedOrder", spec := "fnPostedOrder", unfollowed := true, recurses := true, plainKeys := false, apart := false, narrowed := true }
def FnPostedOrderUptoSaid : Prop := fnPostedOrderUptoRow.holds Try.pinned (OpenSpec.upto fnPostedOrderSpec)

/-- 'laws.FnClasses', WHERE WHAT IT READS IS OF BULK AT MOST 1048576: true; the input reads as it did. -/
def fnClassesUptoRow : OpenClaim := { program := "ytnkdjnfbllkgiaa", sum := "0ec1a5ab8b0e35dcc6d8b5a1a1c125dc29da4df9d375c5ce8dea04c0f88b6939", func := "loop.example/g00714/laws.FnClasses", spec := "fnClasses", plainKeys := false, apart := false, narrowed := true }
def FnClassesUptoSaid : Prop := fnClassesUptoRow.holds Try.pinned (OpenSpec.upto fnClassesSpec)

end Rows
end Go.Proofs.Ytnkdjnfbllkgiaa
