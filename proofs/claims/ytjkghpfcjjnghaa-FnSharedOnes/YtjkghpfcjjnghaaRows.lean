/-
  No cell of these rows narrows 'for every input' (looked for: loops, veiled, ifaces, maps, wideKeys, modest, calm, conditions, laid).
  DERIVED. THE GIVEN ROWS OF THIS SEAT. 6 by the template 'for every input the law returns true; each argument reads behind the call as it read before'; 0 by the template 'total and deterministic' (their statements: YtjkghpfcjjnghaaTotals.lean).
  GIVEN WITH THE SEED: the statements are not yours to turn. If you find one false, say at which input.
  Laid BY PROGRAM, IN A SANDBOX (cutbox-rows.mjs): the forced cells as the released guide's own fill.sh prints them over the translation 0200b88abe7e18ec… (all of the seat's roots in one cut). By AI agents, Wed Nov 11 2026. No macro, syntax, notation, axiom, sorry.
-/
import Derived.Test.YtjkghpfcjjnghaaChecked
import GoSem.Claim
import GoSem.ClaimJoined
import GoSem.ClaimMapViews
import Derived.JoinedTies
import Derived.KernelRfl
namespace Go.Proofs.Ytjkghpfcjjnghaa
/- THE CELL 'sum', in the pinned program and in every row, IS THE sha256 OF THE DUMP (.gsa) THAT YtjkghpfcjjnghaaProg.lean LOADS. Nothing in Lean hashes anything: it is a label: what it is worth is what the hold of that sum in a sandbox is worth. -/
noncomputable def Try.pinned : Pinned := { name := "ytjkghpfcjjnghaa", sum := "0200b88abe7e18ec1f04f2c49a87e027c4bca095de4e5712a5f2b960ac526145", checked := Try.checked }
namespace Rows
def none {H : Type} : Left H := { results := [], args := [] }

/-- 'laws.FnMulDiv': WHATEVER THE INPUT: true; the input reads as it did. -/
def fnMulDivSpec : ChangeSpec := { name := "fnMulDiv", fn := fun _ => fun
  | [d] => { results := [.lit (.bool true)], args := [d] }
  | _ => none }
def fnMulDivRow : OpenClaim := { program := "ytjkghpfcjjnghaa", sum := "0200b88abe7e18ec1f04f2c49a87e027c4bca095de4e5712a5f2b960ac526145", func := "loop.example/g00714/laws.FnMulDiv", spec := "fnMulDiv", named := ["math/bits.divideError", "math/bits.overflowError"], apart := false }
def FnMulDivSaid : Prop := fnMulDivRow.holds Try.pinned (OpenSpec.ofChange fnMulDivSpec)

/-- ITS FALSE NEIGHBOUR: 'it returns false'. Refute it at one input. -/
def fnMulDivWrong : ChangeSpec := { name := "fnMulDiv", fn := fun _ => fun
  | [d] => { results := [.lit (.bool false)], args := [d] }
  | _ => none }
def FnMulDivWrongFalsely : Prop := fnMulDivRow.holds Try.pinned (OpenSpec.ofChange fnMulDivWrong)

/-- 'laws.FnMulDivMore': WHATEVER THE INPUT: true; the input reads as it did. -/
def fnMulDivMoreSpec : ChangeSpec := { name := "fnMulDivMore", fn := fun _ => fun
  | [d] => { results := [.lit (.bool true)], args := [d] }
  | _ => none }
def fnMulDivMoreRow : OpenClaim := { program := "ytjkghpfcjjnghaa", sum := "0200b88abe7e18ec1f04f2c49a87e027c4bca095de4e5712a5f2b960ac526145", func := "loop.example/g00714/laws.FnMulDivMore", spec := "fnMulDivMore", named := ["math/bits.divideError", "math/bits.overflowError"], apart := false }
def FnMulDivMoreSaid : Prop := fnMulDivMoreRow.holds Try.pinned (OpenSpec.ofChange fnMulDivMoreSpec)

/-- ITS FALSE NEIGHBOUR: 'it returns false'. Refute it at one input. -/
def fnMulDivMoreWrong : ChangeSpec := { name := "fnMulDivMore", fn := fun _ => fun
  | [d] => { results := [.lit (.bool false)], args := [d] }
  | _ => none }
def FnMulDivMoreWrongFalsely : Prop := fnMulDivMoreRow.holds Try.pinned (OpenSpec.ofChange fnMulDivMoreWrong)

/-- 'laws.FnShared': WHATEVER THE INPUT: true; the input reads as it did. -/
def fnSharedSpec : ChangeSpec := { name := "fnShared", fn := fun _ => fun
  | [d] => { results := [.lit (.bool true)], args := [d] }
  | _ => none }
def fnSharedRow : OpenClaim := { program := "ytjkghpfcjjnghaa", sum := "0200b88abe7e18ec1f04f2c49a87e027c4bca095de4e5712a5f2b960ac526145", func := "loop.example/g00714/laws.FnShared", spec := "fnShared", unfollowed := true, recurses := true, apart := false }
def FnSharedSaid : Prop := fnSharedRow.holds Try.pinned (OpenSpec.ofChange fnSharedSpec)

/-- ITS FALSE NEIGHBOUR: 'it returns false'. Refute it at one input. -/
def fnSharedWrong : ChangeSpec := { name := "fnShared", fn := fun _ => fun
  | [d] => { results := [.lit (.bool false)], args := [d] }
  | _ => none }
def FnSharedWrongFalsely : Prop := fnSharedRow.holds Try.pinned (OpenSpec.ofChange fnSharedWrong)

/-- 'laws.FnSharedOnes': WHATEVER THE INPUT: true; the input reads as it did. -/
def fnSharedOnesSpec : ChangeSpec := { name := "fnSharedOnes", fn := fun _ => fun
  | [d] => { results := [.lit (.bool true)], args := [d] }
  | _ => none }
def fnSharedOnesRow : OpenClaim := { program := "ytjkghpfcjjnghaa", sum := "0200b88abe7e18ec1f04f2c49a87e027c4bca095de4e5712a5f2b960ac526145", func := "loop.example/g00714/laws.FnSharedOnes", spec := "fnSharedOnes", unfollowed := true, recurses := true, apart := false }
def FnSharedOnesSaid : Prop := fnSharedOnesRow.holds Try.pinned (OpenSpec.ofChange fnSharedOnesSpec)

/-- ITS FALSE NEIGHBOUR: 'it returns false'. Refute it at one input. -/
def fnSharedOnesWrong : ChangeSpec := { name := "fnSharedOnes", fn := fun _ => fun
  | [d] => { results := [.lit (.bool false)], args := [d] }
  | _ => none }
def FnSharedOnesWrongFalsely : Prop := fnSharedOnesRow.holds Try.pinned (OpenSpec.ofChange fnSharedOnesWrong)

/-- 'laws.FnExactMulDiv': WHATEVER THE INPUT: true; the input reads as it did. -/
def fnExactMulDivSpec : ChangeSpec := { name := "fnExactMulDiv", fn := fun _ => fun
  | [d1, d2, d3] => { results := [.lit (.bool true)], args := [d1, d2, d3] }
  | _ => none }
def fnExactMulDivRow : OpenClaim := { program := "ytjkghpfcjjnghaa", sum := "0200b88abe7e18ec1f04f2c49a87e027c4bca095de4e5712a5f2b960ac526145", func := "loop.example/g00714/laws.FnExactMulDiv", spec := "fnExactMulDiv", named := ["math/bits.divideError", "math/bits.overflowError"], apart := false }
def FnExactMulDivSaid : Prop := fnExactMulDivRow.holds Try.pinned (OpenSpec.ofChange fnExactMulDivSpec)

/-- ITS FALSE NEIGHBOUR: 'it returns false'. Refute it at one input. -/
def fnExactMulDivWrong : ChangeSpec := { name := "fnExactMulDiv", fn := fun _ => fun
  | [d1, d2, d3] => { results := [.lit (.bool false)], args := [d1, d2, d3] }
  | _ => none }
def FnExactMulDivWrongFalsely : Prop := fnExactMulDivRow.holds Try.pinned (OpenSpec.ofChange fnExactMulDivWrong)

/-- 'laws.FnExactShared': WHATEVER THE INPUT: true; the input reads as it did. -/
def fnExactSharedSpec : ChangeSpec := { name := "fnExactShared", fn := fun _ => fun
  | [d1, d2] => { results := [.lit (.bool true)], args := [d1, d2] }
  | _ => none }
def fnExactSharedRow : OpenClaim := { program := "ytjkghpfcjjnghaa", sum := "0200b88abe7e18ec1f04f2c49a87e027c4bca095de4e5712a5f2b960ac526145", func := "loop.example/g00714/laws.FnExactShared", spec := "fnExactShared", unfollowed := true, recurses := true, apart := false }
def FnExactSharedSaid : Prop := fnExactSharedRow.holds Try.pinned (OpenSpec.ofChange fnExactSharedSpec)

/-- ITS FALSE NEIGHBOUR: 'it returns false'. Refute it at one input. -/
def fnExactSharedWrong : ChangeSpec := { name := "fnExactShared", fn := fun _ => fun
  | [d1, d2] => { results := [.lit (.bool false)], args := [d1, d2] }
  | _ => none }
def FnExactSharedWrongFalsely : Prop := fnExactSharedRow.holds Try.pinned (OpenSpec.ofChange fnExactSharedWrong)

/- THE SECOND FORM. 'bulk': how many values and letters a reading holds, each counted each time it is reached (what is shared counts as often as it is met; a slice's spare places count too). A statement '..UptoSaid' is the law's where the arguments, and the package variables that the reading takes, are together of bulk at most 1048576: NARROWER than '..Said'. Prove '..Said' where nothing that the law and all that it calls make is longer than what came in: it says more and counts as full. Else prove '..UptoSaid'. A law counts once. -/
mutual
def uptoBulk {H : Type} : DataW H → Nat
  | .lit (.string bytes) => bytes.length + 1
  | .lit _ => 1
  | .nil => 1
  | .ptr d => uptoBulk d + 1
  | .slice elems spare => uptoBulkAll elems + uptoBulkAll spare + 1
  | .agg parts => uptoBulkAll parts + 1
  | .iface _ d => uptoBulk d + 1
  | .map entries => uptoBulkEntries entries + 1
  | .held _ => 1
def uptoBulkAll {H : Type} : List (DataW H) → Nat
  | [] => 0
  | d :: r => uptoBulk d + uptoBulkAll r
def uptoBulkEntries {H : Type} : List (Lit × DataW H) → Nat
  | [] => 0
  | x :: r => uptoBulkEntry x + uptoBulkEntries r
def uptoBulkEntry {H : Type} : Lit × DataW H → Nat
  | (.string bytes, d) => bytes.length + uptoBulk d + 1
  | (_, d) => uptoBulk d + 1
 end
def uptoSmall : (H : Type) → List (DataW H) → Bool := fun _ ds => decide (uptoBulkAll ds ≤ 1048576)
def OpenSpec.upto (s : _root_.Go.ChangeSpec) : _root_.Go.OpenSpec := { _root_.Go.OpenSpec.ofChange s with cond := some uptoSmall }

/-- 'laws.FnMulDiv', WHERE WHAT IT READS IS OF BULK AT MOST 1048576: true; the input reads as it did. -/
def fnMulDivUptoRow : OpenClaim := { program := "ytjkghpfcjjnghaa", sum := "0200b88abe7e18ec1f04f2c49a87e027c4bca095de4e5712a5f2b960ac526145", func := "loop.example/g00714/laws.FnMulDiv", spec := "fnMulDiv", named := ["math/bits.divideError", "math/bits.overflowError"], apart := false, narrowed := true }
def FnMulDivUptoSaid : Prop := fnMulDivUptoRow.holds Try.pinned (OpenSpec.upto fnMulDivSpec)

/-- 'laws.FnMulDivMore', WHERE WHAT IT READS IS OF BULK AT MOST 1048576: true; the input reads as it did. -/
def fnMulDivMoreUptoRow : OpenClaim := { program := "ytjkghpfcjjnghaa", sum := "0200b88abe7e18ec1f04f2c49a87e027c4bca095de4e5712a5f2b960ac526145", func := "loop.example/g00714/laws.FnMulDivMore", spec := "fnMulDivMore", named := ["math/bits.divideError", "math/bits.overflowError"], apart := false, narrowed := true }
def FnMulDivMoreUptoSaid : Prop := fnMulDivMoreUptoRow.holds Try.pinned (OpenSpec.upto fnMulDivMoreSpec)

/-- 'laws.FnShared', WHERE WHAT IT READS IS OF BULK AT MOST 1048576: true; the input reads as it did. -/
def fnSharedUptoRow : OpenClaim := { program := "ytjkghpfcjjnghaa", sum := "0200b88abe7e18ec1f04f2c49a87e027c4bca095de4e5712a5f2b960ac526145", func := "loop.example/g00714/laws.FnShared", spec := "fnShared", unfollowed := true, recurses := true, apart := false, narrowed := true }
def FnSharedUptoSaid : Prop := fnSharedUptoRow.holds Try.pinned (OpenSpec.upto fnSharedSpec)

/-- 'laws.FnSharedOnes', WHERE WHAT IT READS IS OF BULK AT MOST 1048576: true; the input reads as it did. -/
def fnSharedOnesUptoRow : OpenClaim := { program := "ytjkghpfcjjnghaa", sum := "0200b88abe7e18ec1f04f2c49a87e027c4bca095de4e5712a5f2b960ac526145", func := "loop.example/g00714/laws.FnSharedOnes", spec := "fnSharedOnes", unfollowed := true, recurses := true, apart := false, narrowed := true }
def FnSharedOnesUptoSaid : Prop := fnSharedOnesUptoRow.holds Try.pinned (OpenSpec.upto fnSharedOnesSpec)

/-- 'laws.FnExactMulDiv', WHERE WHAT IT READS IS OF BULK AT MOST 1048576: true; the input reads as it did. -/
def fnExactMulDivUptoRow : OpenClaim := { program := "ytjkghpfcjjnghaa", sum := "0200b88abe7e18ec1f04f2c49a87e027c4bca095de4e5712a5f2b960ac526145", func := "loop.example/g00714/laws.FnExactMulDiv", spec := "fnExactMulDiv", named := ["math/bits.divideError", "math/bits.overflowError"], apart := false, narrowed := true }
def FnExactMulDivUptoSaid : Prop := fnExactMulDivUptoRow.holds Try.pinned (OpenSpec.upto fnExactMulDivSpec)

/-- 'laws.FnExactShared', WHERE WHAT IT READS IS OF BULK AT MOST 1048576: true; the input reads as it did. -/
def fnExactSharedUptoRow : OpenClaim := { program := "ytjkghpfcjjnghaa", sum := "0200b88abe7e18ec1f04f2c49a87e027c4bca095de4e5712a5f2b960ac526145", func := "loop.example/g00714/laws.FnExactShared", spec := "fnExactShared", unfollowed := true, recurses := true, apart := false, narrowed := true }
def FnExactSharedUptoSaid : Prop := fnExactSharedUptoRow.holds Try.pinned (OpenSpec.upto fnExactSharedSpec)

end Rows
end Go.Proofs.Ytjkghpfcjjnghaa
