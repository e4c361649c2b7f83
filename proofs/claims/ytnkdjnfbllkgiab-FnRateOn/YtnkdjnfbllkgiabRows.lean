/-
  No cell of these rows narrows 'for every input' (looked for: loops, veiled, ifaces, maps, wideKeys, modest, calm, conditions, laid).
  DERIVED. THE GIVEN ROWS OF THIS SEAT. 8 by the template 'for every input the law returns true; each argument reads behind the call as it read before'; 0 by the template 'total and deterministic' (their statements: YtnkdjnfbllkgiabTotals.lean).
  GIVEN WITH THE SEED: the statements are not yours to turn. If you find one false, say at which input.
  Laid BY PROGRAM, IN A SANDBOX (cutbox-rows.mjs): the forced cells as the released guide's own fill.sh prints them over the translation 67859474b7d45a75… (all of the seat's roots in one cut). By AI agents, Wed Nov 11 2026. No macro, syntax, notation, axiom, sorry.
-/
import Derived.Test.YtnkdjnfbllkgiabChecked
import GoSem.Claim
import GoSem.ClaimJoined
import GoSem.ClaimMapViews
import Derived.JoinedTies
import Derived.KernelRfl
namespace Go.Proofs.Ytnkdjnfbllkgiab
/- THE CELL 'sum', in the pinned program and in every row, IS THE sha256 OF THE DUMP (.gsa) THAT YtnkdjnfbllkgiabProg.lean LOADS. Nothing in Lean hashes anything: it is a label: what it is worth is what the hold of that sum in a sandbox is worth. -/
noncomputable def Try.pinned : Pinned := { name := "ytnkdjnfbllkgiab", sum := "67859474b7d45a758680691dd7eb199d84f06677e37e7d67d3c379e476010c6a", checked := Try.checked }
namespace Rows
def none {H : Type} : Left H := { results := [], args := [] }

/-- 'laws.FnExactRateOk': WHATEVER THE INPUT: true; the input reads as it did. -/
def fnExactRateOkSpec : ChangeSpec := { name := "fnExactRateOk", fn := fun _ => fun
  | [d] => { results := [.lit (.bool true)], args := [d] }
  | _ => none }
def fnExactRateOkRow : OpenClaim := { program := "ytnkdjnfbllkgiab", sum := "67859474b7d45a758680691dd7eb199d84f06677e37e7d67d3c379e476010c6a", func := "loop.example/g00714/laws.FnExactRateOk", spec := "fnExactRateOk", apart := false }
def FnExactRateOkSaid : Prop := fnExactRateOkRow.holds Try.pinned (OpenSpec.ofChange fnExactRateOkSpec)

/-- ITS FALSE NEIGHBOUR: 'it returns false'. Refute it at one input. -/
def fnExactRateOkWrong : ChangeSpec := { name := "fnExactRateOk", fn := fun _ => fun
  | [d] => { results := [.lit (.bool false)], args := [d] }
  | _ => none }
def FnExactRateOkWrongFalsely : Prop := fnExactRateOkRow.holds Try.pinned (OpenSpec.ofChange fnExactRateOkWrong)

/-- 'laws.FnExactRatesOk': WHATEVER THE INPUT: true; the input reads as it did. -/
def fnExactRatesOkSpec : ChangeSpec := { name := "fnExactRatesOk", fn := fun _ => fun
  | [d] => { results := [.lit (.bool true)], args := [d] }
  | _ => none }
def fnExactRatesOkRow : OpenClaim := { program := "ytnkdjnfbllkgiab", sum := "67859474b7d45a758680691dd7eb199d84f06677e37e7d67d3c379e476010c6a", func := "loop.example/g00714/laws.FnExactRatesOk", spec := "fnExactRatesOk", apart := false }
def FnExactRatesOkSaid : Prop := fnExactRatesOkRow.holds Try.pinned (OpenSpec.ofChange fnExactRatesOkSpec)

/-- ITS FALSE NEIGHBOUR: 'it returns false'. Refute it at one input. -/
def fnExactRatesOkWrong : ChangeSpec := { name := "fnExactRatesOk", fn := fun _ => fun
  | [d] => { results := [.lit (.bool false)], args := [d] }
  | _ => none }
def FnExactRatesOkWrongFalsely : Prop := fnExactRatesOkRow.holds Try.pinned (OpenSpec.ofChange fnExactRatesOkWrong)

/-- 'laws.FnExactRateOn': WHATEVER THE INPUT: true; the input reads as it did. -/
def fnExactRateOnSpec : ChangeSpec := { name := "fnExactRateOn", fn := fun _ => fun
  | [d1, d2, d3, d4] => { results := [.lit (.bool true)], args := [d1, d2, d3, d4] }
  | _ => none }
def fnExactRateOnRow : OpenClaim := { program := "ytnkdjnfbllkgiab", sum := "67859474b7d45a758680691dd7eb199d84f06677e37e7d67d3c379e476010c6a", func := "loop.example/g00714/laws.FnExactRateOn", spec := "fnExactRateOn", unfollowed := true, recurses := true, apart := false }
def FnExactRateOnSaid : Prop := fnExactRateOnRow.holds Try.pinned (OpenSpec.ofChange fnExactRateOnSpec)

/-- ITS FALSE NEIGHBOUR: 'it returns false'. Refute it at one input. -/
def fnExactRateOnWrong : ChangeSpec := { name := "fnExactRateOn", fn := fun _ => fun
  | [d1, d2, d3, d4] => { results := [.lit (.bool false)], args := [d1, d2, d3, d4] }
  | _ => none }
def FnExactRateOnWrongFalsely : Prop := fnExactRateOnRow.holds Try.pinned (OpenSpec.ofChange fnExactRateOnWrong)

/-- 'laws.FnExactRateAdded': WHATEVER THE INPUT: true; the input reads as it did. -/
def fnExactRateAddedSpec : ChangeSpec := { name := "fnExactRateAdded", fn := fun _ => fun
  | [d1, d2] => { results := [.lit (.bool true)], args := [d1, d2] }
  | _ => none }
def fnExactRateAddedRow : OpenClaim := { program := "ytnkdjnfbllkgiab", sum := "67859474b7d45a758680691dd7eb199d84f06677e37e7d67d3c379e476010c6a", func := "loop.example/g00714/laws.FnExactRateAdded", spec := "fnExactRateAdded", apart := false }
def FnExactRateAddedSaid : Prop := fnExactRateAddedRow.holds Try.pinned (OpenSpec.ofChange fnExactRateAddedSpec)

/-- ITS FALSE NEIGHBOUR: 'it returns false'. Refute it at one input. -/
def fnExactRateAddedWrong : ChangeSpec := { name := "fnExactRateAdded", fn := fun _ => fun
  | [d1, d2] => { results := [.lit (.bool false)], args := [d1, d2] }
  | _ => none }
def FnExactRateAddedWrongFalsely : Prop := fnExactRateAddedRow.holds Try.pinned (OpenSpec.ofChange fnExactRateAddedWrong)

/-- 'laws.FnExactConverted': WHATEVER THE INPUT: true; the input reads as it did. -/
def fnExactConvertedSpec : ChangeSpec := { name := "fnExactConverted", fn := fun _ => fun
  | [d1, d2, d3, d4, d5] => { results := [.lit (.bool true)], args := [d1, d2, d3, d4, d5] }
  | _ => none }
def fnExactConvertedRow : OpenClaim := { program := "ytnkdjnfbllkgiab", sum := "67859474b7d45a758680691dd7eb199d84f06677e37e7d67d3c379e476010c6a", func := "loop.example/g00714/laws.FnExactConverted", spec := "fnExactConverted", unfollowed := true, recurses := true, named := ["math/bits.divideError", "math/bits.overflowError"], apart := false }
def FnExactConvertedSaid : Prop := fnExactConvertedRow.holds Try.pinned (OpenSpec.ofChange fnExactConvertedSpec)

/-- ITS FALSE NEIGHBOUR: 'it returns false'. Refute it at one input. -/
def fnExactConvertedWrong : ChangeSpec := { name := "fnExactConverted", fn := fun _ => fun
  | [d1, d2, d3, d4, d5] => { results := [.lit (.bool false)], args := [d1, d2, d3, d4, d5] }
  | _ => none }
def FnExactConvertedWrongFalsely : Prop := fnExactConvertedRow.holds Try.pinned (OpenSpec.ofChange fnExactConvertedWrong)

/-- 'laws.FnRateOn': WHATEVER THE INPUT: true; the input reads as it did. -/
def fnRateOnSpec : ChangeSpec := { name := "fnRateOn", fn := fun _ => fun
  | [d] => { results := [.lit (.bool true)], args := [d] }
  | _ => none }
def fnRateOnRow : OpenClaim := { program := "ytnkdjnfbllkgiab", sum := "67859474b7d45a758680691dd7eb199d84f06677e37e7d67d3c379e476010c6a", func := "loop.example/g00714/laws.FnRateOn", spec := "fnRateOn", unfollowed := true, recurses := true, apart := false }
def FnRateOnSaid : Prop := fnRateOnRow.holds Try.pinned (OpenSpec.ofChange fnRateOnSpec)

/-- ITS FALSE NEIGHBOUR: 'it returns false'. Refute it at one input. -/
def fnRateOnWrong : ChangeSpec := { name := "fnRateOn", fn := fun _ => fun
  | [d] => { results := [.lit (.bool false)], args := [d] }
  | _ => none }
def FnRateOnWrongFalsely : Prop := fnRateOnRow.holds Try.pinned (OpenSpec.ofChange fnRateOnWrong)

/-- 'laws.FnConverted': WHATEVER THE INPUT: true; the input reads as it did. -/
def fnConvertedSpec : ChangeSpec := { name := "fnConverted", fn := fun _ => fun
  | [d] => { results := [.lit (.bool true)], args := [d] }
  | _ => none }
def fnConvertedRow : OpenClaim := { program := "ytnkdjnfbllkgiab", sum := "67859474b7d45a758680691dd7eb199d84f06677e37e7d67d3c379e476010c6a", func := "loop.example/g00714/laws.FnConverted", spec := "fnConverted", unfollowed := true, recurses := true, named := ["math/bits.divideError", "math/bits.overflowError"], apart := false }
def FnConvertedSaid : Prop := fnConvertedRow.holds Try.pinned (OpenSpec.ofChange fnConvertedSpec)

/-- ITS FALSE NEIGHBOUR: 'it returns false'. Refute it at one input. -/
def fnConvertedWrong : ChangeSpec := { name := "fnConverted", fn := fun _ => fun
  | [d] => { results := [.lit (.bool false)], args := [d] }
  | _ => none }
def FnConvertedWrongFalsely : Prop := fnConvertedRow.holds Try.pinned (OpenSpec.ofChange fnConvertedWrong)

/-- 'laws.FnRateNone': WHATEVER THE INPUT: true; the input reads as it did. -/
def fnRateNoneSpec : ChangeSpec := { name := "fnRateNone", fn := fun _ => fun
  | [d] => { results := [.lit (.bool true)], args := [d] }
  | _ => none }
def fnRateNoneRow : OpenClaim := { program := "ytnkdjnfbllkgiab", sum := "67859474b7d45a758680691dd7eb199d84f06677e37e7d67d3c379e476010c6a", func := "loop.example/g00714/laws.FnRateNone", spec := "fnRateNone", unfollowed := true, recurses := true, named := ["math/bits.divideError", "math/bits.overflowError"], apart := false }
def FnRateNoneSaid : Prop := fnRateNoneRow.holds Try.pinned (OpenSpec.ofChange fnRateNoneSpec)

/-- ITS FALSE NEIGHBOUR: 'it returns false'. Refute it at one input. -/
def fnRateNoneWrong : ChangeSpec := { name := "fnRateNone", fn := fun _ => fun
  | [d] => { results := [.lit (.bool false)], args := [d] }
  | _ => none }
def FnRateNoneWrongFalsely : Prop := fnRateNoneRow.holds Try.pinned (OpenSpec.ofChange fnRateNoneWrong)

/- THE SECOND FORM. 'bulk': how many values and letters a reading holds, each counted each time it is reached (what is shared counts as often as it is met; a slice's spare places count too). A statement '..UptoSaid' is the law's where the arguments, and the package variables that the reading takes, are together of bulk at most 1048576: NARROWER than '..Said'. Prove '..Said' where nothing that the law and all that it calls make is longer than what came in: it says more and counts as full. Else prove '..UptoSaid'. A law counts once. -/
mutual
def uptoBulk {H : Type} : DataW H → Nat
  | .lit (.string bytes) => bytes.length + 1
  | .lit _ => 1
  | .nil => 1
  | .ptr d => uptoBulk d + 1
  | .slice elems spare => uptoBulkAll elems + uptoBulkAll spare + 1
  | .agg parts => uptoBulkAll parts + 1
  | .iface _ d => uptoBulk d + 1
  | .map entries => uptoBulkEntries entries + 1
  | .held _ => 1
def uptoBulkAll {H : Type} : List (DataW H) → Nat
  | [] => 0
  | d :: r => uptoBulk d + uptoBulkAll r
def uptoBulkEntries {H : Type} : List (Lit × DataW H) → Nat
  | [] => 0
  | x :: r => uptoBulkEntry x + uptoBulkEntries r
def uptoBulkEntry {H : Type} : Lit × DataW H → Nat
  | (.string bytes, d) => bytes.length + uptoBulk d + 1
  | (_, d) => uptoBulk d + 1
 end
def uptoSmall : (H : Type) → List (DataW H) → Bool := fun _ ds => decide (uptoBulkAll ds ≤ 1048576)
def OpenSpec.upto (s : _root_.Go.ChangeSpec) : _root_.Go.OpenSpec := { _root_.Go.OpenSpec.ofChange s with cond := some uptoSmall }

/-- 'laws.FnExactRateOk', WHERE WHAT IT READS IS OF BULK AT MOST 1048576: true; the input reads as it did. -/
def fnExactRateOkUptoRow : OpenClaim := { program := "ytnkdjnfbllkgiab", sum := "67859474b7d45a758680691dd7eb199d84f06677e37e7d67d3c379e476010c6a", func := "loop.example/g00714/laws.FnExactRateOk", spec := "fnExactRateOk", apart := false, narrowed := true }
def FnExactRateOkUptoSaid : Prop := fnExactRateOkUptoRow.holds Try.pinned (OpenSpec.upto fnExactRateOkSpec)

/-- 'laws.FnExactRatesOk', WHERE WHAT IT READS IS OF BULK AT MOST 1048576: true; the input reads as it did. -/
def fnExactRatesOkUptoRow : OpenClaim := { program := "ytnkdjnfbllkgiab", sum := "67859474b7d45a758680691dd7eb199d84f06677e37e7d67d3c379e476010c6a", func := "loop.example/g00714/laws.FnExactRatesOk", spec := "fnExactRatesOk", apart := false, narrowed := true }
def FnExactRatesOkUptoSaid : Prop := fnExactRatesOkUptoRow.holds Try.pinned (OpenSpec.upto fnExactRatesOkSpec)

/-- 'laws.FnExactRateOn', WHERE WHAT IT READS IS OF BULK AT MOST 1048576: true; the input reads as it did. -/
def fnExactRateOnUptoRow : OpenClaim := { program := "ytnkdjnfbllkgiab", sum := "67859474b7d45a758680691dd7eb199d84f06677e37e7d67d3c379e476010c6a", func := "loop.example/g00714/laws.FnExactRateOn", spec := "fnExactRateOn", unfollowed := true, recurses := true, apart := false, narrowed := true }
def FnExactRateOnUptoSaid : Prop := fnExactRateOnUptoRow.holds Try.pinned (OpenSpec.upto fnExactRateOnSpec)

/-- 'laws.FnExactRateAdded', WHERE WHAT IT READS IS OF BULK AT MOST 1048576: true; the input reads as it did. -/
def fnExactRateAddedUptoRow : OpenClaim := { program := "ytnkdjnfbllkgiab", sum := "67859474b7d45a758680691dd7eb199d84f06677e37e7d67d3c379e476010c6a", func := "loop.example/g00714/laws.FnExactRateAdded", spec := "fnExactRateAdded", apart := false, narrowed := true }
def FnExactRateAddedUptoSaid : Prop := fnExactRateAddedUptoRow.holds Try.pinned (OpenSpec.upto fnExactRateAddedSpec)

/-- 'laws.FnExactConverted', WHERE WHAT IT READS IS OF BULK AT MOST 1048576: true; the input reads as it did. -/
def fnExactConvertedUptoRow : OpenClaim := { program := "ytnkdjnfbllkgiab", sum := "67859474b7d45a758680691dd7eb199d84f06677e37e7d67d3c379e476010c6a", func := "loop.example/g00714/laws.FnExactConverted", spec := "fnExactConverted", unfollowed := true, recurses := true, named := ["math/bits.divideError", "math/bits.overflowError"], apart := false, narrowed := true }
def FnExactConvertedUptoSaid : Prop := fnExactConvertedUptoRow.holds Try.pinned (OpenSpec.upto fnExactConvertedSpec)

/-- 'laws.FnRateOn', WHERE WHAT IT READS IS OF BULK AT MOST 1048576: true; the input reads as it did. -/
def fnRateOnUptoRow : OpenClaim := { program := "ytnkdjnfbllkgiab", sum := "67859474b7d45a758680691dd7eb199d84f06677e37e7d67d3c379e476010c6a", func := "loop.example/g00714/laws.FnRateOn", spec := "fnRateOn", unfollowed := true, recurses := true, apart := false, narrowed := true }
def FnRateOnUptoSaid : Prop := fnRateOnUptoRow.holds Try.pinned (OpenSpec.upto fnRateOnSpec)

/-- 'laws.FnConverted', WHERE WHAT IT READS IS OF BULK AT MOST 1048576: true; the input reads as it did. -/
def fnConvertedUptoRow : OpenClaim := { program := "ytnkdjnfbllkgiab", sum := "67859474b7d45a758680691dd7eb199d84f06677e37e7d67d3c379e476010c6a", func := "loop.example/g00714/laws.FnConverted", spec := "fnConverted", unfollowed := true, recurses := true, named := ["math/bits.divideError", "math/bits.overflowError"], apart := false, narrowed := true }
def FnConvertedUptoSaid : Prop := fnConvertedUptoRow.holds Try.pinned (OpenSpec.upto fnConvertedSpec)

/-- 'laws.FnRateNone', WHERE WHAT IT READS IS OF BULK AT MOST 1048576: true; the input reads as it did. -/
def fnRateNoneUptoRow : OpenClaim := { program := "ytnkdjnfbllkgiab", sum := "67859474b7d45a758680691dd7eb199d84f06677e37e7d67d3c379e476010c6a", func := "loop.example/g00714/laws.FnRateNone", spec := "fnRateNone", unfollowed := true, recurses := true, named := ["math/bits.divideError", "math/bits.overflowError"], apart := false, narrowed := true }
def FnRateNoneUptoSaid : Prop := fnRateNoneUptoRow.holds Try.pinned (OpenSpec.upto fnRateNoneSpec)

end Rows
end Go.Proofs.Ytnkdjnfbllkgiab
