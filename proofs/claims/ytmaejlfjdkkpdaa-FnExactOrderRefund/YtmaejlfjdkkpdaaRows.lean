/-
  No cell of these rows narrows 'for every input' (looked for: loops, veiled, ifaces, maps, wideKeys, modest, calm, conditions, laid).
  DERIVED. THE GIVEN ROWS OF THIS SEAT. 11 by the template 'for every input the law returns true; each argument reads behind the call as it read before'; 0 by the template 'total and deterministic' (their statements: YtmaejlfjdkkpdaaTotals.lean).
  GIVEN WITH THE SEED: the statements are not yours to turn. If you find one false, say at which input.
  Laid BY PROGRAM, IN A SANDBOX (cutbox-rows.mjs): the forced cells as the released guide's own fill.sh prints them over the translation 39c9744628efa512… (all of the seat's roots in one cut). By AI agents, Wed Nov 11 2026. No macro, syntax, notation, axiom, sorry.
-/
import Derived.Test.YtmaejlfjdkkpdaaChecked
import GoSem.Claim
import GoSem.ClaimJoined
import GoSem.ClaimMapViews
import Derived.JoinedTies
import Derived.KernelRfl
namespace Go.Proofs.Ytmaejlfjdkkpdaa
/- THE CELL 'sum', in the pinned program and in every row, IS THE sha256 OF THE DUMP (.gsa) THAT YtmaejlfjdkkpdaaProg.lean LOADS. Nothing in Lean hashes anything: it is a label: what it is worth is what the hold of that sum in a sandbox is worth. -/
noncomputable def Try.pinned : Pinned := { name := "ytmaejlfjdkkpdaa", sum := "39c9744628efa512402faecf08ed2d4b41f47012e573dd6e4d56b20988e86064", checked := Try.checked }
namespace Rows
def none {H : Type} : Left H := { results := [], args := [] }

/-- 'laws.FnExactOrderOk': WHATEVER THE INPUT: true; the input reads as it did. -/
def fnExactOrderOkSpec : ChangeSpec := { name := "fnExactOrderOk", fn := fun _ => fun
  | [d] => { results := [.lit (.bool true)], args := [d] }
  | _ => none }
def fnExactOrderOkRow : OpenClaim := { program := "ytmaejlfjdkkpdaa", sum := "39c9744628efa512402faecf08ed2d4b41f47012e573dd6e4d56b20988e86064", func := "loop.example/g00714/laws.FnExactOrderOk", spec := "fnExactOrderOk", apart := false }
def FnExactOrderOkSaid : Prop := fnExactOrderOkRow.holds Try.pinned (OpenSpec.ofChange fnExactOrderOkSpec)

/-- ITS FALSE NEIGHBOUR: 'it returns false'. Refute it at one input. -/
def fnExactOrderOkWrong : ChangeSpec := { name := "fnExactOrderOk", fn := fun _ => fun
  | [d] => { results := [.lit (.bool false)], args := [d] }
  | _ => none }
def FnExactOrderOkWrongFalsely : Prop := fnExactOrderOkRow.holds Try.pinned (OpenSpec.ofChange fnExactOrderOkWrong)

/-- 'laws.FnExactValueOf': WHATEVER THE INPUT: true; the input reads as it did. -/
def fnExactValueOfSpec : ChangeSpec := { name := "fnExactValueOf", fn := fun _ => fun
  | [d] => { results := [.lit (.bool true)], args := [d] }
  | _ => none }
def fnExactValueOfRow : OpenClaim := { program := "ytmaejlfjdkkpdaa", sum := "39c9744628efa512402faecf08ed2d4b41f47012e573dd6e4d56b20988e86064", func := "loop.example/g00714/laws.FnExactValueOf", spec := "fnExactValueOf", apart := false }
def FnExactValueOfSaid : Prop := fnExactValueOfRow.holds Try.pinned (OpenSpec.ofChange fnExactValueOfSpec)

/-- ITS FALSE NEIGHBOUR: 'it returns false'. Refute it at one input. -/
def fnExactValueOfWrong : ChangeSpec := { name := "fnExactValueOf", fn := fun _ => fun
  | [d] => { results := [.lit (.bool false)], args := [d] }
  | _ => none }
def FnExactValueOfWrongFalsely : Prop := fnExactValueOfRow.holds Try.pinned (OpenSpec.ofChange fnExactValueOfWrong)

/-- 'laws.FnExactShippedOf': WHATEVER THE INPUT: true; the input reads as it did. -/
def fnExactShippedOfSpec : ChangeSpec := { name := "fnExactShippedOf", fn := fun _ => fun
  | [d] => { results := [.lit (.bool true)], args := [d] }
  | _ => none }
def fnExactShippedOfRow : OpenClaim := { program := "ytmaejlfjdkkpdaa", sum := "39c9744628efa512402faecf08ed2d4b41f47012e573dd6e4d56b20988e86064", func := "loop.example/g00714/laws.FnExactShippedOf", spec := "fnExactShippedOf", apart := false }
def FnExactShippedOfSaid : Prop := fnExactShippedOfRow.holds Try.pinned (OpenSpec.ofChange fnExactShippedOfSpec)

/-- ITS FALSE NEIGHBOUR: 'it returns false'. Refute it at one input. -/
def fnExactShippedOfWrong : ChangeSpec := { name := "fnExactShippedOf", fn := fun _ => fun
  | [d] => { results := [.lit (.bool false)], args := [d] }
  | _ => none }
def FnExactShippedOfWrongFalsely : Prop := fnExactShippedOfRow.holds Try.pinned (OpenSpec.ofChange fnExactShippedOfWrong)

/-- 'laws.FnExactRefundedOf': WHATEVER THE INPUT: true; the input reads as it did. -/
def fnExactRefundedOfSpec : ChangeSpec := { name := "fnExactRefundedOf", fn := fun _ => fun
  | [d] => { results := [.lit (.bool true)], args := [d] }
  | _ => none }
def fnExactRefundedOfRow : OpenClaim := { program := "ytmaejlfjdkkpdaa", sum := "39c9744628efa512402faecf08ed2d4b41f47012e573dd6e4d56b20988e86064", func := "loop.example/g00714/laws.FnExactRefundedOf", spec := "fnExactRefundedOf", apart := false }
def FnExactRefundedOfSaid : Prop := fnExactRefundedOfRow.holds Try.pinned (OpenSpec.ofChange fnExactRefundedOfSpec)

/-- ITS FALSE NEIGHBOUR: 'it returns false'. Refute it at one input. -/
def fnExactRefundedOfWrong : ChangeSpec := { name := "fnExactRefundedOf", fn := fun _ => fun
  | [d] => { results := [.lit (.bool false)], args := [d] }
  | _ => none }
def FnExactRefundedOfWrongFalsely : Prop := fnExactRefundedOfRow.holds Try.pinned (OpenSpec.ofChange fnExactRefundedOfWrong)

/-- 'laws.FnExactOrderSums': WHATEVER THE INPUT: true; the input reads as it did. -/
def fnExactOrderSumsSpec : ChangeSpec := { name := "fnExactOrderSums", fn := fun _ => fun
  | [d] => { results := [.lit (.bool true)], args := [d] }
  | _ => none }
def fnExactOrderSumsRow : OpenClaim := { program := "ytmaejlfjdkkpdaa", sum := "39c9744628efa512402faecf08ed2d4b41f47012e573dd6e4d56b20988e86064", func := "loop.example/g00714/laws.FnExactOrderSums", spec := "fnExactOrderSums", apart := false }
def FnExactOrderSumsSaid : Prop := fnExactOrderSumsRow.holds Try.pinned (OpenSpec.ofChange fnExactOrderSumsSpec)

/-- ITS FALSE NEIGHBOUR: 'it returns false'. Refute it at one input. -/
def fnExactOrderSumsWrong : ChangeSpec := { name := "fnExactOrderSums", fn := fun _ => fun
  | [d] => { results := [.lit (.bool false)], args := [d] }
  | _ => none }
def FnExactOrderSumsWrongFalsely : Prop := fnExactOrderSumsRow.holds Try.pinned (OpenSpec.ofChange fnExactOrderSumsWrong)

/-- 'laws.FnExactOpenOf': WHATEVER THE INPUT: true; the input reads as it did. -/
def fnExactOpenOfSpec : ChangeSpec := { name := "fnExactOpenOf", fn := fun _ => fun
  | [d] => { results := [.lit (.bool true)], args := [d] }
  | _ => none }
def fnExactOpenOfRow : OpenClaim := { program := "ytmaejlfjdkkpdaa", sum := "39c9744628efa512402faecf08ed2d4b41f47012e573dd6e4d56b20988e86064", func := "loop.example/g00714/laws.FnExactOpenOf", spec := "fnExactOpenOf", apart := false }
def FnExactOpenOfSaid : Prop := fnExactOpenOfRow.holds Try.pinned (OpenSpec.ofChange fnExactOpenOfSpec)

/-- ITS FALSE NEIGHBOUR: 'it returns false'. Refute it at one input. -/
def fnExactOpenOfWrong : ChangeSpec := { name := "fnExactOpenOf", fn := fun _ => fun
  | [d] => { results := [.lit (.bool false)], args := [d] }
  | _ => none }
def FnExactOpenOfWrongFalsely : Prop := fnExactOpenOfRow.holds Try.pinned (OpenSpec.ofChange fnExactOpenOfWrong)

/-- 'laws.FnExactOrderPay': WHATEVER THE INPUT: true; the input reads as it did. -/
def fnExactOrderPaySpec : ChangeSpec := { name := "fnExactOrderPay", fn := fun _ => fun
  | [d1, d2] => { results := [.lit (.bool true)], args := [d1, d2] }
  | _ => none }
def fnExactOrderPayRow : OpenClaim := { program := "ytmaejlfjdkkpdaa", sum := "39c9744628efa512402faecf08ed2d4b41f47012e573dd6e4d56b20988e86064", func := "loop.example/g00714/laws.FnExactOrderPay", spec := "fnExactOrderPay", unfollowed := true, recurses := true, apart := false }
def FnExactOrderPaySaid : Prop := fnExactOrderPayRow.holds Try.pinned (OpenSpec.ofChange fnExactOrderPaySpec)

/-- ITS FALSE NEIGHBOUR: 'it returns false'. Refute it at one input. -/
def fnExactOrderPayWrong : ChangeSpec := { name := "fnExactOrderPay", fn := fun _ => fun
  | [d1, d2] => { results := [.lit (.bool false)], args := [d1, d2] }
  | _ => none }
def FnExactOrderPayWrongFalsely : Prop := fnExactOrderPayRow.holds Try.pinned (OpenSpec.ofChange fnExactOrderPayWrong)

/-- 'laws.FnExactOrderTake': WHATEVER THE INPUT: true; the input reads as it did. -/
def fnExactOrderTakeSpec : ChangeSpec := { name := "fnExactOrderTake", fn := fun _ => fun
  | [d1, d2] => { results := [.lit (.bool true)], args := [d1, d2] }
  | _ => none }
def fnExactOrderTakeRow : OpenClaim := { program := "ytmaejlfjdkkpdaa", sum := "39c9744628efa512402faecf08ed2d4b41f47012e573dd6e4d56b20988e86064", func := "loop.example/g00714/laws.FnExactOrderTake", spec := "fnExactOrderTake", unfollowed := true, recurses := true, apart := false }
def FnExactOrderTakeSaid : Prop := fnExactOrderTakeRow.holds Try.pinned (OpenSpec.ofChange fnExactOrderTakeSpec)

/-- ITS FALSE NEIGHBOUR: 'it returns false'. Refute it at one input. -/
def fnExactOrderTakeWrong : ChangeSpec := { name := "fnExactOrderTake", fn := fun _ => fun
  | [d1, d2] => { results := [.lit (.bool false)], args := [d1, d2] }
  | _ => none }
def FnExactOrderTakeWrongFalsely : Prop := fnExactOrderTakeRow.holds Try.pinned (OpenSpec.ofChange fnExactOrderTakeWrong)

/-- 'laws.FnExactOrderRefund': WHATEVER THE INPUT: true; the input reads as it did. -/
def fnExactOrderRefundSpec : ChangeSpec := { name := "fnExactOrderRefund", fn := fun _ => fun
  | [d1, d2, d3] => { results := [.lit (.bool true)], args := [d1, d2, d3] }
  | _ => none }
def fnExactOrderRefundRow : OpenClaim := { program := "ytmaejlfjdkkpdaa", sum := "39c9744628efa512402faecf08ed2d4b41f47012e573dd6e4d56b20988e86064", func := "loop.example/g00714/laws.FnExactOrderRefund", spec := "fnExactOrderRefund", unfollowed := true, recurses := true, apart := false }
def FnExactOrderRefundSaid : Prop := fnExactOrderRefundRow.holds Try.pinned (OpenSpec.ofChange fnExactOrderRefundSpec)

/-- ITS FALSE NEIGHBOUR: 'it returns false'. Refute it at one input. -/
def fnExactOrderRefundWrong : ChangeSpec := { name := "fnExactOrderRefund", fn := fun _ => fun
  | [d1, d2, d3] => { results := [.lit (.bool false)], args := [d1, d2, d3] }
  | _ => none }
def FnExactOrderRefundWrongFalsely : Prop := fnExactOrderRefundRow.holds Try.pinned (OpenSpec.ofChange fnExactOrderRefundWrong)

/-- 'laws.FnExactOrderLate': WHATEVER THE INPUT: true; the input reads as it did. -/
def fnExactOrderLateSpec : ChangeSpec := { name := "fnExactOrderLate", fn := fun _ => fun
  | [d1, d2, d3, d4] => { results := [.lit (.bool true)], args := [d1, d2, d3, d4] }
  | _ => none }
def fnExactOrderLateRow : OpenClaim := { program := "ytmaejlfjdkkpdaa", sum := "39c9744628efa512402faecf08ed2d4b41f47012e573dd6e4d56b20988e86064", func := "loop.example/g00714/laws.FnExactOrderLate", spec := "fnExactOrderLate", apart := false }
def FnExactOrderLateSaid : Prop := fnExactOrderLateRow.holds Try.pinned (OpenSpec.ofChange fnExactOrderLateSpec)

/-- ITS FALSE NEIGHBOUR: 'it returns false'. Refute it at one input. -/
def fnExactOrderLateWrong : ChangeSpec := { name := "fnExactOrderLate", fn := fun _ => fun
  | [d1, d2, d3, d4] => { results := [.lit (.bool false)], args := [d1, d2, d3, d4] }
  | _ => none }
def FnExactOrderLateWrongFalsely : Prop := fnExactOrderLateRow.holds Try.pinned (OpenSpec.ofChange fnExactOrderLateWrong)

/-- 'laws.FnExactOrderSettle': WHATEVER THE INPUT: true; the input reads as it did. -/
def fnExactOrderSettleSpec : ChangeSpec := { name := "fnExactOrderSettle", fn := fun _ => fun
  | [d1, d2] => { results := [.lit (.bool true)], args := [d1, d2] }
  | _ => none }
def fnExactOrderSettleRow : OpenClaim := { program := "ytmaejlfjdkkpdaa", sum := "39c9744628efa512402faecf08ed2d4b41f47012e573dd6e4d56b20988e86064", func := "loop.example/g00714/laws.FnExactOrderSettle", spec := "fnExactOrderSettle", unfollowed := true, recurses := true, apart := false }
def FnExactOrderSettleSaid : Prop := fnExactOrderSettleRow.holds Try.pinned (OpenSpec.ofChange fnExactOrderSettleSpec)

/-- ITS FALSE NEIGHBOUR: 'it returns false'. Refute it at one input. -/
def fnExactOrderSettleWrong : ChangeSpec := { name := "fnExactOrderSettle", fn := fun _ => fun
  | [d1, d2] => { results := [.lit (.bool false)], args := [d1, d2] }
  | _ => none }
def FnExactOrderSettleWrongFalsely : Prop := fnExactOrderSettleRow.holds Try.pinned (OpenSpec.ofChange fnExactOrderSettleWrong)

/- THE SECOND FORM. 'bulk': how many values and letters a reading holds, each counted each time it is reached (what is shared counts as often as it is met; a slice's spare places count too). A statement '..UptoSaid' is the law's where the arguments, and the package variables that the reading takes, are together of bulk at most 1048576: NARROWER than '..Said'. Prove '..Said' where nothing that the law and all that it calls make is longer than what came in: it says more and counts as full. Else prove '..UptoSaid'. A law counts once. -/
mutual
def uptoBulk {H : Type} : DataW H → Nat
  | .lit (.string bytes) => bytes.length + 1
  | .lit _ => 1
  | .nil => 1
  | .ptr d => uptoBulk d + 1
  | .slice elems spare => uptoBulkAll elems + uptoBulkAll spare + 1
  | .agg parts => uptoBulkAll parts + 1
  | .iface _ d => uptoBulk d + 1
  | .map entries => uptoBulkEntries entries + 1
  | .held _ => 1
def uptoBulkAll {H : Type} : List (DataW H) → Nat
  | [] => 0
  | d :: r => uptoBulk d + uptoBulkAll r
def uptoBulkEntries {H : Type} : List (Lit × DataW H) → Nat
  | [] => 0
  | x :: r => uptoBulkEntry x + uptoBulkEntries r
def uptoBulkEntry {H : Type} : Lit × DataW H → Nat
  | (.string bytes, d) => bytes.length + uptoBulk d + 1
  | (_, d) => uptoBulk d + 1
 end
def uptoSmall : (H : Type) → List (DataW H) → Bool := fun _ ds => decide (uptoBulkAll ds ≤ 1048576)
def OpenSpec.upto (s : _root_.Go.ChangeSpec) : _root_.Go.OpenSpec := { _root_.Go.OpenSpec.ofChange s with cond := some uptoSmall }

/-- 'laws.FnExactOrderOk', WHERE WHAT IT READS IS OF BULK AT MOST 1048576: true; the input reads as it did. -/
def fnExactOrderOkUptoRow : OpenClaim := { program := "ytmaejlfjdkkpdaa", sum := "39c9744628efa512402faecf08ed2d4b41f47012e573dd6e4d56b20988e86064", func := "loop.example/g00714/laws.FnExactOrderOk", spec := "fnExactOrderOk", apart := false, narrowed := true }
def FnExactOrderOkUptoSaid : Prop := fnExactOrderOkUptoRow.holds Try.pinned (OpenSpec.upto fnExactOrderOkSpec)

/-- 'laws.FnExactValueOf', WHERE WHAT IT READS IS OF BULK AT MOST 1048576: true; the input reads as it did. -/
def fnExactValueOfUptoRow : OpenClaim := { program := "ytmaejlfjdkkpdaa", sum := "39c9744628efa512402faecf08ed2d4b41f47012e573dd6e4d56b20988e86064", func := "loop.example/g00714/laws.FnExactValueOf", spec := "fnExactValueOf", apart := false, narrowed := true }
def FnExactValueOfUptoSaid : Prop := fnExactValueOfUptoRow.holds Try.pinned (OpenSpec.upto fnExactValueOfSpec)

/-- 'laws.FnExactShippedOf', WHERE WHAT IT READS IS OF BULK AT MOST 1048576: true; the input reads as it did. -/
def fnExactShippedOfUptoRow : OpenClaim := { program := "ytmaejlfjdkkpdaa", sum := "39c9744628efa512402faecf08ed2d4b41f47012e573dd6e4d56b20988e86064", func := "loop.example/g00714/laws.FnExactShippedOf", spec := "fnExactShippedOf", apart := false, narrowed := true }
def FnExactShippedOfUptoSaid : Prop := fnExactShippedOfUptoRow.holds Try.pinned (OpenSpec.upto fnExactShippedOfSpec)

/-- 'laws.FnExactRefundedOf', WHERE WHAT IT READS IS OF BULK AT MOST 1048576: true; the input reads as it did. -/
def fnExactRefundedOfUptoRow : OpenClaim := { program := "ytmaejlfjdkkpdaa", sum := "39c9744628efa512402faecf08ed2d4b41f47012e573dd6e4d56b20988e86064", func := "loop.example/g00714/laws.FnExactRefundedOf", spec := "fnExactRefundedOf", apart := false, narrowed := true }
def FnExactRefundedOfUptoSaid : Prop := fnExactRefundedOfUptoRow.holds Try.pinned (OpenSpec.upto fnExactRefundedOfSpec)

/-- 'laws.FnExactOrderSums', WHERE WHAT IT READS IS OF BULK AT MOST 1048576: true; the input reads as it did. -/
def fnExactOrderSumsUptoRow : OpenClaim := { program := "ytmaejlfjdkkpdaa", sum := "39c9744628efa512402faecf08ed2d4b41f47012e573dd6e4d56b20988e86064", func := "loop.example/g00714/laws.FnExactOrderSums", spec := "fnExactOrderSums", apart := false, narrowed := true }
def FnExactOrderSumsUptoSaid : Prop := fnExactOrderSumsUptoRow.holds Try.pinned (OpenSpec.upto fnExactOrderSumsSpec)

/-- 'laws.FnExactOpenOf', WHERE WHAT IT READS IS OF BULK AT MOST 1048576: true; the input reads as it did. -/
def fnExactOpenOfUptoRow : OpenClaim := { program := "ytmaejlfjdkkpdaa", sum := "39c9744628efa512402faecf08ed2d4b41f47012e573dd6e4d56b20988e86064", func := "loop.example/g00714/laws.FnExactOpenOf", spec := "fnExactOpenOf", apart := false, narrowed := true }
def FnExactOpenOfUptoSaid : Prop := fnExactOpenOfUptoRow.holds Try.pinned (OpenSpec.upto fnExactOpenOfSpec)

/-- 'laws.FnExactOrderPay', WHERE WHAT IT READS IS OF BULK AT MOST 1048576: true; the input reads as it did. -/
def fnExactOrderPayUptoRow : OpenClaim := { program := "ytmaejlfjdkkpdaa", sum := "39c9744628efa512402faecf08ed2d4b41f47012e573dd6e4d56b20988e86064", func := "loop.example/g00714/laws.FnExactOrderPay", spec := "fnExactOrderPay", unfollowed := true, recurses := true, apart := false, narrowed := true }
def FnExactOrderPayUptoSaid : Prop := fnExactOrderPayUptoRow.holds Try.pinned (OpenSpec.upto fnExactOrderPaySpec)

/-- 'laws.FnExactOrderTake', WHERE WHAT IT READS IS OF BULK AT MOST 1048576: true; the input reads as it did. -/
def fnExactOrderTakeUptoRow : OpenClaim := { program := "ytmaejlfjdkkpdaa", sum := "39c9744628efa512402faecf08ed2d4b41f47012e573dd6e4d56b20988e86064", func := "loop.example/g00714/laws.FnExactOrderTake", spec := "fnExactOrderTake", unfollowed := true, recurses := true, apart := false, narrowed := true }
def FnExactOrderTakeUptoSaid : Prop := fnExactOrderTakeUptoRow.holds Try.pinned (OpenSpec.upto fnExactOrderTakeSpec)

/-- 'laws.FnExactOrderRefund', WHERE WHAT IT READS IS OF BULK AT MOST 1048576: true; the input reads as it did. -/
def fnExactOrderRefundUptoRow : OpenClaim := { program := "ytmaejlfjdkkpdaa", sum := "39c9744628efa512402faecf08ed2d4b41f47012e573dd6e4d56b20988e86064", func := "loop.example/g00714/laws.FnExactOrderRefund", spec := "fnExactOrderRefund", unfollowed := true, recurses := true, apart := false, narrowed := true }
def FnExactOrderRefundUptoSaid : Prop := fnExactOrderRefundUptoRow.holds Try.pinned (OpenSpec.upto fnExactOrderRefundSpec)

/-- 'laws.FnExactOrderLate', WHERE WHAT IT READS IS OF BULK AT MOST 1048576: true; the input reads as it did. -/
def fnExactOrderLateUptoRow : OpenClaim := { program := "ytmaejlfjdkkpdaa", sum := "39c9744628efa512402faecf08ed2d4b41f47012e573dd6e4d56b20988e86064", func := "loop.example/g00714/laws.FnExactOrderLate", spec := "fnExactOrderLate", apart := false, narrowed := true }
def FnExactOrderLateUptoSaid : Prop := fnExactOrderLateUptoRow.holds Try.pinned (OpenSpec.upto fnExactOrderLateSpec)

/-- 'laws.FnExactOrderSettle', WHERE WHAT IT READS IS OF BULK AT MOST 1048576: true; the input reads as it did. -/
def fnExactOrderSettleUptoRow : OpenClaim := { program := "ytmaejlfjdkkpdaa", sum := "39c9744628efa512402faecf08ed2d4b41f47012e573dd6e4d56b20988e86064", func := "loop.example/g00714/laws.FnExactOrderSettle", spec := "fnExactOrderSettle", unfollowed := true, recurses := true, apart := false, narrowed := true }
def FnExactOrderSettleUptoSaid : Prop := fnExactOrderSettleUptoRow.holds Try.pinned (OpenSpec.upto fnExactOrderSettleSpec)

end Rows
end Go.Proofs.Ytmaejlfjdkkpdaa
