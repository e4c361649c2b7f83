/-
  No cell of these rows narrows 'for every input' (looked for: loops, veiled, ifaces, maps, wideKeys, modest, calm, conditions, laid).
  DERIVED. THE GIVEN ROWS OF THIS SEAT. 12 by the template 'for every input the law returns true; each argument reads behind the call as it read before'; 0 by the template 'total and deterministic' (their statements: YtlljabmgjkecbaaTotals.lean).
  GIVEN WITH THE SEED: the statements are not yours to turn. If you find one false, say at which input.
  Laid BY PROGRAM, IN A SANDBOX (cutbox-rows.mjs): the forced cells as the released guide's own fill.sh prints them over the translation bda4a3160c31243c… (all of the seat's roots in one cut). By AI agents, Wed Nov 11 2026. No macro, syntax, notation, axiom, sorry.
-/
import Derived.Test.YtlljabmgjkecbaaChecked
import GoSem.Claim
import GoSem.ClaimJoined
import GoSem.ClaimMapViews
import Derived.JoinedTies
import Derived.KernelRfl
namespace Go.Proofs.Ytlljabmgjkecbaa
/- THE CELL 'sum', in the pinned program and in every row, IS THE sha256 OF THE DUMP (.gsa) THAT YtlljabmgjkecbaaProg.lean LOADS. Nothing in Lean hashes anything: it is a label: what it is worth is what the hold of that sum in a sandbox is worth. -/
noncomputable def Try.pinned : Pinned := { name := "ytlljabmgjkecbaa", sum := "bda4a3160c31243c19a56d23c3e3427579adc1da5d89e22a87681fcd397ea776", checked := Try.checked }
namespace Rows
def none {H : Type} : Left H := { results := [], args := [] }

/-- 'laws.FnExactPlanOk': WHATEVER THE INPUT: true; the input reads as it did. -/
def fnExactPlanOkSpec : ChangeSpec := { name := "fnExactPlanOk", fn := fun _ => fun
  | [d] => { results := [.lit (.bool true)], args := [d] }
  | _ => none }
def fnExactPlanOkRow : OpenClaim := { program := "ytlljabmgjkecbaa", sum := "bda4a3160c31243c19a56d23c3e3427579adc1da5d89e22a87681fcd397ea776", func := "loop.example/g00714/laws.FnExactPlanOk", spec := "fnExactPlanOk", apart := false }
def FnExactPlanOkSaid : Prop := fnExactPlanOkRow.holds Try.pinned (OpenSpec.ofChange fnExactPlanOkSpec)

/-- ITS FALSE NEIGHBOUR: 'it returns false'. Refute it at one input. -/
def fnExactPlanOkWrong : ChangeSpec := { name := "fnExactPlanOk", fn := fun _ => fun
  | [d] => { results := [.lit (.bool false)], args := [d] }
  | _ => none }
def FnExactPlanOkWrongFalsely : Prop := fnExactPlanOkRow.holds Try.pinned (OpenSpec.ofChange fnExactPlanOkWrong)

/-- 'laws.FnExactSumsOf': WHATEVER THE INPUT: true; the input reads as it did. -/
def fnExactSumsOfSpec : ChangeSpec := { name := "fnExactSumsOf", fn := fun _ => fun
  | [d] => { results := [.lit (.bool true)], args := [d] }
  | _ => none }
def fnExactSumsOfRow : OpenClaim := { program := "ytlljabmgjkecbaa", sum := "bda4a3160c31243c19a56d23c3e3427579adc1da5d89e22a87681fcd397ea776", func := "loop.example/g00714/laws.FnExactSumsOf", spec := "fnExactSumsOf", apart := false }
def FnExactSumsOfSaid : Prop := fnExactSumsOfRow.holds Try.pinned (OpenSpec.ofChange fnExactSumsOfSpec)

/-- ITS FALSE NEIGHBOUR: 'it returns false'. Refute it at one input. -/
def fnExactSumsOfWrong : ChangeSpec := { name := "fnExactSumsOf", fn := fun _ => fun
  | [d] => { results := [.lit (.bool false)], args := [d] }
  | _ => none }
def FnExactSumsOfWrongFalsely : Prop := fnExactSumsOfRow.holds Try.pinned (OpenSpec.ofChange fnExactSumsOfWrong)

/-- 'laws.FnExactLateFees': WHATEVER THE INPUT: true; the input reads as it did. -/
def fnExactLateFeesSpec : ChangeSpec := { name := "fnExactLateFees", fn := fun _ => fun
  | [d1, d2, d3, d4] => { results := [.lit (.bool true)], args := [d1, d2, d3, d4] }
  | _ => none }
def fnExactLateFeesRow : OpenClaim := { program := "ytlljabmgjkecbaa", sum := "bda4a3160c31243c19a56d23c3e3427579adc1da5d89e22a87681fcd397ea776", func := "loop.example/g00714/laws.FnExactLateFees", spec := "fnExactLateFees", apart := false }
def FnExactLateFeesSaid : Prop := fnExactLateFeesRow.holds Try.pinned (OpenSpec.ofChange fnExactLateFeesSpec)

/-- ITS FALSE NEIGHBOUR: 'it returns false'. Refute it at one input. -/
def fnExactLateFeesWrong : ChangeSpec := { name := "fnExactLateFees", fn := fun _ => fun
  | [d1, d2, d3, d4] => { results := [.lit (.bool false)], args := [d1, d2, d3, d4] }
  | _ => none }
def FnExactLateFeesWrongFalsely : Prop := fnExactLateFeesRow.holds Try.pinned (OpenSpec.ofChange fnExactLateFeesWrong)

/-- 'laws.FnExactCutPlan': WHATEVER THE INPUT: true; the input reads as it did. -/
def fnExactCutPlanSpec : ChangeSpec := { name := "fnExactCutPlan", fn := fun _ => fun
  | [d1, d2] => { results := [.lit (.bool true)], args := [d1, d2] }
  | _ => none }
def fnExactCutPlanRow : OpenClaim := { program := "ytlljabmgjkecbaa", sum := "bda4a3160c31243c19a56d23c3e3427579adc1da5d89e22a87681fcd397ea776", func := "loop.example/g00714/laws.FnExactCutPlan", spec := "fnExactCutPlan", unfollowed := true, recurses := true, apart := false }
def FnExactCutPlanSaid : Prop := fnExactCutPlanRow.holds Try.pinned (OpenSpec.ofChange fnExactCutPlanSpec)

/-- ITS FALSE NEIGHBOUR: 'it returns false'. Refute it at one input. -/
def fnExactCutPlanWrong : ChangeSpec := { name := "fnExactCutPlan", fn := fun _ => fun
  | [d1, d2] => { results := [.lit (.bool false)], args := [d1, d2] }
  | _ => none }
def FnExactCutPlanWrongFalsely : Prop := fnExactCutPlanRow.holds Try.pinned (OpenSpec.ofChange fnExactCutPlanWrong)

/-- 'laws.FnExactBackPlan': WHATEVER THE INPUT: true; the input reads as it did. -/
def fnExactBackPlanSpec : ChangeSpec := { name := "fnExactBackPlan", fn := fun _ => fun
  | [d1, d2] => { results := [.lit (.bool true)], args := [d1, d2] }
  | _ => none }
def fnExactBackPlanRow : OpenClaim := { program := "ytlljabmgjkecbaa", sum := "bda4a3160c31243c19a56d23c3e3427579adc1da5d89e22a87681fcd397ea776", func := "loop.example/g00714/laws.FnExactBackPlan", spec := "fnExactBackPlan", unfollowed := true, recurses := true, apart := false }
def FnExactBackPlanSaid : Prop := fnExactBackPlanRow.holds Try.pinned (OpenSpec.ofChange fnExactBackPlanSpec)

/-- ITS FALSE NEIGHBOUR: 'it returns false'. Refute it at one input. -/
def fnExactBackPlanWrong : ChangeSpec := { name := "fnExactBackPlan", fn := fun _ => fun
  | [d1, d2] => { results := [.lit (.bool false)], args := [d1, d2] }
  | _ => none }
def FnExactBackPlanWrongFalsely : Prop := fnExactBackPlanRow.holds Try.pinned (OpenSpec.ofChange fnExactBackPlanWrong)

/-- 'laws.FnExactPayPlan': WHATEVER THE INPUT: true; the input reads as it did. -/
def fnExactPayPlanSpec : ChangeSpec := { name := "fnExactPayPlan", fn := fun _ => fun
  | [d1, d2] => { results := [.lit (.bool true)], args := [d1, d2] }
  | _ => none }
def fnExactPayPlanRow : OpenClaim := { program := "ytlljabmgjkecbaa", sum := "bda4a3160c31243c19a56d23c3e3427579adc1da5d89e22a87681fcd397ea776", func := "loop.example/g00714/laws.FnExactPayPlan", spec := "fnExactPayPlan", unfollowed := true, recurses := true, apart := false }
def FnExactPayPlanSaid : Prop := fnExactPayPlanRow.holds Try.pinned (OpenSpec.ofChange fnExactPayPlanSpec)

/-- ITS FALSE NEIGHBOUR: 'it returns false'. Refute it at one input. -/
def fnExactPayPlanWrong : ChangeSpec := { name := "fnExactPayPlan", fn := fun _ => fun
  | [d1, d2] => { results := [.lit (.bool false)], args := [d1, d2] }
  | _ => none }
def FnExactPayPlanWrongFalsely : Prop := fnExactPayPlanRow.holds Try.pinned (OpenSpec.ofChange fnExactPayPlanWrong)

/-- 'laws.FnExactPayoffOf': WHATEVER THE INPUT: true; the input reads as it did. -/
def fnExactPayoffOfSpec : ChangeSpec := { name := "fnExactPayoffOf", fn := fun _ => fun
  | [d1, d2] => { results := [.lit (.bool true)], args := [d1, d2] }
  | _ => none }
def fnExactPayoffOfRow : OpenClaim := { program := "ytlljabmgjkecbaa", sum := "bda4a3160c31243c19a56d23c3e3427579adc1da5d89e22a87681fcd397ea776", func := "loop.example/g00714/laws.FnExactPayoffOf", spec := "fnExactPayoffOf", unfollowed := true, recurses := true, apart := false }
def FnExactPayoffOfSaid : Prop := fnExactPayoffOfRow.holds Try.pinned (OpenSpec.ofChange fnExactPayoffOfSpec)

/-- ITS FALSE NEIGHBOUR: 'it returns false'. Refute it at one input. -/
def fnExactPayoffOfWrong : ChangeSpec := { name := "fnExactPayoffOf", fn := fun _ => fun
  | [d1, d2] => { results := [.lit (.bool false)], args := [d1, d2] }
  | _ => none }
def FnExactPayoffOfWrongFalsely : Prop := fnExactPayoffOfRow.holds Try.pinned (OpenSpec.ofChange fnExactPayoffOfWrong)

/-- 'laws.FnExactPaidOff': WHATEVER THE INPUT: true; the input reads as it did. -/
def fnExactPaidOffSpec : ChangeSpec := { name := "fnExactPaidOff", fn := fun _ => fun
  | [d1, d2] => { results := [.lit (.bool true)], args := [d1, d2] }
  | _ => none }
def fnExactPaidOffRow : OpenClaim := { program := "ytlljabmgjkecbaa", sum := "bda4a3160c31243c19a56d23c3e3427579adc1da5d89e22a87681fcd397ea776", func := "loop.example/g00714/laws.FnExactPaidOff", spec := "fnExactPaidOff", unfollowed := true, recurses := true, apart := false }
def FnExactPaidOffSaid : Prop := fnExactPaidOffRow.holds Try.pinned (OpenSpec.ofChange fnExactPaidOffSpec)

/-- ITS FALSE NEIGHBOUR: 'it returns false'. Refute it at one input. -/
def fnExactPaidOffWrong : ChangeSpec := { name := "fnExactPaidOff", fn := fun _ => fun
  | [d1, d2] => { results := [.lit (.bool false)], args := [d1, d2] }
  | _ => none }
def FnExactPaidOffWrongFalsely : Prop := fnExactPaidOffRow.holds Try.pinned (OpenSpec.ofChange fnExactPaidOffWrong)

/-- 'laws.FnSums': WHATEVER THE INPUT: true; the input reads as it did. -/
def fnSumsSpec : ChangeSpec := { name := "fnSums", fn := fun _ => fun
  | [d] => { results := [.lit (.bool true)], args := [d] }
  | _ => none }
def fnSumsRow : OpenClaim := { program := "ytlljabmgjkecbaa", sum := "bda4a3160c31243c19a56d23c3e3427579adc1da5d89e22a87681fcd397ea776", func := "loop.example/g00714/laws.FnSums", spec := "fnSums", apart := false }
def FnSumsSaid : Prop := fnSumsRow.holds Try.pinned (OpenSpec.ofChange fnSumsSpec)

/-- ITS FALSE NEIGHBOUR: 'it returns false'. Refute it at one input. -/
def fnSumsWrong : ChangeSpec := { name := "fnSums", fn := fun _ => fun
  | [d] => { results := [.lit (.bool false)], args := [d] }
  | _ => none }
def FnSumsWrongFalsely : Prop := fnSumsRow.holds Try.pinned (OpenSpec.ofChange fnSumsWrong)

/-- 'laws.FnLate': WHATEVER THE INPUT: true; the input reads as it did. -/
def fnLateSpec : ChangeSpec := { name := "fnLate", fn := fun _ => fun
  | [d] => { results := [.lit (.bool true)], args := [d] }
  | _ => none }
def fnLateRow : OpenClaim := { program := "ytlljabmgjkecbaa", sum := "bda4a3160c31243c19a56d23c3e3427579adc1da5d89e22a87681fcd397ea776", func := "loop.example/g00714/laws.FnLate", spec := "fnLate", apart := false }
def FnLateSaid : Prop := fnLateRow.holds Try.pinned (OpenSpec.ofChange fnLateSpec)

/-- ITS FALSE NEIGHBOUR: 'it returns false'. Refute it at one input. -/
def fnLateWrong : ChangeSpec := { name := "fnLate", fn := fun _ => fun
  | [d] => { results := [.lit (.bool false)], args := [d] }
  | _ => none }
def FnLateWrongFalsely : Prop := fnLateRow.holds Try.pinned (OpenSpec.ofChange fnLateWrong)

/-- 'laws.FnCut': WHATEVER THE INPUT: true; the input reads as it did. -/
def fnCutSpec : ChangeSpec := { name := "fnCut", fn := fun _ => fun
  | [d] => { results := [.lit (.bool true)], args := [d] }
  | _ => none }
def fnCutRow : OpenClaim := { program := "ytlljabmgjkecbaa", sum := "bda4a3160c31243c19a56d23c3e3427579adc1da5d89e22a87681fcd397ea776", func := "loop.example/g00714/laws.FnCut", spec := "fnCut", unfollowed := true, recurses := true, apart := false }
def FnCutSaid : Prop := fnCutRow.holds Try.pinned (OpenSpec.ofChange fnCutSpec)

/-- ITS FALSE NEIGHBOUR: 'it returns false'. Refute it at one input. -/
def fnCutWrong : ChangeSpec := { name := "fnCut", fn := fun _ => fun
  | [d] => { results := [.lit (.bool false)], args := [d] }
  | _ => none }
def FnCutWrongFalsely : Prop := fnCutRow.holds Try.pinned (OpenSpec.ofChange fnCutWrong)

/-- 'laws.FnBack': WHATEVER THE INPUT: true; the input reads as it did. -/
def fnBackSpec : ChangeSpec := { name := "fnBack", fn := fun _ => fun
  | [d] => { results := [.lit (.bool true)], args := [d] }
  | _ => none }
def fnBackRow : OpenClaim := { program := "ytlljabmgjkecbaa", sum := "bda4a3160c31243c19a56d23c3e3427579adc1da5d89e22a87681fcd397ea776", func := "loop.example/g00714/laws.FnBack", spec := "fnBack", unfollowed := true, recurses := true, apart := false }
def FnBackSaid : Prop := fnBackRow.holds Try.pinned (OpenSpec.ofChange fnBackSpec)

/-- ITS FALSE NEIGHBOUR: 'it returns false'. Refute it at one input. -/
def fnBackWrong : ChangeSpec := { name := "fnBack", fn := fun _ => fun
  | [d] => { results := [.lit (.bool false)], args := [d] }
  | _ => none }
def FnBackWrongFalsely : Prop := fnBackRow.holds Try.pinned (OpenSpec.ofChange fnBackWrong)

/- THE SECOND FORM. 'bulk': how many values and letters a reading holds, each counted each time it is reached (what is shared counts as often as it is met; a slice's spare places count too). A statement '..UptoSaid' is the law's where the arguments, and the package variables that the reading takes, are together of bulk at most 1048576: NARROWER than '..Said'. Prove '..Said' where nothing that the law and all that it calls make is longer than what came in: it says more and counts as full. Else prove '..UptoSaid'. A law counts once. -/
mutual
def uptoBulk {H : Type} : DataW H → Nat
  | .lit (.string bytes) => bytes.length + 1
  | .lit _ => 1
  | .nil => 1
  | .ptr d => uptoBulk d + 1
  | .slice elems spare => uptoBulkAll elems + uptoBulkAll spare + 1
  | .agg parts => uptoBulkAll parts + 1
  | .iface _ d => uptoBulk d + 1
  | .map entries => uptoBulkEntries entries + 1
  | .held _ => 1
def uptoBulkAll {H : Type} : List (DataW H) → Nat
  | [] => 0
  | d :: r => uptoBulk d + uptoBulkAll r
def uptoBulkEntries {H : Type} : List (Lit × DataW H) → Nat
  | [] => 0
  | x :: r => uptoBulkEntry x + uptoBulkEntries r
def uptoBulkEntry {H : Type} : Lit × DataW H → Nat
  | (.string bytes, d) => bytes.length + uptoBulk d + 1
  | (_, d) => uptoBulk d + 1
 end
def uptoSmall : (H : Type) → List (DataW H) → Bool := fun _ ds => decide (uptoBulkAll ds ≤ 1048576)
def OpenSpec.upto (s : _root_.Go.ChangeSpec) : _root_.Go.OpenSpec := { _root_.Go.OpenSpec.ofChange s with cond := some uptoSmall }

/-- 'laws.FnExactPlanOk', WHERE WHAT IT READS IS OF BULK AT MOST 1048576: true; the input reads as it did. -/
def fnExactPlanOkUptoRow : OpenClaim := { program := "ytlljabmgjkecbaa", sum := "bda4a3160c31243c19a56d23c3e3427579adc1da5d89e22a87681fcd397ea776", func := "loop.example/g00714/laws.FnExactPlanOk", spec := "fnExactPlanOk", apart := false, narrowed := true }
def FnExactPlanOkUptoSaid : Prop := fnExactPlanOkUptoRow.holds Try.pinned (OpenSpec.upto fnExactPlanOkSpec)

/-- 'laws.FnExactSumsOf', WHERE WHAT IT READS IS OF BULK AT MOST 1048576: true; the input reads as it did. -/
def fnExactSumsOfUptoRow : OpenClaim := { program := "ytlljabmgjkecbaa", sum := "bda4a3160c31243c19a56d23c3e3427579adc1da5d89e22a87681fcd397ea776", func := "loop.example/g00714/laws.FnExactSumsOf", spec := "fnExactSumsOf", apart := false, narrowed := true }
def FnExactSumsOfUptoSaid : Prop := fnExactSumsOfUptoRow.holds Try.pinned (OpenSpec.upto fnExactSumsOfSpec)

/-- 'laws.FnExactLateFees', WHERE WHAT IT READS IS OF BULK AT MOST 1048576: true; the input reads as it did. -/
def fnExactLateFeesUptoRow : OpenClaim := { program := "ytlljabmgjkecbaa", sum := "bda4a3160c31243c19a56d23c3e3427579adc1da5d89e22a87681fcd397ea776", func := "loop.example/g00714/laws.FnExactLateFees", spec := "fnExactLateFees", apart := false, narrowed := true }
def FnExactLateFeesUptoSaid : Prop := fnExactLateFeesUptoRow.holds Try.pinned (OpenSpec.upto fnExactLateFeesSpec)

/-- 'laws.FnExactCutPlan', WHERE WHAT IT READS IS OF BULK AT MOST 1048576: true; the input reads as it did. -/
def fnExactCutPlanUptoRow : OpenClaim := { program := "ytlljabmgjkecbaa", sum := "bda4a3160c31243c19a56d23c3e3427579adc1da5d89e22a87681fcd397ea776", func := "loop.example/g00714/laws.FnExactCutPlan", spec := "fnExactCutPlan", unfollowed := true, recurses := true, apart := false, narrowed := true }
def FnExactCutPlanUptoSaid : Prop := fnExactCutPlanUptoRow.holds Try.pinned (OpenSpec.upto fnExactCutPlanSpec)

/-- 'laws.FnExactBackPlan', WHERE WHAT IT READS IS OF BULK AT MOST 1048576: true; the input reads as it did. -/
def fnExactBackPlanUptoRow : OpenClaim := { program := "ytlljabmgjkecbaa", sum := "bda4a3160c31243c19a56d23c3e3427579adc1da5d89e22a87681fcd397ea776", func := "loop.example/g00714/laws.FnExactBackPlan", spec := "fnExactBackPlan", unfollowed := true, recurses := true, apart := false, narrowed := true }
def FnExactBackPlanUptoSaid : Prop := fnExactBackPlanUptoRow.holds Try.pinned (OpenSpec.upto fnExactBackPlanSpec)

/-- 'laws.FnExactPayPlan', WHERE WHAT IT READS IS OF BULK AT MOST 1048576: true; the input reads as it did. -/
def fnExactPayPlanUptoRow : OpenClaim := { program := "ytlljabmgjkecbaa", sum := "bda4a3160c31243c19a56d23c3e3427579adc1da5d89e22a87681fcd397ea776", func := "loop.example/g00714/laws.FnExactPayPlan", spec := "fnExactPayPlan", unfollowed := true, recurses := true, apart := false, narrowed := true }
def FnExactPayPlanUptoSaid : Prop := fnExactPayPlanUptoRow.holds Try.pinned (OpenSpec.upto fnExactPayPlanSpec)

/-- 'laws.FnExactPayoffOf', WHERE WHAT IT READS IS OF BULK AT MOST 1048576: true; the input reads as it did. -/
def fnExactPayoffOfUptoRow : OpenClaim := { program := "ytlljabmgjkecbaa", sum := "bda4a3160c31243c19a56d23c3e3427579adc1da5d89e22a87681fcd397ea776", func := "loop.example/g00714/laws.FnExactPayoffOf", spec := "fnExactPayoffOf", unfollowed := true, recurses := true, apart := false, narrowed := true }
def FnExactPayoffOfUptoSaid : Prop := fnExactPayoffOfUptoRow.holds Try.pinned (OpenSpec.upto fnExactPayoffOfSpec)

/-- 'laws.FnExactPaidOff', WHERE WHAT IT READS IS OF BULK AT MOST 1048576: true; the input reads as it did. -/
def fnExactPaidOffUptoRow : OpenClaim := { program := "ytlljabmgjkecbaa", sum := "bda4a3160c31243c19a56d23c3e3427579adc1da5d89e22a87681fcd397ea776", func := "loop.example/g00714/laws.FnExactPaidOff", spec := "fnExactPaidOff", unfollowed := true, recurses := true, apart := false, narrowed := true }
def FnExactPaidOffUptoSaid : Prop := fnExactPaidOffUptoRow.holds Try.pinned (OpenSpec.upto fnExactPaidOffSpec)

/-- 'laws.FnSums', WHERE WHAT IT READS IS OF BULK AT MOST 1048576: true; the input reads as it did. -/
def fnSumsUptoRow : OpenClaim := { program := "ytlljabmgjkecbaa", sum := "bda4a3160c31243c19a56d23c3e3427579adc1da5d89e22a87681fcd397ea776", func := "loop.example/g00714/laws.FnSums", spec := "fnSums", apart := false, narrowed := true }
def FnSumsUptoSaid : Prop := fnSumsUptoRow.holds Try.pinned (OpenSpec.upto fnSumsSpec)

/-- 'laws.FnLate', WHERE WHAT IT READS IS OF BULK AT MOST 1048576: true; the input reads as it did. -/
def fnLateUptoRow : OpenClaim := { program := "ytlljabmgjkecbaa", sum := "bda4a3160c31243c19a56d23c3e3427579adc1da5d89e22a87681fcd397ea776", func := "loop.example/g00714/laws.FnLate", spec := "fnLate", apart := false, narrowed := true }
def FnLateUptoSaid : Prop := fnLateUptoRow.holds Try.pinned (OpenSpec.upto fnLateSpec)

/-- 'laws.FnCut', WHERE WHAT IT READS IS OF BULK AT MOST 1048576: true; the input reads as it did. -/
def fnCutUptoRow : OpenClaim := { program := "ytlljabmgjkecbaa", sum := "bda4a3160c31243c19a56d23c3e3427579adc1da5d89e22a87681fcd397ea776", func := "loop.example/g00714/laws.FnCut", spec := "fnCut", unfollowed := true, recurses := true, apart := false, narrowed := true }
def FnCutUptoSaid : Prop := fnCutUptoRow.holds Try.pinned (OpenSpec.upto fnCutSpec)

/-- 'laws.FnBack', WHERE WHAT IT READS IS OF BULK AT MOST 1048576: true; the input reads as it did. -/
def fnBackUptoRow : OpenClaim := { program := "ytlljabmgjkecbaa", sum := "bda4a3160c31243c19a56d23c3e3427579adc1da5d89e22a87681fcd397ea776", func := "loop.example/g00714/laws.FnBack", spec := "fnBack", unfollowed := true, recurses := true, apart := false, narrowed := true }
def FnBackUptoSaid : Prop := fnBackUptoRow.holds Try.pinned (OpenSpec.upto fnBackSpec)

end Rows
end Go.Proofs.Ytlljabmgjkecbaa
