/-
  No cell of these rows narrows 'for every input' (looked for: loops, veiled, ifaces, maps, wideKeys, modest, calm, conditions, laid).
  DERIVED. THE GIVEN ROWS OF THIS SEAT. 8 by the template 'for every input the law returns true; each argument reads behind the call as it read before'; 0 by the template 'total and deterministic' (their statements: YtmnmijiikjpdnaaTotals.lean).
  GIVEN WITH THE SEED: the statements are not yours to turn. If you find one false, say at which input.
  Laid BY PROGRAM, IN A SANDBOX (cutbox-rows.mjs): the forced cells as the released guide's own fill.sh prints them over the translation f2cd49024341ce08… (all of the seat's roots in one cut). By AI agents, Wed Nov 11 2026. No macro, syntax, notation, axiom, sorry.
-/
import Derived.Test.YtmnmijiikjpdnaaChecked
import GoSem.Claim
import GoSem.ClaimJoined
import GoSem.ClaimMapViews
import Derived.JoinedTies
import Derived.KernelRfl
namespace Go.Proofs.Ytmnmijiikjpdnaa
/- THE CELL 'sum', in the pinned program and in every row, IS THE sha256 OF THE DUMP (.gsa) THAT YtmnmijiikjpdnaaProg.lean LOADS. Nothing in Lean hashes anything: it is a label: what it is worth is what the hold of that sum in a sandbox is worth. -/
noncomputable def Try.pinned : Pinned := { name := "ytmnmijiikjpdnaa", sum := "f2cd49024341ce0834d704997182ed7bca488fc73756d4c519533710df30a6cb", checked := Try.checked }
namespace Rows
def none {H : Type} : Left H := { results := [], args := [] }

/-- 'laws.FnExactPayPlan': WHATEVER THE INPUT: true; the input reads as it did. -/
def fnExactPayPlanSpec : ChangeSpec := { name := "fnExactPayPlan", fn := fun _ => fun
  | [d1, d2] => { results := [.lit (.bool true)], args := [d1, d2] }
  | _ => none }
def fnExactPayPlanRow : OpenClaim := { program := "ytmnmijiikjpdnaa", sum := "f2cd49024341ce0834d704997182ed7bca488fc73756d4c519533710df30a6cb", func := "loop.example/g00714/laws.FnExactPayPlan", spec := "fnExactPayPlan", unfollowed := true, recurses := true, apart := false }
def FnExactPayPlanSaid : Prop := fnExactPayPlanRow.holds Try.pinned (OpenSpec.ofChange fnExactPayPlanSpec)

/-- ITS FALSE NEIGHBOUR: 'it returns false'. Refute it at one input. -/
def fnExactPayPlanWrong : ChangeSpec := { name := "fnExactPayPlan", fn := fun _ => fun
  | [d1, d2] => { results := [.lit (.bool false)], args := [d1, d2] }
  | _ => none }
def FnExactPayPlanWrongFalsely : Prop := fnExactPayPlanRow.holds Try.pinned (OpenSpec.ofChange fnExactPayPlanWrong)

/-- 'laws.FnCut': WHATEVER THE INPUT: true; the input reads as it did. -/
def fnCutSpec : ChangeSpec := { name := "fnCut", fn := fun _ => fun
  | [d] => { results := [.lit (.bool true)], args := [d] }
  | _ => none }
def fnCutRow : OpenClaim := { program := "ytmnmijiikjpdnaa", sum := "f2cd49024341ce0834d704997182ed7bca488fc73756d4c519533710df30a6cb", func := "loop.example/g00714/laws.FnCut", spec := "fnCut", unfollowed := true, recurses := true, apart := false }
def FnCutSaid : Prop := fnCutRow.holds Try.pinned (OpenSpec.ofChange fnCutSpec)

/-- ITS FALSE NEIGHBOUR: 'it returns false'. Refute it at one input. -/
def fnCutWrong : ChangeSpec := { name := "fnCut", fn := fun _ => fun
  | [d] => { results := [.lit (.bool false)], args := [d] }
  | _ => none }
def FnCutWrongFalsely : Prop := fnCutRow.holds Try.pinned (OpenSpec.ofChange fnCutWrong)

/-- 'laws.FnBack': WHATEVER THE INPUT: true; the input reads as it did. -/
def fnBackSpec : ChangeSpec := { name := "fnBack", fn := fun _ => fun
  | [d] => { results := [.lit (.bool true)], args := [d] }
  | _ => none }
def fnBackRow : OpenClaim := { program := "ytmnmijiikjpdnaa", sum := "f2cd49024341ce0834d704997182ed7bca488fc73756d4c519533710df30a6cb", func := "loop.example/g00714/laws.FnBack", spec := "fnBack", unfollowed := true, recurses := true, apart := false }
def FnBackSaid : Prop := fnBackRow.holds Try.pinned (OpenSpec.ofChange fnBackSpec)

/-- ITS FALSE NEIGHBOUR: 'it returns false'. Refute it at one input. -/
def fnBackWrong : ChangeSpec := { name := "fnBack", fn := fun _ => fun
  | [d] => { results := [.lit (.bool false)], args := [d] }
  | _ => none }
def FnBackWrongFalsely : Prop := fnBackRow.holds Try.pinned (OpenSpec.ofChange fnBackWrong)

/-- 'laws.FnLate': WHATEVER THE INPUT: true; the input reads as it did. -/
def fnLateSpec : ChangeSpec := { name := "fnLate", fn := fun _ => fun
  | [d] => { results := [.lit (.bool true)], args := [d] }
  | _ => none }
def fnLateRow : OpenClaim := { program := "ytmnmijiikjpdnaa", sum := "f2cd49024341ce0834d704997182ed7bca488fc73756d4c519533710df30a6cb", func := "loop.example/g00714/laws.FnLate", spec := "fnLate", apart := false }
def FnLateSaid : Prop := fnLateRow.holds Try.pinned (OpenSpec.ofChange fnLateSpec)

/-- ITS FALSE NEIGHBOUR: 'it returns false'. Refute it at one input. -/
def fnLateWrong : ChangeSpec := { name := "fnLate", fn := fun _ => fun
  | [d] => { results := [.lit (.bool false)], args := [d] }
  | _ => none }
def FnLateWrongFalsely : Prop := fnLateRow.holds Try.pinned (OpenSpec.ofChange fnLateWrong)

/-- 'laws.FnPay': WHATEVER THE INPUT: true; the input reads as it did. -/
def fnPaySpec : ChangeSpec := { name := "fnPay", fn := fun _ => fun
  | [d] => { results := [.lit (.bool true)], args := [d] }
  | _ => none }
def fnPayRow : OpenClaim := { program := "ytmnmijiikjpdnaa", sum := "f2cd49024341ce0834d704997182ed7bca488fc73756d4c519533710df30a6cb", func := "loop.example/g00714/laws.FnPay", spec := "fnPay", unfollowed := true, recurses := true, apart := false }
def FnPaySaid : Prop := fnPayRow.holds Try.pinned (OpenSpec.ofChange fnPaySpec)

/-- ITS FALSE NEIGHBOUR: 'it returns false'. Refute it at one input. -/
def fnPayWrong : ChangeSpec := { name := "fnPay", fn := fun _ => fun
  | [d] => { results := [.lit (.bool false)], args := [d] }
  | _ => none }
def FnPayWrongFalsely : Prop := fnPayRow.holds Try.pinned (OpenSpec.ofChange fnPayWrong)

/-- 'laws.FnPayTwice': WHATEVER THE INPUT: true; the input reads as it did. -/
def fnPayTwiceSpec : ChangeSpec := { name := "fnPayTwice", fn := fun _ => fun
  | [d] => { results := [.lit (.bool true)], args := [d] }
  | _ => none }
def fnPayTwiceRow : OpenClaim := { program := "ytmnmijiikjpdnaa", sum := "f2cd49024341ce0834d704997182ed7bca488fc73756d4c519533710df30a6cb", func := "loop.example/g00714/laws.FnPayTwice", spec := "fnPayTwice", unfollowed := true, recurses := true, apart := false }
def FnPayTwiceSaid : Prop := fnPayTwiceRow.holds Try.pinned (OpenSpec.ofChange fnPayTwiceSpec)

/-- ITS FALSE NEIGHBOUR: 'it returns false'. Refute it at one input. -/
def fnPayTwiceWrong : ChangeSpec := { name := "fnPayTwice", fn := fun _ => fun
  | [d] => { results := [.lit (.bool false)], args := [d] }
  | _ => none }
def FnPayTwiceWrongFalsely : Prop := fnPayTwiceRow.holds Try.pinned (OpenSpec.ofChange fnPayTwiceWrong)

/-- 'laws.FnPayoff': WHATEVER THE INPUT: true; the input reads as it did. -/
def fnPayoffSpec : ChangeSpec := { name := "fnPayoff", fn := fun _ => fun
  | [d] => { results := [.lit (.bool true)], args := [d] }
  | _ => none }
def fnPayoffRow : OpenClaim := { program := "ytmnmijiikjpdnaa", sum := "f2cd49024341ce0834d704997182ed7bca488fc73756d4c519533710df30a6cb", func := "loop.example/g00714/laws.FnPayoff", spec := "fnPayoff", unfollowed := true, recurses := true, apart := false }
def FnPayoffSaid : Prop := fnPayoffRow.holds Try.pinned (OpenSpec.ofChange fnPayoffSpec)

/-- ITS FALSE NEIGHBOUR: 'it returns false'. Refute it at one input. -/
def fnPayoffWrong : ChangeSpec := { name := "fnPayoff", fn := fun _ => fun
  | [d] => { results := [.lit (.bool false)], args := [d] }
  | _ => none }
def FnPayoffWrongFalsely : Prop := fnPayoffRow.holds Try.pinned (OpenSpec.ofChange fnPayoffWrong)

/-- 'laws.FnSums': WHATEVER THE INPUT: true; the input reads as it did. -/
def fnSumsSpec : ChangeSpec := { name := "fnSums", fn := fun _ => fun
  | [d] => { results := [.lit (.bool true)], args := [d] }
  | _ => none }
def fnSumsRow : OpenClaim := { program := "ytmnmijiikjpdnaa", sum := "f2cd49024341ce0834d704997182ed7bca488fc73756d4c519533710df30a6cb", func := "loop.example/g00714/laws.FnSums", spec := "fnSums", apart := false }
def FnSumsSaid : Prop := fnSumsRow.holds Try.pinned (OpenSpec.ofChange fnSumsSpec)

/-- ITS FALSE NEIGHBOUR: 'it returns false'. Refute it at one input. -/
def fnSumsWrong : ChangeSpec := { name := "fnSums", fn := fun _ => fun
  | [d] => { results := [.lit (.bool false)], args := [d] }
  | _ => none }
def FnSumsWrongFalsely : Prop := fnSumsRow.holds Try.pinned (OpenSpec.ofChange fnSumsWrong)

/- THE SECOND FORM. 'bulk': how many values and letters a reading holds, each counted each time it is reached (what is shared counts as often as it is met; a slice's spare places count too). A statement '..UptoSaid' is the law's where the arguments, and the package variables that the reading takes, are together of bulk at most 1048576: NARROWER than '..Said'. Prove '..Said' where nothing that the law and all that it calls make is longer than what came in: it says more and counts as full. Else prove '..UptoSaid'. A law counts once. -/
mutual
def uptoBulk {H : Type} : DataW H → Nat
  | .lit (.string bytes) => bytes.length + 1
  | .lit _ => 1
  | .nil => 1
  | .ptr d => uptoBulk d + 1
  | .slice elems spare => uptoBulkAll elems + uptoBulkAll spare + 1
  | .agg parts => uptoBulkAll parts + 1
  | .iface _ d => uptoBulk d + 1
  | .map entries => uptoBulkEntries entries + 1
  | .held _ => 1
def uptoBulkAll {H : Type} : List (DataW H) → Nat
  | [] => 0
  | d :: r => uptoBulk d + uptoBulkAll r
def uptoBulkEntries {H : Type} : List (Lit × DataW H) → Nat
  | [] => 0
  | x :: r => uptoBulkEntry x + uptoBulkEntries r
def uptoBulkEntry {H : Type} : Lit × DataW H → Nat
  | (.string bytes, d) => bytes.length + uptoBulk d + 1
  | (_, d) => uptoBulk d + 1
 end
def uptoSmall : (H : Type) → List (DataW H) → Bool := fun _ ds => decide (uptoBulkAll ds ≤ 1048576)
def OpenSpec.upto (s : _root_.Go.ChangeSpec) : _root_.Go.OpenSpec := { _root_.Go.OpenSpec.ofChange s with cond := some uptoSmall }

/-- 'laws.FnExactPayPlan', WHERE WHAT IT READS IS OF BULK AT MOST 1048576: true; the input reads as it did. -/
def fnExactPayPlanUptoRow : OpenClaim := { program := "ytmnmijiikjpdnaa", sum := "f2cd49024341ce0834d704997182ed7bca488fc73756d4c519533710df30a6cb", func := "loop.example/g00714/laws.FnExactPayPlan", spec := "fnExactPayPlan", unfollowed := true, recurses := true, apart := false, narrowed := true }
def FnExactPayPlanUptoSaid : Prop := fnExactPayPlanUptoRow.holds Try.pinned (OpenSpec.upto fnExactPayPlanSpec)

/-- 'laws.FnCut', WHERE WHAT IT READS IS OF BULK AT MOST 1048576: true; the input reads as it did. -/
def fnCutUptoRow : OpenClaim := { program := "ytmnmijiikjpdnaa", sum := "f2cd49024341ce0834d704997182ed7bca488fc73756d4c519533710df30a6cb", func := "loop.example/g00714/laws.FnCut", spec := "fnCut", unfollowed := true, recurses := true, apart := false, narrowed := true }
def FnCutUptoSaid : Prop := fnCutUptoRow.holds Try.pinned (OpenSpec.upto fnCutSpec)

/-- 'laws.FnBack', WHERE WHAT IT READS IS OF BULK AT MOST 1048576: true; the input reads as it did. -/
def fnBackUptoRow : OpenClaim := { program := "ytmnmijiikjpdnaa", sum := "f2cd49024341ce0834d704997182ed7bca488fc73756d4c519533710df30a6cb", func := "loop.example/g00714/laws.FnBack", spec := "fnBack", unfollowed := true, recurses := true, apart := false, narrowed := true }
def FnBackUptoSaid : Prop := fnBackUptoRow.holds Try.pinned (OpenSpec.upto fnBackSpec)

/-- 'laws.FnLate', WHERE WHAT IT READS IS OF BULK AT MOST 1048576: true; the input reads as it did. -/
def fnLateUptoRow : OpenClaim := { program := "ytmnmijiikjpdnaa", sum := "f2cd49024341ce0834d704997182ed7bca488fc73756d4c519533710df30a6cb", func := "loop.example/g00714/laws.FnLate", spec := "fnLate", apart := false, narrowed := true }
def FnLateUptoSaid : Prop := fnLateUptoRow.holds Try.pinned (OpenSpec.upto fnLateSpec)

/-- 'laws.FnPay', WHERE WHAT IT READS IS OF BULK AT MOST 1048576: true; the input reads as it did. -/
def fnPayUptoRow : OpenClaim := { program := "ytmnmijiikjpdnaa", sum := "f2cd49024341ce0834d704997182ed7bca488fc73756d4c519533710df30a6cb", func := "loop.example/g00714/laws.FnPay", spec := "fnPay", unfollowed := true, recurses := true, apart := false, narrowed := true }
def FnPayUptoSaid : Prop := fnPayUptoRow.holds Try.pinned (OpenSpec.upto fnPaySpec)

/-- 'laws.FnPayTwice', WHERE WHAT IT READS IS OF BULK AT MOST 1048576: true; the input reads as it did. -/
def fnPayTwiceUptoRow : OpenClaim := { program := "ytmnmijiikjpdnaa", sum := "f2cd49024341ce0834d704997182ed7bca488fc73756d4c519533710df30a6cb", func := "loop.example/g00714/laws.FnPayTwice", spec := "fnPayTwice", unfollowed := true, recurses := true, apart := false, narrowed := true }
def FnPayTwiceUptoSaid : Prop := fnPayTwiceUptoRow.holds Try.pinned (OpenSpec.upto fnPayTwiceSpec)

/-- 'laws.FnPayoff', WHERE WHAT IT READS IS OF BULK AT MOST 1048576: true; the input reads as it did. -/
def fnPayoffUptoRow : OpenClaim := { program := "ytmnmijiikjpdnaa", sum := "f2cd49024341ce0834d704997182ed7bca488fc73756d4c519533710df30a6cb", func := "loop.example/g00714/laws.FnPayoff", spec := "fnPayoff", unfollowed := true, recurses := true, apart := false, narrowed := true }
def FnPayoffUptoSaid : Prop := fnPayoffUptoRow.holds Try.pinned (OpenSpec.upto fnPayoffSpec)

/-- 'laws.FnSums', WHERE WHAT IT READS IS OF BULK AT MOST 1048576: true; the input reads as it did. -/
def fnSumsUptoRow : OpenClaim := { program := "ytmnmijiikjpdnaa", sum := "f2cd49024341ce0834d704997182ed7bca488fc73756d4c519533710df30a6cb", func := "loop.example/g00714/laws.FnSums", spec := "fnSums", apart := false, narrowed := true }
def FnSumsUptoSaid : Prop := fnSumsUptoRow.holds Try.pinned (OpenSpec.upto fnSumsSpec)

end Rows
end Go.Proofs.Ytmnmijiikjpdnaa
