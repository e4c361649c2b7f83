/-
  NARROWER THAN 'FOR EVERY INPUT', by the rows' own cells (each row's printed sentence says how): FnDates: laid · FnDateOrder: laid · FnLeap: laid · FnMonths: laid · FnDues: laid · FnExactDayOf: laid · FnExactDateOf: laid · FnExactDateText: laid · FnExactReadDate: laid · FnExactMonthsOn: laid · FnExactDueDays: laid.
  DERIVED. THE GIVEN ROWS OF THIS SEAT. 11 by the template 'for every input the law returns true; each argument reads behind the call as it read before'; 0 by the template 'total and deterministic' (their statements: YtlpeadkkkmpccabDoorTotals.lean).
  GIVEN WITH THE SEED: the statements are not yours to turn. If you find one false, say at which input.
  Laid BY PROGRAM, IN A SANDBOX (cutbox-rows.mjs): the forced cells as the released guide's own fill.sh prints them over the translation d44003b109d81e50… (all of the seat's roots in one cut). By AI agents, Wed Nov 11 2026. No macro, syntax, notation, axiom, sorry.
-/
import Derived.Test.YtlpeadkkkmpccabDoorChecked
import GoSem.Claim
import GoSem.ClaimJoined
import GoSem.ClaimMapViews
import Derived.JoinedTies
import Derived.KernelRfl
namespace Go.Proofs.YtlpeadkkkmpccabDoor
/- THE CELL 'sum', in the pinned program and in every row, IS THE sha256 OF THE DUMP (.gsa) THAT YtlpeadkkkmpccabDoorProg.lean LOADS. Nothing in Lean hashes anything: it is a label: what it is worth is what the hold of that sum in a sandbox is worth. -/
noncomputable def Tryd.pinned : Pinned := { name := "ytlpeadkkkmpccabdoor", sum := "d44003b109d81e5086b195c0f35b0c1eb031e577951c4e816accd45fbbdfe4eb", checked := Tryd.checked }
namespace Rows
def none {H : Type} : Left H := { results := [], args := [] }

/- WHAT THE LISTED PACKAGE-LEVEL VARIABLES READ AS WHEN THE CALL BEGINS. Each datum BY PROGRAM (the guide's laid-datum.mjs) off the statement by which the dump's own 'gosem.cut.vars' lays the variable. In a bare row this is a premise. The card (YtlpeadkkkmpccabDoorCards.lean) ties it to the program's text. -/
def laid_math_bits_deBruijn32tab {H : Type} : DataW H := .agg [.lit (.int .u8 0), .lit (.int .u8 1), .lit (.int .u8 28), .lit (.int .u8 2), .lit (.int .u8 29), .lit (.int .u8 14), .lit (.int .u8 24), .lit (.int .u8 3), .lit (.int .u8 30), .lit (.int .u8 22), .lit (.int .u8 20), .lit (.int .u8 15), .lit (.int .u8 25), .lit (.int .u8 17), .lit (.int .u8 4), .lit (.int .u8 8), .lit (.int .u8 31), .lit (.int .u8 27), .lit (.int .u8 13), .lit (.int .u8 23), .lit (.int .u8 21), .lit (.int .u8 19), .lit (.int .u8 16), .lit (.int .u8 7), .lit (.int .u8 26), .lit (.int .u8 12), .lit (.int .u8 18), .lit (.int .u8 6), .lit (.int .u8 11), .lit (.int .u8 5), .lit (.int .u8 10), .lit (.int .u8 9)]
def laid_math_bits_deBruijn64tab {H : Type} : DataW H := .agg [.lit (.int .u8 0), .lit (.int .u8 1), .lit (.int .u8 56), .lit (.int .u8 2), .lit (.int .u8 57), .lit (.int .u8 49), .lit (.int .u8 28), .lit (.int .u8 3), .lit (.int .u8 61), .lit (.int .u8 58), .lit (.int .u8 42), .lit (.int .u8 50), .lit (.int .u8 38), .lit (.int .u8 29), .lit (.int .u8 17), .lit (.int .u8 4), .lit (.int .u8 62), .lit (.int .u8 47), .lit (.int .u8 59), .lit (.int .u8 36), .lit (.int .u8 45), .lit (.int .u8 43), .lit (.int .u8 51), .lit (.int .u8 22), .lit (.int .u8 53), .lit (.int .u8 39), .lit (.int .u8 33), .lit (.int .u8 30), .lit (.int .u8 24), .lit (.int .u8 18), .lit (.int .u8 12), .lit (.int .u8 5), .lit (.int .u8 63), .lit (.int .u8 55), .lit (.int .u8 48), .lit (.int .u8 27), .lit (.int .u8 60), .lit (.int .u8 41), .lit (.int .u8 37), .lit (.int .u8 16), .lit (.int .u8 46), .lit (.int .u8 35), .lit (.int .u8 44), .lit (.int .u8 21), .lit (.int .u8 52), .lit (.int .u8 32), .lit (.int .u8 23), .lit (.int .u8 11), .lit (.int .u8 54), .lit (.int .u8 26), .lit (.int .u8 40), .lit (.int .u8 15), .lit (.int .u8 34), .lit (.int .u8 20), .lit (.int .u8 31), .lit (.int .u8 10), .lit (.int .u8 25), .lit (.int .u8 14), .lit (.int .u8 19), .lit (.int .u8 9), .lit (.int .u8 13), .lit (.int .u8 8), .lit (.int .u8 7), .lit (.int .u8 6)]
def laid_internal_strconv_uint64pow10 {H : Type} : DataW H := .agg [.lit (.int .u64 1), .lit (.int .u64 10), .lit (.int .u64 100), .lit (.int .u64 1000), .lit (.int .u64 10000), .lit (.int .u64 100000), .lit (.int .u64 1000000), .lit (.int .u64 10000000), .lit (.int .u64 100000000), .lit (.int .u64 1000000000), .lit (.int .u64 10000000000), .lit (.int .u64 100000000000), .lit (.int .u64 1000000000000), .lit (.int .u64 10000000000000), .lit (.int .u64 100000000000000), .lit (.int .u64 1000000000000000), .lit (.int .u64 10000000000000000), .lit (.int .u64 100000000000000000), .lit (.int .u64 1000000000000000000), .lit (.int .u64 10000000000000000000)]
def laid_loop_example_g00714_impl_monthLengths {H : Type} : DataW H := .agg [.lit (.int .i64 31), .lit (.int .i64 28), .lit (.int .i64 31), .lit (.int .i64 30), .lit (.int .i64 31), .lit (.int .i64 30), .lit (.int .i64 31), .lit (.int .i64 31), .lit (.int .i64 30), .lit (.int .i64 31), .lit (.int .i64 30), .lit (.int .i64 31)]

/-- 'laws.FnDates': WHATEVER THE INPUT: true; the input reads as it did. -/
def fnDatesSpec : ChangeSpec := { name := "fnDates", vars := ["loop.example/g00714/impl.monthLengths"], fn := fun _ => fun
  | [d, g1] => { results := [.lit (.bool true)], args := [d], vars := [g1] }
  | _ => none }
def fnDatesRow : OpenClaim := { program := "ytlpeadkkkmpccabdoor", sum := "d44003b109d81e5086b195c0f35b0c1eb031e577951c4e816accd45fbbdfe4eb", func := "loop.example/g00714/laws.FnDates", spec := "fnDates", inPlace := ["internal/abi.NoEscape", "internal/bytealg.MakeNoZero"], named := ["loop.example/g00714/impl.monthLengths", "internal/strconv.uint64pow10", "math/bits.deBruijn32tab", "math/bits.deBruijn64tab"], apart := false, laid := [("math/bits.deBruijn32tab", laid_math_bits_deBruijn32tab), ("math/bits.deBruijn64tab", laid_math_bits_deBruijn64tab), ("internal/strconv.uint64pow10", laid_internal_strconv_uint64pow10), ("loop.example/g00714/impl.monthLengths", laid_loop_example_g00714_impl_monthLengths)] }
def FnDatesSaid : Prop := fnDatesRow.holds Tryd.pinned (OpenSpec.ofChange fnDatesSpec)

/-- ITS FALSE NEIGHBOUR: 'it returns false'. Refute it at one input. -/
def fnDatesWrong : ChangeSpec := { name := "fnDates", vars := ["loop.example/g00714/impl.monthLengths"], fn := fun _ => fun
  | [d, g1] => { results := [.lit (.bool false)], args := [d], vars := [g1] }
  | _ => none }
def FnDatesWrongFalsely : Prop := fnDatesRow.holds Tryd.pinned (OpenSpec.ofChange fnDatesWrong)

/-- 'laws.FnDateOrder': WHATEVER THE INPUT: true; the input reads as it did. -/
def fnDateOrderSpec : ChangeSpec := { name := "fnDateOrder", vars := ["loop.example/g00714/impl.monthLengths"], fn := fun _ => fun
  | [d1, d2, g1] => { results := [.lit (.bool true)], args := [d1, d2], vars := [g1] }
  | _ => none }
def fnDateOrderRow : OpenClaim := { program := "ytlpeadkkkmpccabdoor", sum := "d44003b109d81e5086b195c0f35b0c1eb031e577951c4e816accd45fbbdfe4eb", func := "loop.example/g00714/laws.FnDateOrder", spec := "fnDateOrder", inPlace := ["internal/abi.NoEscape", "internal/bytealg.MakeNoZero"], named := ["loop.example/g00714/impl.monthLengths", "internal/strconv.uint64pow10", "math/bits.deBruijn32tab", "math/bits.deBruijn64tab"], apart := false, laid := [("math/bits.deBruijn32tab", laid_math_bits_deBruijn32tab), ("math/bits.deBruijn64tab", laid_math_bits_deBruijn64tab), ("internal/strconv.uint64pow10", laid_internal_strconv_uint64pow10), ("loop.example/g00714/impl.monthLengths", laid_loop_example_g00714_impl_monthLengths)] }
def FnDateOrderSaid : Prop := fnDateOrderRow.holds Tryd.pinned (OpenSpec.ofChange fnDateOrderSpec)

/-- ITS FALSE NEIGHBOUR: 'it returns false'. Refute it at one input. -/
def fnDateOrderWrong : ChangeSpec := { name := "fnDateOrder", vars := ["loop.example/g00714/impl.monthLengths"], fn := fun _ => fun
  | [d1, d2, g1] => { results := [.lit (.bool false)], args := [d1, d2], vars := [g1] }
  | _ => none }
def FnDateOrderWrongFalsely : Prop := fnDateOrderRow.holds Tryd.pinned (OpenSpec.ofChange fnDateOrderWrong)

/-- 'laws.FnLeap': WHATEVER THE INPUT: true; the input reads as it did. -/
def fnLeapSpec : ChangeSpec := { name := "fnLeap", vars := ["loop.example/g00714/impl.monthLengths"], fn := fun _ => fun
  | [d, g1] => { results := [.lit (.bool true)], args := [d], vars := [g1] }
  | _ => none }
def fnLeapRow : OpenClaim := { program := "ytlpeadkkkmpccabdoor", sum := "d44003b109d81e5086b195c0f35b0c1eb031e577951c4e816accd45fbbdfe4eb", func := "loop.example/g00714/laws.FnLeap", spec := "fnLeap", named := ["loop.example/g00714/impl.monthLengths"], apart := false, laid := [("loop.example/g00714/impl.monthLengths", laid_loop_example_g00714_impl_monthLengths)] }
def FnLeapSaid : Prop := fnLeapRow.holds Tryd.pinned (OpenSpec.ofChange fnLeapSpec)

/-- ITS FALSE NEIGHBOUR: 'it returns false'. Refute it at one input. -/
def fnLeapWrong : ChangeSpec := { name := "fnLeap", vars := ["loop.example/g00714/impl.monthLengths"], fn := fun _ => fun
  | [d, g1] => { results := [.lit (.bool false)], args := [d], vars := [g1] }
  | _ => none }
def FnLeapWrongFalsely : Prop := fnLeapRow.holds Tryd.pinned (OpenSpec.ofChange fnLeapWrong)

/-- 'laws.FnMonths': WHATEVER THE INPUT: true; the input reads as it did. -/
def fnMonthsSpec : ChangeSpec := { name := "fnMonths", vars := ["loop.example/g00714/impl.monthLengths"], fn := fun _ => fun
  | [d, g1] => { results := [.lit (.bool true)], args := [d], vars := [g1] }
  | _ => none }
def fnMonthsRow : OpenClaim := { program := "ytlpeadkkkmpccabdoor", sum := "d44003b109d81e5086b195c0f35b0c1eb031e577951c4e816accd45fbbdfe4eb", func := "loop.example/g00714/laws.FnMonths", spec := "fnMonths", named := ["loop.example/g00714/impl.monthLengths"], apart := false, laid := [("loop.example/g00714/impl.monthLengths", laid_loop_example_g00714_impl_monthLengths)] }
def FnMonthsSaid : Prop := fnMonthsRow.holds Tryd.pinned (OpenSpec.ofChange fnMonthsSpec)

/-- ITS FALSE NEIGHBOUR: 'it returns false'. Refute it at one input. -/
def fnMonthsWrong : ChangeSpec := { name := "fnMonths", vars := ["loop.example/g00714/impl.monthLengths"], fn := fun _ => fun
  | [d, g1] => { results := [.lit (.bool false)], args := [d], vars := [g1] }
  | _ => none }
def FnMonthsWrongFalsely : Prop := fnMonthsRow.holds Tryd.pinned (OpenSpec.ofChange fnMonthsWrong)

/-- 'laws.FnDues': WHATEVER THE INPUT: true; the input reads as it did. -/
def fnDuesSpec : ChangeSpec := { name := "fnDues", vars := ["loop.example/g00714/impl.monthLengths"], fn := fun _ => fun
  | [d, g1] => { results := [.lit (.bool true)], args := [d], vars := [g1] }
  | _ => none }
def fnDuesRow : OpenClaim := { program := "ytlpeadkkkmpccabdoor", sum := "d44003b109d81e5086b195c0f35b0c1eb031e577951c4e816accd45fbbdfe4eb", func := "loop.example/g00714/laws.FnDues", spec := "fnDues", named := ["loop.example/g00714/impl.monthLengths"], apart := false, laid := [("loop.example/g00714/impl.monthLengths", laid_loop_example_g00714_impl_monthLengths)] }
def FnDuesSaid : Prop := fnDuesRow.holds Tryd.pinned (OpenSpec.ofChange fnDuesSpec)

/-- ITS FALSE NEIGHBOUR: 'it returns false'. Refute it at one input. -/
def fnDuesWrong : ChangeSpec := { name := "fnDues", vars := ["loop.example/g00714/impl.monthLengths"], fn := fun _ => fun
  | [d, g1] => { results := [.lit (.bool false)], args := [d], vars := [g1] }
  | _ => none }
def FnDuesWrongFalsely : Prop := fnDuesRow.holds Tryd.pinned (OpenSpec.ofChange fnDuesWrong)

/-- 'laws.FnExactDayOf': WHATEVER THE INPUT: true; the input reads as it did. -/
def fnExactDayOfSpec : ChangeSpec := { name := "fnExactDayOf", vars := ["loop.example/g00714/impl.monthLengths"], fn := fun _ => fun
  | [d1, d2, d3, g1] => { results := [.lit (.bool true)], args := [d1, d2, d3], vars := [g1] }
  | _ => none }
def fnExactDayOfRow : OpenClaim := { program := "ytlpeadkkkmpccabdoor", sum := "d44003b109d81e5086b195c0f35b0c1eb031e577951c4e816accd45fbbdfe4eb", func := "loop.example/g00714/laws.FnExactDayOf", spec := "fnExactDayOf", named := ["loop.example/g00714/impl.monthLengths"], apart := false, laid := [("loop.example/g00714/impl.monthLengths", laid_loop_example_g00714_impl_monthLengths)] }
def FnExactDayOfSaid : Prop := fnExactDayOfRow.holds Tryd.pinned (OpenSpec.ofChange fnExactDayOfSpec)

/-- ITS FALSE NEIGHBOUR: 'it returns false'. Refute it at one input. -/
def fnExactDayOfWrong : ChangeSpec := { name := "fnExactDayOf", vars := ["loop.example/g00714/impl.monthLengths"], fn := fun _ => fun
  | [d1, d2, d3, g1] => { results := [.lit (.bool false)], args := [d1, d2, d3], vars := [g1] }
  | _ => none }
def FnExactDayOfWrongFalsely : Prop := fnExactDayOfRow.holds Tryd.pinned (OpenSpec.ofChange fnExactDayOfWrong)

/-- 'laws.FnExactDateOf': WHATEVER THE INPUT: true; the input reads as it did. -/
def fnExactDateOfSpec : ChangeSpec := { name := "fnExactDateOf", vars := ["loop.example/g00714/impl.monthLengths"], fn := fun _ => fun
  | [d, g1] => { results := [.lit (.bool true)], args := [d], vars := [g1] }
  | _ => none }
def fnExactDateOfRow : OpenClaim := { program := "ytlpeadkkkmpccabdoor", sum := "d44003b109d81e5086b195c0f35b0c1eb031e577951c4e816accd45fbbdfe4eb", func := "loop.example/g00714/laws.FnExactDateOf", spec := "fnExactDateOf", named := ["loop.example/g00714/impl.monthLengths"], apart := false, laid := [("loop.example/g00714/impl.monthLengths", laid_loop_example_g00714_impl_monthLengths)] }
def FnExactDateOfSaid : Prop := fnExactDateOfRow.holds Tryd.pinned (OpenSpec.ofChange fnExactDateOfSpec)

/-- ITS FALSE NEIGHBOUR: 'it returns false'. Refute it at one input. -/
def fnExactDateOfWrong : ChangeSpec := { name := "fnExactDateOf", vars := ["loop.example/g00714/impl.monthLengths"], fn := fun _ => fun
  | [d, g1] => { results := [.lit (.bool false)], args := [d], vars := [g1] }
  | _ => none }
def FnExactDateOfWrongFalsely : Prop := fnExactDateOfRow.holds Tryd.pinned (OpenSpec.ofChange fnExactDateOfWrong)

/-- 'laws.FnExactDateText': WHATEVER THE INPUT: true; the input reads as it did. -/
def fnExactDateTextSpec : ChangeSpec := { name := "fnExactDateText", vars := ["loop.example/g00714/impl.monthLengths"], fn := fun _ => fun
  | [d, g1] => { results := [.lit (.bool true)], args := [d], vars := [g1] }
  | _ => none }
def fnExactDateTextRow : OpenClaim := { program := "ytlpeadkkkmpccabdoor", sum := "d44003b109d81e5086b195c0f35b0c1eb031e577951c4e816accd45fbbdfe4eb", func := "loop.example/g00714/laws.FnExactDateText", spec := "fnExactDateText", inPlace := ["internal/abi.NoEscape", "internal/bytealg.MakeNoZero"], named := ["loop.example/g00714/impl.monthLengths", "internal/strconv.uint64pow10", "math/bits.deBruijn32tab", "math/bits.deBruijn64tab"], apart := false, laid := [("math/bits.deBruijn32tab", laid_math_bits_deBruijn32tab), ("math/bits.deBruijn64tab", laid_math_bits_deBruijn64tab), ("internal/strconv.uint64pow10", laid_internal_strconv_uint64pow10), ("loop.example/g00714/impl.monthLengths", laid_loop_example_g00714_impl_monthLengths)] }
def FnExactDateTextSaid : Prop := fnExactDateTextRow.holds Tryd.pinned (OpenSpec.ofChange fnExactDateTextSpec)

/-- ITS FALSE NEIGHBOUR: 'it returns false'. Refute it at one input. -/
def fnExactDateTextWrong : ChangeSpec := { name := "fnExactDateText", vars := ["loop.example/g00714/impl.monthLengths"], fn := fun _ => fun
  | [d, g1] => { results := [.lit (.bool false)], args := [d], vars := [g1] }
  | _ => none }
def FnExactDateTextWrongFalsely : Prop := fnExactDateTextRow.holds Tryd.pinned (OpenSpec.ofChange fnExactDateTextWrong)

/-- 'laws.FnExactReadDate': WHATEVER THE INPUT: true; the input reads as it did. -/
def fnExactReadDateSpec : ChangeSpec := { name := "fnExactReadDate", vars := ["loop.example/g00714/impl.monthLengths"], fn := fun _ => fun
  | [d, g1] => { results := [.lit (.bool true)], args := [d], vars := [g1] }
  | _ => none }
def fnExactReadDateRow : OpenClaim := { program := "ytlpeadkkkmpccabdoor", sum := "d44003b109d81e5086b195c0f35b0c1eb031e577951c4e816accd45fbbdfe4eb", func := "loop.example/g00714/laws.FnExactReadDate", spec := "fnExactReadDate", named := ["loop.example/g00714/impl.monthLengths"], apart := false, laid := [("loop.example/g00714/impl.monthLengths", laid_loop_example_g00714_impl_monthLengths)] }
def FnExactReadDateSaid : Prop := fnExactReadDateRow.holds Tryd.pinned (OpenSpec.ofChange fnExactReadDateSpec)

/-- ITS FALSE NEIGHBOUR: 'it returns false'. Refute it at one input. -/
def fnExactReadDateWrong : ChangeSpec := { name := "fnExactReadDate", vars := ["loop.example/g00714/impl.monthLengths"], fn := fun _ => fun
  | [d, g1] => { results := [.lit (.bool false)], args := [d], vars := [g1] }
  | _ => none }
def FnExactReadDateWrongFalsely : Prop := fnExactReadDateRow.holds Tryd.pinned (OpenSpec.ofChange fnExactReadDateWrong)

/-- 'laws.FnExactMonthsOn': WHATEVER THE INPUT: true; the input reads as it did. -/
def fnExactMonthsOnSpec : ChangeSpec := { name := "fnExactMonthsOn", vars := ["loop.example/g00714/impl.monthLengths"], fn := fun _ => fun
  | [d1, d2, g1] => { results := [.lit (.bool true)], args := [d1, d2], vars := [g1] }
  | _ => none }
def fnExactMonthsOnRow : OpenClaim := { program := "ytlpeadkkkmpccabdoor", sum := "d44003b109d81e5086b195c0f35b0c1eb031e577951c4e816accd45fbbdfe4eb", func := "loop.example/g00714/laws.FnExactMonthsOn", spec := "fnExactMonthsOn", named := ["loop.example/g00714/impl.monthLengths"], apart := false, laid := [("loop.example/g00714/impl.monthLengths", laid_loop_example_g00714_impl_monthLengths)] }
def FnExactMonthsOnSaid : Prop := fnExactMonthsOnRow.holds Tryd.pinned (OpenSpec.ofChange fnExactMonthsOnSpec)

/-- ITS FALSE NEIGHBOUR: 'it returns false'. Refute it at one input. -/
def fnExactMonthsOnWrong : ChangeSpec := { name := "fnExactMonthsOn", vars := ["loop.example/g00714/impl.monthLengths"], fn := fun _ => fun
  | [d1, d2, g1] => { results := [.lit (.bool false)], args := [d1, d2], vars := [g1] }
  | _ => none }
def FnExactMonthsOnWrongFalsely : Prop := fnExactMonthsOnRow.holds Tryd.pinned (OpenSpec.ofChange fnExactMonthsOnWrong)

/-- 'laws.FnExactDueDays': WHATEVER THE INPUT: true; the input reads as it did. -/
def fnExactDueDaysSpec : ChangeSpec := { name := "fnExactDueDays", vars := ["loop.example/g00714/impl.monthLengths"], fn := fun _ => fun
  | [d1, d2, g1] => { results := [.lit (.bool true)], args := [d1, d2], vars := [g1] }
  | _ => none }
def fnExactDueDaysRow : OpenClaim := { program := "ytlpeadkkkmpccabdoor", sum := "d44003b109d81e5086b195c0f35b0c1eb031e577951c4e816accd45fbbdfe4eb", func := "loop.example/g00714/laws.FnExactDueDays", spec := "fnExactDueDays", named := ["loop.example/g00714/impl.monthLengths"], apart := false, laid := [("loop.example/g00714/impl.monthLengths", laid_loop_example_g00714_impl_monthLengths)] }
def FnExactDueDaysSaid : Prop := fnExactDueDaysRow.holds Tryd.pinned (OpenSpec.ofChange fnExactDueDaysSpec)

/-- ITS FALSE NEIGHBOUR: 'it returns false'. Refute it at one input. -/
def fnExactDueDaysWrong : ChangeSpec := { name := "fnExactDueDays", vars := ["loop.example/g00714/impl.monthLengths"], fn := fun _ => fun
  | [d1, d2, g1] => { results := [.lit (.bool false)], args := [d1, d2], vars := [g1] }
  | _ => none }
def FnExactDueDaysWrongFalsely : Prop := fnExactDueDaysRow.holds Tryd.pinned (OpenSpec.ofChange fnExactDueDaysWrong)

/- THE SECOND FORM. 'bulk': how many values and letters a reading holds, each counted each time it is reached (what is shared counts as often as it is met; a slice's spare places count too). A statement '..UptoSaid' is the law's where the arguments, and the package variables that the reading takes, are together of bulk at most 1048576: NARROWER than '..Said'. Prove '..Said' where nothing that the law and all that it calls make is longer than what came in: it says more and counts as full. Else prove '..UptoSaid'. A law counts once. -/
mutual
def uptoBulk {H : Type} : DataW H → Nat
  | .lit (.string bytes) => bytes.length + 1
  | .lit _ => 1
  | .nil => 1
  | .ptr d => uptoBulk d + 1
  | .slice elems spare => uptoBulkAll elems + uptoBulkAll spare + 1
  | .agg parts => uptoBulkAll parts + 1
  | .iface _ d => uptoBulk d + 1
  | .map entries => uptoBulkEntries entries + 1
  | .held _ => 1
def uptoBulkAll {H : Type} : List (DataW H) → Nat
  | [] => 0
  | d :: r => uptoBulk d + uptoBulkAll r
def uptoBulkEntries {H : Type} : List (Lit × DataW H) → Nat
  | [] => 0
  | x :: r => uptoBulkEntry x + uptoBulkEntries r
def uptoBulkEntry {H : Type} : Lit × DataW H → Nat
  | (.string bytes, d) => bytes.length + uptoBulk d + 1
  | (_, d) => uptoBulk d + 1
 end
def uptoSmall : (H : Type) → List (DataW H) → Bool := fun _ ds => decide (uptoBulkAll ds ≤ 1048576)
def OpenSpec.upto (s : _root_.Go.ChangeSpec) : _root_.Go.OpenSpec := { _root_.Go.OpenSpec.ofChange s with cond := some uptoSmall }

/-- 'laws.FnDates', WHERE WHAT IT READS IS OF BULK AT MOST 1048576: true; the input reads as it did. -/
def fnDatesUptoRow : OpenClaim := { program := "ytlpeadkkkmpccabdoor", sum := "d44003b109d81e5086b195c0f35b0c1eb031e577951c4e816accd45fbbdfe4eb", func := "loop.example/g00714/laws.FnDates", spec := "fnDates", inPlace := ["internal/abi.NoEscape", "internal/bytealg.MakeNoZero"], named := ["loop.example/g00714/impl.monthLengths", "internal/strconv.uint64pow10", "math/bits.deBruijn32tab", "math/bits.deBruijn64tab"], apart := false, laid := [("math/bits.deBruijn32tab", laid_math_bits_deBruijn32tab), ("math/bits.deBruijn64tab", laid_math_bits_deBruijn64tab), ("internal/strconv.uint64pow10", laid_internal_strconv_uint64pow10), ("loop.example/g00714/impl.monthLengths", laid_loop_example_g00714_impl_monthLengths)], narrowed := true }
def FnDatesUptoSaid : Prop := fnDatesUptoRow.holds Tryd.pinned (OpenSpec.upto fnDatesSpec)

/-- 'laws.FnDateOrder', WHERE WHAT IT READS IS OF BULK AT MOST 1048576: true; the input reads as it did. -/
def fnDateOrderUptoRow : OpenClaim := { program := "ytlpeadkkkmpccabdoor", sum := "d44003b109d81e5086b195c0f35b0c1eb031e577951c4e816accd45fbbdfe4eb", func := "loop.example/g00714/laws.FnDateOrder", spec := "fnDateOrder", inPlace := ["internal/abi.NoEscape", "internal/bytealg.MakeNoZero"], named := ["loop.example/g00714/impl.monthLengths", "internal/strconv.uint64pow10", "math/bits.deBruijn32tab", "math/bits.deBruijn64tab"], apart := false, laid := [("math/bits.deBruijn32tab", laid_math_bits_deBruijn32tab), ("math/bits.deBruijn64tab", laid_math_bits_deBruijn64tab), ("internal/strconv.uint64pow10", laid_internal_strconv_uint64pow10), ("loop.example/g00714/impl.monthLengths", laid_loop_example_g00714_impl_monthLengths)], narrowed := true }
def FnDateOrderUptoSaid : Prop := fnDateOrderUptoRow.holds Tryd.pinned (OpenSpec.upto fnDateOrderSpec)

/-- 'laws.FnLeap', WHERE WHAT IT READS IS OF BULK AT MOST 1048576: true; the input reads as it did. -/
def fnLeapUptoRow : OpenClaim := { program := "ytlpeadkkkmpccabdoor", sum := "d44003b109d81e5086b195c0f35b0c1eb031e577951c4e816accd45fbbdfe4eb", func := "loop.example/g00714/laws.FnLeap", spec := "fnLeap", named := ["loop.example/g00714/impl.monthLengths"], apart := false, laid := [("loop.example/g00714/impl.monthLengths", laid_loop_example_g00714_impl_monthLengths)], narrowed := true }
def FnLeapUptoSaid : Prop := fnLeapUptoRow.holds Tryd.pinned (OpenSpec.upto fnLeapSpec)

/-- 'laws.FnMonths', WHERE WHAT IT READS IS OF BULK AT MOST 1048576: true; the input reads as it did. -/
def fnMonthsUptoRow : OpenClaim := { program := "ytlpeadkkkmpccabdoor", sum := "d44003b109d81e5086b195c0f35b0c1eb031e577951c4e816accd45fbbdfe4eb", func := "loop.example/g00714/laws.FnMonths", spec := "fnMonths", named := ["loop.example/g00714/impl.monthLengths"], apart := false, laid := [("loop.example/g00714/impl.monthLengths", laid_loop_example_g00714_impl_monthLengths)], narrowed := true }
def FnMonthsUptoSaid : Prop := fnMonthsUptoRow.holds Tryd.pinned (OpenSpec.upto fnMonthsSpec)

/-- 'laws.FnDues', WHERE WHAT IT READS IS OF BULK AT MOST 1048576: true; the input reads as it did. -/
def fnDuesUptoRow : OpenClaim := { program := "ytlpeadkkkmpccabdoor", sum := "d44003b109d81e5086b195c0f35b0c1eb031e577951c4e816accd45fbbdfe4eb", func := "loop.example/g00714/laws.FnDues", spec := "fnDues", named := ["loop.example/g00714/impl.monthLengths"], apart := false, laid := [("loop.example/g00714/impl.monthLengths", laid_loop_example_g00714_impl_monthLengths)], narrowed := true }
def FnDuesUptoSaid : Prop := fnDuesUptoRow.holds Tryd.pinned (OpenSpec.upto fnDuesSpec)

/-- 'laws.FnExactDayOf', WHERE WHAT IT READS IS OF BULK AT MOST 1048576: true; the input reads as it did. -/
def fnExactDayOfUptoRow : OpenClaim := { program := "ytlpeadkkkmpccabdoor", sum := "d44003b109d81e5086b195c0f35b0c1eb031e577951c4e816accd45fbbdfe4eb", func := "loop.example/g00714/laws.FnExactDayOf", spec := "fnExactDayOf", named := ["loop.example/g00714/impl.monthLengths"], apart := false, laid := [("loop.example/g00714/impl.monthLengths", laid_loop_example_g00714_impl_monthLengths)], narrowed := true }
def FnExactDayOfUptoSaid : Prop := fnExactDayOfUptoRow.holds Tryd.pinned (OpenSpec.upto fnExactDayOfSpec)

/-- 'laws.FnExactDateOf', WHERE WHAT IT READS IS OF BULK AT MOST 1048576: true; the input reads as it did. -/
def fnExactDateOfUptoRow : OpenClaim := { program := "ytlpeadkkkmpccabdoor", sum := "d44003b109d81e5086b195c0f35b0c1eb031e577951c4e816accd45fbbdfe4eb", func := "loop.example/g00714/laws.FnExactDateOf", spec := "fnExactDateOf", named := ["loop.example/g00714/impl.monthLengths"], apart := false, laid := [("loop.example/g00714/impl.monthLengths", laid_loop_example_g00714_impl_monthLengths)], narrowed := true }
def FnExactDateOfUptoSaid : Prop := fnExactDateOfUptoRow.holds Tryd.pinned (OpenSpec.upto fnExactDateOfSpec)

/-- 'laws.FnExactDateText', WHERE WHAT IT READS IS OF BULK AT MOST 1048576: true; the input reads as it did. -/
def fnExactDateTextUptoRow : OpenClaim := { program := "ytlpeadkkkmpccabdoor", sum := "d44003b109d81e5086b195c0f35b0c1eb031e577951c4e816accd45fbbdfe4eb", func := "loop.example/g00714/laws.FnExactDateText", spec := "fnExactDateText", inPlace := ["internal/abi.NoEscape", "internal/bytealg.MakeNoZero"], named := ["loop.example/g00714/impl.monthLengths", "internal/strconv.uint64pow10", "math/bits.deBruijn32tab", "math/bits.deBruijn64tab"], apart := false, laid := [("math/bits.deBruijn32tab", laid_math_bits_deBruijn32tab), ("math/bits.deBruijn64tab", laid_math_bits_deBruijn64tab), ("internal/strconv.uint64pow10", laid_internal_strconv_uint64pow10), ("loop.example/g00714/impl.monthLengths", laid_loop_example_g00714_impl_monthLengths)], narrowed := true }
def FnExactDateTextUptoSaid : Prop := fnExactDateTextUptoRow.holds Tryd.pinned (OpenSpec.upto fnExactDateTextSpec)

/-- 'laws.FnExactReadDate', WHERE WHAT IT READS IS OF BULK AT MOST 1048576: true; the input reads as it did. -/
def fnExactReadDateUptoRow : OpenClaim := { program := "ytlpeadkkkmpccabdoor", sum := "d44003b109d81e5086b195c0f35b0c1eb031e577951c4e816accd45fbbdfe4eb", func := "loop.example/g00714/laws.FnExactReadDate", spec := "fnExactReadDate", named := ["loop.example/g00714/impl.monthLengths"], apart := false, laid := [("loop.example/g00714/impl.monthLengths", laid_loop_example_g00714_impl_monthLengths)], narrowed := true }
def FnExactReadDateUptoSaid : Prop := fnExactReadDateUptoRow.holds Tryd.pinned (OpenSpec.upto fnExactReadDateSpec)

/-- 'laws.FnExactMonthsOn', WHERE WHAT IT READS IS OF BULK AT MOST 1048576: true; the input reads as it did. -/
def fnExactMonthsOnUptoRow : OpenClaim := { program := "ytlpeadkkkmpccabdoor", sum := "d44003b109d81e5086b195c0f35b0c1eb031e577951c4e816accd45fbbdfe4eb", func := "loop.example/g00714/laws.FnExactMonthsOn", spec := "fnExactMonthsOn", named := ["loop.example/g00714/impl.monthLengths"], apart := false, laid := [("loop.example/g00714/impl.monthLengths", laid_loop_example_g00714_impl_monthLengths)], narrowed := true }
def FnExactMonthsOnUptoSaid : Prop := fnExactMonthsOnUptoRow.holds Tryd.pinned (OpenSpec.upto fnExactMonthsOnSpec)

/-- 'laws.FnExactDueDays', WHERE WHAT IT READS IS OF BULK AT MOST 1048576: true; the input reads as it did. -/
def fnExactDueDaysUptoRow : OpenClaim := { program := "ytlpeadkkkmpccabdoor", sum := "d44003b109d81e5086b195c0f35b0c1eb031e577951c4e816accd45fbbdfe4eb", func := "loop.example/g00714/laws.FnExactDueDays", spec := "fnExactDueDays", named := ["loop.example/g00714/impl.monthLengths"], apart := false, laid := [("loop.example/g00714/impl.monthLengths", laid_loop_example_g00714_impl_monthLengths)], narrowed := true }
def FnExactDueDaysUptoSaid : Prop := fnExactDueDaysUptoRow.holds Tryd.pinned (OpenSpec.upto fnExactDueDaysSpec)

end Rows
end Go.Proofs.YtlpeadkkkmpccabDoor
