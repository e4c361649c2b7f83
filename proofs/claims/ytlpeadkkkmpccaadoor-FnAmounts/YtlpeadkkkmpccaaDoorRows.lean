/-
  NARROWER THAN 'FOR EVERY INPUT', by the rows' own cells (each row's printed sentence says how): FnCodes: laid · FnAmounts: laid · FnExactCodeOf: laid · FnExactCurOf: laid · FnExactPlacesOf: laid · FnExactAmountText: laid · FnExactReadAmount: laid.
  DERIVED. THE GIVEN ROWS OF THIS SEAT. 7 by the template 'for every input the law returns true; each argument reads behind the call as it read before'; 0 by the template 'total and deterministic' (their statements: YtlpeadkkkmpccaaDoorTotals.lean).
  GIVEN WITH THE SEED: the statements are not yours to turn. If you find one false, say at which input.
  Laid BY PROGRAM, IN A SANDBOX (cutbox-rows.mjs): the forced cells as the released guide's own fill.sh prints them over the translation c1f0174c75311b01… (all of the seat's roots in one cut). By AI agents, Wed Nov 11 2026. No macro, syntax, notation, axiom, sorry.
-/
import Derived.Test.YtlpeadkkkmpccaaDoorChecked
import GoSem.Claim
import GoSem.ClaimJoined
import GoSem.ClaimMapViews
import Derived.JoinedTies
import Derived.KernelRfl
namespace Go.Proofs.YtlpeadkkkmpccaaDoor
/- THE CELL 'sum', in the pinned program and in every row, IS THE sha256 OF THE DUMP (.gsa) THAT YtlpeadkkkmpccaaDoorProg.lean LOADS. Nothing in Lean hashes anything: it is a label: what it is worth is what the hold of that sum in a sandbox is worth. -/
noncomputable def Tryd.pinned : Pinned := { name := "ytlpeadkkkmpccaadoor", sum := "c1f0174c75311b010772547f5d445247166e155889ddeee386bb6701aed1f1ee", checked := Tryd.checked }
namespace Rows
def none {H : Type} : Left H := { results := [], args := [] }

/- WHAT THE LISTED PACKAGE-LEVEL VARIABLES READ AS WHEN THE CALL BEGINS. Each datum BY PROGRAM (the guide's laid-datum.mjs) off the statement by which the dump's own 'gosem.cut.vars' lays the variable. In a bare row this is a premise. The card (YtlpeadkkkmpccaaDoorCards.lean) ties it to the program's text. -/
def laid_loop_example_g00714_impl_currencies {H : Type} : DataW H := .agg [.agg [.lit (.string [69, 85, 82]), .lit (.int .i64 2)], .agg [.lit (.string [85, 83, 68]), .lit (.int .i64 2)], .agg [.lit (.string [74, 80, 89]), .lit (.int .i64 0)], .agg [.lit (.string [71, 66, 80]), .lit (.int .i64 2)], .agg [.lit (.string [75, 87, 68]), .lit (.int .i64 3)], .agg [.lit (.string [67, 72, 70]), .lit (.int .i64 2)]]
def laid_math_bits_deBruijn32tab {H : Type} : DataW H := .agg [.lit (.int .u8 0), .lit (.int .u8 1), .lit (.int .u8 28), .lit (.int .u8 2), .lit (.int .u8 29), .lit (.int .u8 14), .lit (.int .u8 24), .lit (.int .u8 3), .lit (.int .u8 30), .lit (.int .u8 22), .lit (.int .u8 20), .lit (.int .u8 15), .lit (.int .u8 25), .lit (.int .u8 17), .lit (.int .u8 4), .lit (.int .u8 8), .lit (.int .u8 31), .lit (.int .u8 27), .lit (.int .u8 13), .lit (.int .u8 23), .lit (.int .u8 21), .lit (.int .u8 19), .lit (.int .u8 16), .lit (.int .u8 7), .lit (.int .u8 26), .lit (.int .u8 12), .lit (.int .u8 18), .lit (.int .u8 6), .lit (.int .u8 11), .lit (.int .u8 5), .lit (.int .u8 10), .lit (.int .u8 9)]
def laid_math_bits_deBruijn64tab {H : Type} : DataW H := .agg [.lit (.int .u8 0), .lit (.int .u8 1), .lit (.int .u8 56), .lit (.int .u8 2), .lit (.int .u8 57), .lit (.int .u8 49), .lit (.int .u8 28), .lit (.int .u8 3), .lit (.int .u8 61), .lit (.int .u8 58), .lit (.int .u8 42), .lit (.int .u8 50), .lit (.int .u8 38), .lit (.int .u8 29), .lit (.int .u8 17), .lit (.int .u8 4), .lit (.int .u8 62), .lit (.int .u8 47), .lit (.int .u8 59), .lit (.int .u8 36), .lit (.int .u8 45), .lit (.int .u8 43), .lit (.int .u8 51), .lit (.int .u8 22), .lit (.int .u8 53), .lit (.int .u8 39), .lit (.int .u8 33), .lit (.int .u8 30), .lit (.int .u8 24), .lit (.int .u8 18), .lit (.int .u8 12), .lit (.int .u8 5), .lit (.int .u8 63), .lit (.int .u8 55), .lit (.int .u8 48), .lit (.int .u8 27), .lit (.int .u8 60), .lit (.int .u8 41), .lit (.int .u8 37), .lit (.int .u8 16), .lit (.int .u8 46), .lit (.int .u8 35), .lit (.int .u8 44), .lit (.int .u8 21), .lit (.int .u8 52), .lit (.int .u8 32), .lit (.int .u8 23), .lit (.int .u8 11), .lit (.int .u8 54), .lit (.int .u8 26), .lit (.int .u8 40), .lit (.int .u8 15), .lit (.int .u8 34), .lit (.int .u8 20), .lit (.int .u8 31), .lit (.int .u8 10), .lit (.int .u8 25), .lit (.int .u8 14), .lit (.int .u8 19), .lit (.int .u8 9), .lit (.int .u8 13), .lit (.int .u8 8), .lit (.int .u8 7), .lit (.int .u8 6)]
def laid_internal_strconv_uint64pow10 {H : Type} : DataW H := .agg [.lit (.int .u64 1), .lit (.int .u64 10), .lit (.int .u64 100), .lit (.int .u64 1000), .lit (.int .u64 10000), .lit (.int .u64 100000), .lit (.int .u64 1000000), .lit (.int .u64 10000000), .lit (.int .u64 100000000), .lit (.int .u64 1000000000), .lit (.int .u64 10000000000), .lit (.int .u64 100000000000), .lit (.int .u64 1000000000000), .lit (.int .u64 10000000000000), .lit (.int .u64 100000000000000), .lit (.int .u64 1000000000000000), .lit (.int .u64 10000000000000000), .lit (.int .u64 100000000000000000), .lit (.int .u64 1000000000000000000), .lit (.int .u64 10000000000000000000)]

/-- 'laws.FnCodes': WHATEVER THE INPUT: true; the input reads as it did. -/
def fnCodesSpec : ChangeSpec := { name := "fnCodes", vars := ["loop.example/g00714/impl.currencies"], fn := fun _ => fun
  | [d1, d2, g1] => { results := [.lit (.bool true)], args := [d1, d2], vars := [g1] }
  | _ => none }
def fnCodesRow : OpenClaim := { program := "ytlpeadkkkmpccaadoor", sum := "c1f0174c75311b010772547f5d445247166e155889ddeee386bb6701aed1f1ee", func := "loop.example/g00714/laws.FnCodes", spec := "fnCodes", named := ["loop.example/g00714/impl.currencies"], apart := false, laid := [("loop.example/g00714/impl.currencies", laid_loop_example_g00714_impl_currencies)] }
def FnCodesSaid : Prop := fnCodesRow.holds Tryd.pinned (OpenSpec.ofChange fnCodesSpec)

/-- ITS FALSE NEIGHBOUR: 'it returns false'. Refute it at one input. -/
def fnCodesWrong : ChangeSpec := { name := "fnCodes", vars := ["loop.example/g00714/impl.currencies"], fn := fun _ => fun
  | [d1, d2, g1] => { results := [.lit (.bool false)], args := [d1, d2], vars := [g1] }
  | _ => none }
def FnCodesWrongFalsely : Prop := fnCodesRow.holds Tryd.pinned (OpenSpec.ofChange fnCodesWrong)

/-- 'laws.FnAmounts': WHATEVER THE INPUT: true; the input reads as it did. -/
def fnAmountsSpec : ChangeSpec := { name := "fnAmounts", vars := ["loop.example/g00714/impl.currencies"], fn := fun _ => fun
  | [d, g1] => { results := [.lit (.bool true)], args := [d], vars := [g1] }
  | _ => none }
def fnAmountsRow : OpenClaim := { program := "ytlpeadkkkmpccaadoor", sum := "c1f0174c75311b010772547f5d445247166e155889ddeee386bb6701aed1f1ee", func := "loop.example/g00714/laws.FnAmounts", spec := "fnAmounts", inPlace := ["internal/abi.NoEscape", "internal/bytealg.MakeNoZero", "internal/bytealg.IndexByteString", "internal/bytealg.IndexString"], named := ["loop.example/g00714/impl.currencies", "internal/strconv.uint64pow10", "math/bits.deBruijn32tab", "math/bits.deBruijn64tab", "internal/bytealg.MaxLen"], apart := false, laid := [("math/bits.deBruijn32tab", laid_math_bits_deBruijn32tab), ("math/bits.deBruijn64tab", laid_math_bits_deBruijn64tab), ("internal/strconv.uint64pow10", laid_internal_strconv_uint64pow10), ("loop.example/g00714/impl.currencies", laid_loop_example_g00714_impl_currencies)] }
def FnAmountsSaid : Prop := fnAmountsRow.holds Tryd.pinned (OpenSpec.ofChange fnAmountsSpec)

/-- ITS FALSE NEIGHBOUR: 'it returns false'. Refute it at one input. -/
def fnAmountsWrong : ChangeSpec := { name := "fnAmounts", vars := ["loop.example/g00714/impl.currencies"], fn := fun _ => fun
  | [d, g1] => { results := [.lit (.bool false)], args := [d], vars := [g1] }
  | _ => none }
def FnAmountsWrongFalsely : Prop := fnAmountsRow.holds Tryd.pinned (OpenSpec.ofChange fnAmountsWrong)

/-- 'laws.FnExactCodeOf': WHATEVER THE INPUT: true; the input reads as it did. -/
def fnExactCodeOfSpec : ChangeSpec := { name := "fnExactCodeOf", vars := ["loop.example/g00714/impl.currencies"], fn := fun _ => fun
  | [d, g1] => { results := [.lit (.bool true)], args := [d], vars := [g1] }
  | _ => none }
def fnExactCodeOfRow : OpenClaim := { program := "ytlpeadkkkmpccaadoor", sum := "c1f0174c75311b010772547f5d445247166e155889ddeee386bb6701aed1f1ee", func := "loop.example/g00714/laws.FnExactCodeOf", spec := "fnExactCodeOf", named := ["loop.example/g00714/impl.currencies"], apart := false, laid := [("loop.example/g00714/impl.currencies", laid_loop_example_g00714_impl_currencies)] }
def FnExactCodeOfSaid : Prop := fnExactCodeOfRow.holds Tryd.pinned (OpenSpec.ofChange fnExactCodeOfSpec)

/-- ITS FALSE NEIGHBOUR: 'it returns false'. Refute it at one input. -/
def fnExactCodeOfWrong : ChangeSpec := { name := "fnExactCodeOf", vars := ["loop.example/g00714/impl.currencies"], fn := fun _ => fun
  | [d, g1] => { results := [.lit (.bool false)], args := [d], vars := [g1] }
  | _ => none }
def FnExactCodeOfWrongFalsely : Prop := fnExactCodeOfRow.holds Tryd.pinned (OpenSpec.ofChange fnExactCodeOfWrong)

/-- 'laws.FnExactCurOf': WHATEVER THE INPUT: true; the input reads as it did. -/
def fnExactCurOfSpec : ChangeSpec := { name := "fnExactCurOf", vars := ["loop.example/g00714/impl.currencies"], fn := fun _ => fun
  | [d, g1] => { results := [.lit (.bool true)], args := [d], vars := [g1] }
  | _ => none }
def fnExactCurOfRow : OpenClaim := { program := "ytlpeadkkkmpccaadoor", sum := "c1f0174c75311b010772547f5d445247166e155889ddeee386bb6701aed1f1ee", func := "loop.example/g00714/laws.FnExactCurOf", spec := "fnExactCurOf", named := ["loop.example/g00714/impl.currencies"], apart := false, laid := [("loop.example/g00714/impl.currencies", laid_loop_example_g00714_impl_currencies)] }
def FnExactCurOfSaid : Prop := fnExactCurOfRow.holds Tryd.pinned (OpenSpec.ofChange fnExactCurOfSpec)

/-- ITS FALSE NEIGHBOUR: 'it returns false'. Refute it at one input. -/
def fnExactCurOfWrong : ChangeSpec := { name := "fnExactCurOf", vars := ["loop.example/g00714/impl.currencies"], fn := fun _ => fun
  | [d, g1] => { results := [.lit (.bool false)], args := [d], vars := [g1] }
  | _ => none }
def FnExactCurOfWrongFalsely : Prop := fnExactCurOfRow.holds Tryd.pinned (OpenSpec.ofChange fnExactCurOfWrong)

/-- 'laws.FnExactPlacesOf': WHATEVER THE INPUT: true; the input reads as it did. -/
def fnExactPlacesOfSpec : ChangeSpec := { name := "fnExactPlacesOf", vars := ["loop.example/g00714/impl.currencies"], fn := fun _ => fun
  | [d, g1] => { results := [.lit (.bool true)], args := [d], vars := [g1] }
  | _ => none }
def fnExactPlacesOfRow : OpenClaim := { program := "ytlpeadkkkmpccaadoor", sum := "c1f0174c75311b010772547f5d445247166e155889ddeee386bb6701aed1f1ee", func := "loop.example/g00714/laws.FnExactPlacesOf", spec := "fnExactPlacesOf", named := ["loop.example/g00714/impl.currencies"], apart := false, laid := [("loop.example/g00714/impl.currencies", laid_loop_example_g00714_impl_currencies)] }
def FnExactPlacesOfSaid : Prop := fnExactPlacesOfRow.holds Tryd.pinned (OpenSpec.ofChange fnExactPlacesOfSpec)

/-- ITS FALSE NEIGHBOUR: 'it returns false'. Refute it at one input. -/
def fnExactPlacesOfWrong : ChangeSpec := { name := "fnExactPlacesOf", vars := ["loop.example/g00714/impl.currencies"], fn := fun _ => fun
  | [d, g1] => { results := [.lit (.bool false)], args := [d], vars := [g1] }
  | _ => none }
def FnExactPlacesOfWrongFalsely : Prop := fnExactPlacesOfRow.holds Tryd.pinned (OpenSpec.ofChange fnExactPlacesOfWrong)

/-- 'laws.FnExactAmountText': WHATEVER THE INPUT: true; the input reads as it did. -/
def fnExactAmountTextSpec : ChangeSpec := { name := "fnExactAmountText", vars := ["loop.example/g00714/impl.currencies"], fn := fun _ => fun
  | [d1, d2, g1] => { results := [.lit (.bool true)], args := [d1, d2], vars := [g1] }
  | _ => none }
def fnExactAmountTextRow : OpenClaim := { program := "ytlpeadkkkmpccaadoor", sum := "c1f0174c75311b010772547f5d445247166e155889ddeee386bb6701aed1f1ee", func := "loop.example/g00714/laws.FnExactAmountText", spec := "fnExactAmountText", inPlace := ["internal/abi.NoEscape", "internal/bytealg.MakeNoZero"], named := ["loop.example/g00714/impl.currencies", "internal/strconv.uint64pow10", "math/bits.deBruijn32tab", "math/bits.deBruijn64tab"], apart := false, laid := [("math/bits.deBruijn32tab", laid_math_bits_deBruijn32tab), ("math/bits.deBruijn64tab", laid_math_bits_deBruijn64tab), ("internal/strconv.uint64pow10", laid_internal_strconv_uint64pow10), ("loop.example/g00714/impl.currencies", laid_loop_example_g00714_impl_currencies)] }
def FnExactAmountTextSaid : Prop := fnExactAmountTextRow.holds Tryd.pinned (OpenSpec.ofChange fnExactAmountTextSpec)

/-- ITS FALSE NEIGHBOUR: 'it returns false'. Refute it at one input. -/
def fnExactAmountTextWrong : ChangeSpec := { name := "fnExactAmountText", vars := ["loop.example/g00714/impl.currencies"], fn := fun _ => fun
  | [d1, d2, g1] => { results := [.lit (.bool false)], args := [d1, d2], vars := [g1] }
  | _ => none }
def FnExactAmountTextWrongFalsely : Prop := fnExactAmountTextRow.holds Tryd.pinned (OpenSpec.ofChange fnExactAmountTextWrong)

/-- 'laws.FnExactReadAmount': WHATEVER THE INPUT: true; the input reads as it did. -/
def fnExactReadAmountSpec : ChangeSpec := { name := "fnExactReadAmount", vars := ["loop.example/g00714/impl.currencies"], fn := fun _ => fun
  | [d1, d2, g1] => { results := [.lit (.bool true)], args := [d1, d2], vars := [g1] }
  | _ => none }
def fnExactReadAmountRow : OpenClaim := { program := "ytlpeadkkkmpccaadoor", sum := "c1f0174c75311b010772547f5d445247166e155889ddeee386bb6701aed1f1ee", func := "loop.example/g00714/laws.FnExactReadAmount", spec := "fnExactReadAmount", inPlace := ["internal/bytealg.IndexByteString", "internal/bytealg.IndexString", "internal/abi.NoEscape", "internal/bytealg.MakeNoZero"], named := ["internal/bytealg.MaxLen", "loop.example/g00714/impl.currencies", "internal/strconv.uint64pow10", "math/bits.deBruijn32tab", "math/bits.deBruijn64tab"], apart := false, laid := [("math/bits.deBruijn32tab", laid_math_bits_deBruijn32tab), ("math/bits.deBruijn64tab", laid_math_bits_deBruijn64tab), ("internal/strconv.uint64pow10", laid_internal_strconv_uint64pow10), ("loop.example/g00714/impl.currencies", laid_loop_example_g00714_impl_currencies)] }
def FnExactReadAmountSaid : Prop := fnExactReadAmountRow.holds Tryd.pinned (OpenSpec.ofChange fnExactReadAmountSpec)

/-- ITS FALSE NEIGHBOUR: 'it returns false'. Refute it at one input. -/
def fnExactReadAmountWrong : ChangeSpec := { name := "fnExactReadAmount", vars := ["loop.example/g00714/impl.currencies"], fn := fun _ => fun
  | [d1, d2, g1] => { results := [.lit (.bool false)], args := [d1, d2], vars := [g1] }
  | _ => none }
def FnExactReadAmountWrongFalsely : Prop := fnExactReadAmountRow.holds Tryd.pinned (OpenSpec.ofChange fnExactReadAmountWrong)

/- THE SECOND FORM. 'bulk': how many values and letters a reading holds, each counted each time it is reached (what is shared counts as often as it is met; a slice's spare places count too). A statement '..UptoSaid' is the law's where the arguments, and the package variables that the reading takes, are together of bulk at most 1048576: NARROWER than '..Said'. Prove '..Said' where nothing that the law and all that it calls make is longer than what came in: it says more and counts as full. Else prove '..UptoSaid'. A law counts once. -/
mutual
def uptoBulk {H : Type} : DataW H → Nat
  | .lit (.string bytes) => bytes.length + 1
  | .lit _ => 1
  | .nil => 1
  | .ptr d => uptoBulk d + 1
  | .slice elems spare => uptoBulkAll elems + uptoBulkAll spare + 1
  | .agg parts => uptoBulkAll parts + 1
  | .iface _ d => uptoBulk d + 1
  | .map entries => uptoBulkEntries entries + 1
  | .held _ => 1
def uptoBulkAll {H : Type} : List (DataW H) → Nat
  | [] => 0
  | d :: r => uptoBulk d + uptoBulkAll r
def uptoBulkEntries {H : Type} : List (Lit × DataW H) → Nat
  | [] => 0
  | x :: r => uptoBulkEntry x + uptoBulkEntries r
def uptoBulkEntry {H : Type} : Lit × DataW H → Nat
  | (.string bytes, d) => bytes.length + uptoBulk d + 1
  | (_, d) => uptoBulk d + 1
 end
def uptoSmall : (H : Type) → List (DataW H) → Bool := fun _ ds => decide (uptoBulkAll ds ≤ 1048576)
def OpenSpec.upto (s : _root_.Go.ChangeSpec) : _root_.Go.OpenSpec := { _root_.Go.OpenSpec.ofChange s with cond := some uptoSmall }

/-- 'laws.FnCodes', WHERE WHAT IT READS IS OF BULK AT MOST 1048576: true; the input reads as it did. -/
def fnCodesUptoRow : OpenClaim := { program := "ytlpeadkkkmpccaadoor", sum := "c1f0174c75311b010772547f5d445247166e155889ddeee386bb6701aed1f1ee", func := "loop.example/g00714/laws.FnCodes", spec := "fnCodes", named := ["loop.example/g00714/impl.currencies"], apart := false, laid := [("loop.example/g00714/impl.currencies", laid_loop_example_g00714_impl_currencies)], narrowed := true }
def FnCodesUptoSaid : Prop := fnCodesUptoRow.holds Tryd.pinned (OpenSpec.upto fnCodesSpec)

/-- 'laws.FnAmounts', WHERE WHAT IT READS IS OF BULK AT MOST 1048576: true; the input reads as it did. -/
def fnAmountsUptoRow : OpenClaim := { program := "ytlpeadkkkmpccaadoor", sum := "c1f0174c75311b010772547f5d445247166e155889ddeee386bb6701aed1f1ee", func := "loop.example/g00714/laws.FnAmounts", spec := "fnAmounts", inPlace := ["internal/abi.NoEscape", "internal/bytealg.MakeNoZero", "internal/bytealg.IndexByteString", "internal/bytealg.IndexString"], named := ["loop.example/g00714/impl.currencies", "internal/strconv.uint64pow10", "math/bits.deBruijn32tab", "math/bits.deBruijn64tab", "internal/bytealg.MaxLen"], apart := false, laid := [("math/bits.deBruijn32tab", laid_math_bits_deBruijn32tab), ("math/bits.deBruijn64tab", laid_math_bits_deBruijn64tab), ("internal/strconv.uint64pow10", laid_internal_strconv_uint64pow10), ("loop.example/g00714/impl.currencies", laid_loop_example_g00714_impl_currencies)], narrowed := true }
def FnAmountsUptoSaid : Prop := fnAmountsUptoRow.holds Tryd.pinned (OpenSpec.upto fnAmountsSpec)

/-- 'laws.FnExactCodeOf', WHERE WHAT IT READS IS OF BULK AT MOST 1048576: true; the input reads as it did. -/
def fnExactCodeOfUptoRow : OpenClaim := { program := "ytlpeadkkkmpccaadoor", sum := "c1f0174c75311b010772547f5d445247166e155889ddeee386bb6701aed1f1ee", func := "loop.example/g00714/laws.FnExactCodeOf", spec := "fnExactCodeOf", named := ["loop.example/g00714/impl.currencies"], apart := false, laid := [("loop.example/g00714/impl.currencies", laid_loop_example_g00714_impl_currencies)], narrowed := true }
def FnExactCodeOfUptoSaid : Prop := fnExactCodeOfUptoRow.holds Tryd.pinned (OpenSpec.upto fnExactCodeOfSpec)

/-- 'laws.FnExactCurOf', WHERE WHAT IT READS IS OF BULK AT MOST 1048576: true; the input reads as it did. -/
def fnExactCurOfUptoRow : OpenClaim := { program := "ytlpeadkkkmpccaadoor", sum := "c1f0174c75311b010772547f5d445247166e155889ddeee386bb6701aed1f1ee", func := "loop.example/g00714/laws.FnExactCurOf", spec := "fnExactCurOf", named := ["loop.example/g00714/impl.currencies"], apart := false, laid := [("loop.example/g00714/impl.currencies", laid_loop_example_g00714_impl_currencies)], narrowed := true }
def FnExactCurOfUptoSaid : Prop := fnExactCurOfUptoRow.holds Tryd.pinned (OpenSpec.upto fnExactCurOfSpec)

/-- 'laws.FnExactPlacesOf', WHERE WHAT IT READS IS OF BULK AT MOST 1048576: true; the input reads as it did. -/
def fnExactPlacesOfUptoRow : OpenClaim := { program := "ytlpeadkkkmpccaadoor", sum := "c1f0174c75311b010772547f5d445247166e155889ddeee386bb6701aed1f1ee", func := "loop.example/g00714/laws.FnExactPlacesOf", spec := "fnExactPlacesOf", named := ["loop.example/g00714/impl.currencies"], apart := false, laid := [("loop.example/g00714/impl.currencies", laid_loop_example_g00714_impl_currencies)], narrowed := true }
def FnExactPlacesOfUptoSaid : Prop := fnExactPlacesOfUptoRow.holds Tryd.pinned (OpenSpec.upto fnExactPlacesOfSpec)

/-- 'laws.FnExactAmountText', WHERE WHAT IT READS IS OF BULK AT MOST 1048576: true; the input reads as it did. -/
def fnExactAmountTextUptoRow : OpenClaim := { program := "ytlpeadkkkmpccaadoor", sum := "c1f0174c75311b010772547f5d445247166e155889ddeee386bb6701aed1f1ee", func := "loop.example/g00714/laws.FnExactAmountText", spec := "fnExactAmountText", inPlace := ["internal/abi.NoEscape", "internal/bytealg.MakeNoZero"], named := ["loop.example/g00714/impl.currencies", "internal/strconv.uint64pow10", "math/bits.deBruijn32tab", "math/bits.deBruijn64tab"], apart := false, laid := [("math/bits.deBruijn32tab", laid_math_bits_deBruijn32tab), ("math/bits.deBruijn64tab", laid_math_bits_deBruijn64tab), ("internal/strconv.uint64pow10", laid_internal_strconv_uint64pow10), ("loop.example/g00714/impl.currencies", laid_loop_example_g00714_impl_currencies)], narrowed := true }
def FnExactAmountTextUptoSaid : Prop := fnExactAmountTextUptoRow.holds Tryd.pinned (OpenSpec.upto fnExactAmountTextSpec)

/-- 'laws.FnExactReadAmount', WHERE WHAT IT READS IS OF BULK AT MOST 1048576: true; the input reads as it did. -/
def fnExactReadAmountUptoRow : OpenClaim := { program := "ytlpeadkkkmpccaadoor", sum := "c1f0174c75311b010772547f5d445247166e155889ddeee386bb6701aed1f1ee", func := "loop.example/g00714/laws.FnExactReadAmount", spec := "fnExactReadAmount", inPlace := ["internal/bytealg.IndexByteString", "internal/bytealg.IndexString", "internal/abi.NoEscape", "internal/bytealg.MakeNoZero"], named := ["internal/bytealg.MaxLen", "loop.example/g00714/impl.currencies", "internal/strconv.uint64pow10", "math/bits.deBruijn32tab", "math/bits.deBruijn64tab"], apart := false, laid := [("math/bits.deBruijn32tab", laid_math_bits_deBruijn32tab), ("math/bits.deBruijn64tab", laid_math_bits_deBruijn64tab), ("internal/strconv.uint64pow10", laid_internal_strconv_uint64pow10), ("loop.example/g00714/impl.currencies", laid_loop_example_g00714_impl_currencies)], narrowed := true }
def FnExactReadAmountUptoSaid : Prop := fnExactReadAmountUptoRow.holds Tryd.pinned (OpenSpec.upto fnExactReadAmountSpec)

end Rows
end Go.Proofs.YtlpeadkkkmpccaaDoor
