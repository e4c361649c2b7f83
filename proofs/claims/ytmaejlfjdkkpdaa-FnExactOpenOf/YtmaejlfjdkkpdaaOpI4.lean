/-
  Plain helpers of this seat's proofs: arguments that are slices of Items, as they came in. Conditions: none.
-/
import Derived.Test.YtmaejlfjdkkpdaaFou
namespace Go.Proofs.Ytmaejlfjdkkpdaa.four
open Go.ChangeShapes Go.WideShapes Go.ChangeAt Go.RowKit
open gen
section
variable {H : Type} {enc : TypeId × Value → H} {w : World} {base base' : Nat} {spare : Nat → Bool} {held : Bool}
theorem c2 : Try.prog.cellsOf 2 = 1 := by kernel_rfl
theorem cP : Try.prog.cellsOf 103 = 4 := by kernel_rfl
theorem part_cells {fuel : Nat} {cs : List Value} {x : DataW H × List MemPlace} (h : DataW.trod enc Try.prog w base spare held fuel 103 cs = some x) : ∃ y : F4, cs = [.int .i64 y.1, .int .i64 y.2.1, .int .i64 y.2.2.1, .int .i64 y.2.2.2] ∧ Wf y :=
  openN Try.underlying103 Try.underlying2 Try.underlying2 Try.underlying2 Try.underlying2 cP c2 c2 c2 c2 rfl rfl rfl rfl h
set_option maxRecDepth 100000 in
theorem open_parts {v : Value} {d : DataW H} {p : List MemPlace} (hok : Value.okWide Try.prog w .any base 22 v) (h : DataW.Trod enc Try.prog w 0 (fun _ => true) true 22 v d p) :
    ∃ a cap, ∃ l : List F4, v = .slice a l.length cap ∧ l.length ≤ maxLen ∧ Inp w a l ∧ ∀ x ∈ l, Wf x := open_rows Try.underlying22 cP part_cells hok h
end
end Go.Proofs.Ytmaejlfjdkkpdaa.four
