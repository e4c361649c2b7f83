/-
  Plain helpers of this seat's proofs: arguments that are slices of Items, as they came in. Conditions: none.
-/
import Derived.Test.YtcpglphhhmgjkaaDoorFou
namespace Go.Proofs.YtcpglphhhmgjkaaDoor.four
open Go.ChangeShapes Go.WideShapes Go.ChangeAt Go.RowKit
open gen
section
variable {H : Type} {enc : TypeId × Value → H} {w : World} {base base' : Nat} {spare : Nat → Bool} {held : Bool}
theorem c2 : Tryd.prog.cellsOf 2 = 1 := by kernel_rfl
theorem cP : Tryd.prog.cellsOf 81 = 4 := by kernel_rfl
theorem part_cells {fuel : Nat} {cs : List Value} {x : DataW H × List MemPlace} (h : DataW.trod enc Tryd.prog w base spare held fuel 81 cs = some x) : ∃ y : F4, cs = [.int .i64 y.1, .int .i64 y.2.1, .int .i64 y.2.2.1, .int .i64 y.2.2.2] ∧ Wf y :=
  openN Tryd.underlying81 Tryd.underlying2 Tryd.underlying2 Tryd.underlying2 Tryd.underlying2 cP c2 c2 c2 c2 rfl rfl rfl rfl h
set_option maxRecDepth 100000 in
theorem open_parts {v : Value} {d : DataW H} {p : List MemPlace} (hok : Value.okWide Tryd.prog w .any base 22 v) (h : DataW.Trod enc Tryd.prog w 0 (fun _ => true) true 22 v d p) :
    ∃ a cap, ∃ l : List F4, v = .slice a l.length cap ∧ l.length ≤ maxLen ∧ Inp w a l ∧ ∀ x ∈ l, Wf x := open_rows Tryd.underlying22 cP part_cells hok h
end
end Go.Proofs.YtcpglphhhmgjkaaDoor.four
