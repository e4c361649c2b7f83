/-
  Plain helpers of this seat's proofs: copies of a slice of Parts. Conditions: none.
-/
import Derived.Test.YtchpjojndkkmeaaDoorToP
namespace Go.Proofs.YtchpjojndkkmeaaDoor.seven
open Go.ChangeShapes Go.WideShapes Go.ChangeAt Go.RowKit
open gen
theorem infoE : (Tryd.prog.info? 35).map (fun i => (i.zero, i.size, i.bytes)) = some (some (.agg #[.int .i64 0, .int .i64 0, .int .i64 0, .int .i64 0, .int .i64 0, .int .i64 0, .int .i64 0]), 7, 56) := by kernel_rfl
/-- A copy in a block of its own. -/
def Copied (w : World) (l : List F7) (e : Ending) (w' : World) : Prop := ∃ g, e = .returned (.slice (some ⟨g, 0, none⟩) l.length l.length) ∧ Row w' (some ⟨g, 0, none⟩) l.length g l ∧ w.heap.size ≤ g ∧ g < w'.heap.size ∧ Below w.heap.size w w'
end Go.Proofs.YtchpjojndkkmeaaDoor.seven
