/-
  Plain helpers of this seat's proofs: copies of a slice of fives. Conditions: none.
-/
import Derived.Test.YtpogfdeioibkdaaGreatDoorToA
namespace Go.Proofs.YtpogfdeioibkdaaGreatDoor.five
open Go.ChangeShapes Go.WideShapes Go.ChangeAt Go.RowKit
open led (F5 z5)
theorem infoE : (Tryz.prog.info? 36).map (fun i => (i.zero, i.size, i.bytes)) = some (some (.agg #[.int .i64 0, .int .i64 0, .int .i64 0, .int .i64 0, .int .i64 0]), 5, 40) := by kernel_rfl

/-- A copy in a block of its own. -/
def Copied (w : World) (l : List F5) (e : Ending) (w' : World) : Prop := ∃ g, e = .returned (.slice (some ⟨g, 0, none⟩) l.length l.length) ∧ Row w' (some ⟨g, 0, none⟩) l.length g l ∧ w.heap.size ≤ g ∧ g < w'.heap.size ∧ Below w.heap.size w w'

end Go.Proofs.YtpogfdeioibkdaaGreatDoor.five
