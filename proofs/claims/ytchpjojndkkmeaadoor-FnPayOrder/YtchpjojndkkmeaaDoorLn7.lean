/-
  Plain helpers of this seat's proofs: lengths of what a change of a plan answers; four arguments. Conditions: none.
-/
import Derived.Test.YtchpjojndkkmeaaDoorOut
namespace Go.Proofs.YtchpjojndkkmeaaDoor.base
open Go.ChangeShapes Go.WideShapes Go.ChangeAt Go.RowKit
open seven (F7 zz)
theorem ltL_len (l : List F7) (d f g : Int) : (ltL l d f g).length ≤ l.length := by
  unfold ltL
  split
  · rw [pl.ml_len]; exact Nat.le_refl _
  · simp
end Go.Proofs.YtchpjojndkkmeaaDoor.base
