/-
  Plain helpers of this seat's proofs: valid batches. Conditions: none.
-/
import Derived.Test.YtpogfdeioibkdaaGreatDoorPst
import Derived.Test.YtpogfdeioibkdaaGreatDoorCopy
import Derived.StillTailTactics
namespace Go.Proofs.YtpogfdeioibkdaaGreatDoor.base
open Go.ChangeShapes Go.WideShapes Go.ChangeAt Go.RowKit
open led (F5 z5 nn)
open five (Row At)
theorem infoI : (Tryz.prog.info? 2).map (fun i => (i.zero, i.size, i.bytes)) = some (some (.int .i64 0), 1, 8) := by kernel_rfl
noncomputable def bv (l : List F5) : Bool := @decide (led.BV l) (Classical.propDecidable _)
theorem bv_iff {l : List F5} : bv l = true ↔ led.BV l := by unfold bv; simp
theorem bv_not {l : List F5} : bv l = false ↔ ¬ led.BV l := by unfold bv; simp
/-- The first k posts of a batch are valid. -/
def Bk (l : List F5) (k : Nat) : Prop := ∀ i, i < k → led.plok (l.getD i z5) = true ∧ led.inR (nn (l.getD i z5)) (-1000000000000) 1000000000000 = true
end Go.Proofs.YtpogfdeioibkdaaGreatDoor.base
