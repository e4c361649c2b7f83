/-
  Plain helpers of this seat's proofs: the contract of the function that compares rates. Conditions: none.
-/
import Derived.Test.YtnkdjnfbllkgiabFive
namespace Go.Proofs.Ytnkdjnfbllkgiab.five
open Go.ChangeShapes Go.WideShapes Go.ChangeAt Go.RowKit
open led (F5 z5)
set_option maxHeartbeats 1000000 in
theorem eqElT (x : F5) (w : World) : Calls Try.prog 21 #[.agg #[.int .i64 x.1, .int .i64 x.2.1, .int .i64 x.2.2.1, .int .i64 x.2.2.2.1, .int .i64 x.2.2.2.2], .agg #[.int .i64 x.1, .int .i64 x.2.1, .int .i64 x.2.2.1, .int .i64 x.2.2.2.1, .int .i64 x.2.2.2.2]] w fun e w' => e = .returned (.bool true) ∧ Below w.heap.size w w' := by
  obtain ⟨a, b, c, d, f⟩ := x
  dsimp only
  go_enter Try.func21, Try.ntmps21
  go_wp2
  go_ret
  exact ⟨rfl, bAl (bAl (Below.refl _ _) (Nat.le_refl _) _) (Nat.le_refl _) _⟩
end Go.Proofs.Ytnkdjnfbllkgiab.five
