/-
  Plain helpers of this seat's proofs: the contract of the function that copies a Item. Conditions: none.
-/
import Derived.Test.YtcpglphhhmgjkaaDoorFou
namespace Go.Proofs.YtcpglphhhmgjkaaDoor.four
open Go.ChangeShapes Go.WideShapes Go.ChangeAt Go.RowKit
open gen
set_option maxHeartbeats 1000000 in
theorem toEl (x : F4) (w : World) : Calls Tryd.prog 54 #[.agg #[.int .i64 x.1, .int .i64 x.2.1, .int .i64 x.2.2.1, .int .i64 x.2.2.2]] w fun e w' => e = .returned (.agg #[.int .i64 x.1, .int .i64 x.2.1, .int .i64 x.2.2.1, .int .i64 x.2.2.2]) ∧ Below w.heap.size w w' := by
  obtain ⟨a, b, c, d⟩ := x
  dsimp only
  go_enter Tryd.func54, Tryd.ntmps54
  go_wp2
  refine bodyPost_ret (v := .agg #[.int .i64 a, .int .i64 b, .int .i64 c, .int .i64 d]) (by simp [results, Tryd.results54, go_sem]) rfl ⟨rfl, ?_⟩
  exact bAl (bAl (bAl (Below.refl _ _) (Nat.le_refl _) _) (Nat.le_refl _) _) (Nat.le_refl _) _
end Go.Proofs.YtcpglphhhmgjkaaDoor.four
