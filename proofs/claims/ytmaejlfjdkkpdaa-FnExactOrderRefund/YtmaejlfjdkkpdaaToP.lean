/-
  Plain helpers of this seat's proofs: the contract of the function that copies a Part. Conditions: none.
-/
import Derived.Test.YtmaejlfjdkkpdaaSev
namespace Go.Proofs.Ytmaejlfjdkkpdaa.seven
open Go.ChangeShapes Go.WideShapes Go.ChangeAt Go.RowKit
open gen
set_option maxHeartbeats 1000000 in
theorem toEl (x : F7) (w : World) : Calls Try.prog 121 #[.agg #[.int .i64 x.1, .int .i64 x.2.1, .int .i64 x.2.2.1, .int .i64 x.2.2.2.1, .int .i64 x.2.2.2.2.1, .int .i64 x.2.2.2.2.2.1, .int .i64 x.2.2.2.2.2.2]] w fun e w' => e = .returned (.agg #[.int .i64 x.1, .int .i64 x.2.1, .int .i64 x.2.2.1, .int .i64 x.2.2.2.1, .int .i64 x.2.2.2.2.1, .int .i64 x.2.2.2.2.2.1, .int .i64 x.2.2.2.2.2.2]) ∧ Below w.heap.size w w' := by
  obtain ⟨a, b, c, d, f, g, h⟩ := x
  dsimp only
  go_enter Try.func121, Try.ntmps121
  go_wp2
  refine bodyPost_ret (v := .agg #[.int .i64 a, .int .i64 b, .int .i64 c, .int .i64 d, .int .i64 f, .int .i64 g, .int .i64 h]) (by simp [results, Try.results121, go_sem]) rfl ⟨rfl, ?_⟩
  exact bAl (bAl (bAl (Below.refl _ _) (Nat.le_refl _) _) (Nat.le_refl _) _) (Nat.le_refl _) _
end Go.Proofs.Ytmaejlfjdkkpdaa.seven
