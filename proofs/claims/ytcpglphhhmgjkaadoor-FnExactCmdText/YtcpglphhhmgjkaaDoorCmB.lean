/-
  Plain helpers of this seat's proofs: the landed numbersOk at a rate, one way. Conditions: none.
-/
import Derived.Test.YtcpglphhhmgjkaaDoorCmf
import Derived.Deep.QuietTactic
import Derived.BigQuiet
namespace Go.Proofs.YtcpglphhhmgjkaaDoor.cm
open Go.ChangeShapes Go.WideShapes Go.ChangeAt Go.RowKit
open gen
open four (F4)
set_option maxRecDepth 100000 in
set_option maxHeartbeats 8000000 in
theorem two_B (w : World) (g : Nat) (a b : Int) (y0 : w.cell? ⟨g, 0, none⟩ = some (.int .i64 2)) (y2 : w.cell? ⟨g, 2, none⟩ = some (.int .i64 a)) (y3 : w.cell? ⟨g, 3, none⟩ = some (.int .i64 b)) (d0 : ∀ W, Calls Tryd.prog 56 #[.int .i64 a] W fun e w' => e = .returned (.bool true) ∧ w' = W) (d1 : ∀ W, Calls Tryd.prog 56 #[.int .i64 b] W fun e w' => e = .returned (.bool false) ∧ w' = W) :
    Calls Tryd.prog 29 #[.pointer (some ⟨g, 0, none⟩)] w fun e w' => e = .returned (.bool false) ∧ Below w.heap.size w w' := by
  go_enter Tryd.func29, Tryd.ntmps29
  go_wp2_with fail
  try simp only [List.append_eq, List.cons_append, List.nil_append]
  go_quiet (first | (go_at_call 56; exact Calls.quiet_of_same (d0 _)) | (go_at_call 56; exact Calls.quiet_of_same (d1 _)))
  go_wp2
  go_ret
  exact ⟨by first | rfl | (simp [*]), (show Grew w (w.drewN _) from ⟨_, #[], by rw [Go.Sort.grow_empty]⟩).below⟩
end Go.Proofs.YtcpglphhhmgjkaaDoor.cm
