/-
  Plain helpers of this seat's proofs: places of posts whose numbers have 64 bits. Conditions: none.
-/
import Derived.Test.YtpogfdeioibkdaaGreatDoorFive
import Derived.Test.YtpogfdeioibkdaaGreatDoorBal
namespace Go.Proofs.YtpogfdeioibkdaaGreatDoor.mp
open Go.ChangeShapes Go.WideShapes Go.ChangeAt Go.RowKit
open led (F5 z5 nn wn same at4 addE Apart)
/-- The four numbers of a place are 64-bit numbers. -/
structure W4 (x : F5) : Prop where
  h0 : (Lit.int .i64 x.1).wf = true
  h1 : (Lit.int .i64 x.2.1).wf = true
  h2 : (Lit.int .i64 x.2.2.1).wf = true
  h3 : (Lit.int .i64 x.2.2.2.1).wf = true
theorem W4.of_in {x : F5} (h : led.In x) : W4 x := by
  obtain ⟨a, b, c, d⟩ := h
  exact ⟨WalkArith.wf_i64 (by omega), WalkArith.wf_i64 (by omega), WalkArith.wf_i64 (by omega), WalkArith.wf_i64 (by omega)⟩
theorem W4.same {x y : F5} (h : W4 x) (e : same y x) : W4 y := by
  obtain ⟨e1, e2, e3, e4⟩ := e
  exact ⟨by rw [e1]; exact h.h0, by rw [e2]; exact h.h1, by rw [e3]; exact h.h2, by rw [e4]; exact h.h3⟩
end Go.Proofs.YtpogfdeioibkdaaGreatDoor.mp
