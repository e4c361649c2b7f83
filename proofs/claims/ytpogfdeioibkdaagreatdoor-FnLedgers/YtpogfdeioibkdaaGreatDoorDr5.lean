/-
  Plain helpers of this seat's proofs: the contract of the function that draws money. Conditions: none.
-/
import Derived.Test.YtpogfdeioibkdaaGreatDoorJDr
namespace Go.Proofs.YtpogfdeioibkdaaGreatDoor.draw
open Go.ChangeShapes Go.WideShapes Go.ChangeAt Go.RowKit
set_option maxHeartbeats 1000000 in
theorem money (w : World) (b len : Nat) (r : Rd w b len) : Calls Tryz.prog 71 #[.pointer (some ⟨b, 0, none⟩)] w (GotZ w b len) := by
  have R := Lib.hid r
  clear r
  go_enter Tryz.func71, Tryz.ntmps71
  go_wp2_with fail
  refine (below w b len 6 R.out (by omega) (by omega)).mono ?_
  rintro e w1 ⟨x, x1, x2, rfl, b1, r1⟩
  have R1 := Lib.hid r1
  have B1 := Lib.hid b1
  clear r1 b1
  obtain rfl | rfl | hx : x = 0 ∨ x = 1 ∨ ¬ (x = 0 ∨ x = 1) := by omega
  · go_wp2_with fail
    refine (near w1 b len 0 1000000000000 R1.out (by omega) (by omega) (by omega)).mono ?_
    rintro e w2 ⟨v, v1, rfl, b2, r2⟩
    have R2 := Lib.hid r2
    have B2 := Lib.hid (B1.out.trans b2)
    clear r2 b2 v1
    go_wp2
    go_ret
    exact ⟨v, rfl, B2.out, R2.out⟩
  · go_wp2_with fail
    refine (word w1 b len R1.out).mono ?_
    rintro e w2 ⟨v, v1, rfl, b2, r2⟩
    have R2 := Lib.hid r2
    have B2 := Lib.hid (B1.out.trans b2)
    clear r2 b2 v1
    go_wp2
    go_ret
    exact ⟨_, rfl, B2.out, R2.out⟩
  · have q1 : (x == 0) = false := by simp; omega
    have q2 : (x == 1) = false := by simp; omega
    go_wp2_with fail
    refine (below w1 b len 20000 R1.out (by omega) (by omega)).mono ?_
    rintro e w2 ⟨v, v1, v2, rfl, b2, r2⟩
    have R2 := Lib.hid r2
    have B2 := Lib.hid (B1.out.trans b2)
    clear r2 b2
    go_wp2
    go_ret
    exact ⟨v, rfl, B2.out, R2.out⟩
end Go.Proofs.YtpogfdeioibkdaaGreatDoor.draw
