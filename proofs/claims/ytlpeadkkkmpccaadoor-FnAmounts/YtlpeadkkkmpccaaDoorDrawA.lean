/-
  Plain helpers of this seat's proofs: contracts of the functions that draw an amount. Conditions: none.
-/
import Derived.Test.YtlpeadkkkmpccaaDoorHurt
import Derived.Test.YtlpeadkkkmpccaaDoorAmt3
namespace Go.Proofs.YtlpeadkkkmpccaaDoor.draw
open Go.ChangeShapes Go.WideShapes Go.ChangeAt Go.RowKit

/-- Some number, drawn. -/
def GotZ (w : World) (b len : Nat) (e : Ending) (w' : World) : Prop := ∃ x : Int, e = .returned (.int .i64 x) ∧ Only b w w' ∧ Rd w' b len

set_option maxHeartbeats 1000000 in
theorem money (w : World) (b len : Nat) (r : Rd w b len) : Calls Tryd.prog 33 #[.pointer (some ⟨b, 0, none⟩)] w (GotZ w b len) := by
  have R := Lib.hid r
  clear r
  go_enter Tryd.func33, Tryd.ntmps33
  go_wp2_with fail
  refine (below w b len 6 R.out (by omega) (by omega)).mono ?_
  rintro e w1 ⟨x, x1, x2, rfl, b1, r1⟩
  have R1 := Lib.hid r1
  have B1 := Lib.hid b1
  clear r1 b1
  obtain rfl | rfl | hx : x = 0 ∨ x = 1 ∨ ¬ (x = 0 ∨ x = 1) := by omega
  · go_wp2_with fail
    refine (near w1 b len 0 1000000000000 R1.out (by omega) (by omega) (by omega)).mono ?_
    rintro e w2 ⟨v, v1, rfl, b2, r2⟩
    have R2 := Lib.hid r2
    have B2 := Lib.hid (B1.out.trans b2)
    clear r2 b2 v1
    go_wp2
    go_ret
    exact ⟨v, rfl, B2.out, R2.out⟩
  · go_wp2_with fail
    refine (word w1 b len R1.out).mono ?_
    rintro e w2 ⟨v, v1, rfl, b2, r2⟩
    have R2 := Lib.hid r2
    have B2 := Lib.hid (B1.out.trans b2)
    clear r2 b2 v1
    go_wp2
    go_ret
    exact ⟨_, rfl, B2.out, R2.out⟩
  · have q1 : (x == 0) = false := by simp; omega
    have q2 : (x == 1) = false := by simp; omega
    go_wp2_with fail
    refine (below w1 b len 20000 R1.out (by omega) (by omega)).mono ?_
    rintro e w2 ⟨v, v1, v2, rfl, b2, r2⟩
    have R2 := Lib.hid r2
    have B2 := Lib.hid (B1.out.trans b2)
    clear r2 b2
    go_wp2
    go_ret
    exact ⟨v, rfl, B2.out, R2.out⟩

def DrewZ (w : World) (e : Ending) (w' : World) : Prop := ∃ c n : Int, e = .returned (.tuple #[.int .i64 c, .int .i64 n]) ∧ Below w.heap.size w w'
set_option maxHeartbeats 1000000 in
theorem drawAmountText (a : Option Addr) (len cap : Nat) (w : World) (hB : Bytes w a len) (h : len ≤ 1048576) : Calls Tryd.prog 19 #[.slice a len cap] w (DrewZ w) := by
  have HB := Lib.hid hB
  clear hB
  go_enter Tryd.func19, Tryd.ntmps19
  go_wp2_with fail
  refine (openRd a len cap w HB.out h).mono ?_
  rintro e w0 ⟨rfl, r0, b0⟩
  have R0 := Lib.hid r0
  have B0 := Lib.hid b0
  clear r0 b0
  go_wp2_with fail
  refine (money w0 w.heap.size len R0.out).mono ?_
  rintro e w1 ⟨n, rfl, b1, r1⟩
  have R1 := Lib.hid r1
  have O1 := Lib.hid b1
  clear r1 b1
  go_wp2_with fail
  refine (once w1 w.heap.size len 3 R1.out (by omega) (by omega)).mono ?_
  rintro e w2 ⟨t, rfl, b2, r2⟩
  have R2 := Lib.hid r2
  have O2 := Lib.hid (O1.out.trans b2)
  clear r2 b2
  cases t
  all_goals
    go_wp2_with fail
    refine (once w2 w.heap.size len 12 R2.out (by omega) (by omega)).mono ?_
    rintro e w3 ⟨t, rfl, b3, r3⟩
    have R3 := Lib.hid r3
    have O3 := Lib.hid (O2.out.trans b3)
    clear r3 b3
    cases t
    · go_wp2_with fail
      refine (below w3 w.heap.size len 6 R3.out (by omega) (by omega)).mono ?_
      rintro e w4 ⟨v, v1, v2, rfl, b4, r4⟩
      have O4 := Lib.hid (O3.out.trans b4)
      clear r4 b4
      go_wp2
      go_ret2
      exact ⟨_, _, rfl, back rfl B0.out O4.out⟩
    · go_wp2_with fail
      refine (off w3 w.heap.size len 0 5 R3.out (by omega) (by omega) (by omega)).mono ?_
      rintro e w4 ⟨v, v1, rfl, b4, r4⟩
      have R4 := Lib.hid r4
      have O4 := Lib.hid (O3.out.trans b4)
      clear r4 b4 v1
      go_wp2_with fail
      refine (off w4 w.heap.size len (-1000000000000) 1000000000000 R4.out (by omega) (by omega) (by omega)).mono ?_
      rintro e w5 ⟨u, u1, rfl, b5, r5⟩
      have O5 := Lib.hid (O4.out.trans b5)
      clear r5 b5 u1
      go_wp2
      go_ret2
      exact ⟨_, _, rfl, back rfl B0.out O5.out⟩
end Go.Proofs.YtlpeadkkkmpccaaDoor.draw
