/-
  Plain helpers of this seat's proofs: contracts of the Draw functions on dates. Conditions: none.
-/
import Derived.Test.YtlpeadkkkmpccabDoorDraw4
namespace Go.Proofs.YtlpeadkkkmpccabDoor.draw
open Go.ChangeShapes Go.WideShapes Go.ChangeAt Go.RowKit

theorem mon_below {w w' : World} (c : base.Mon w) (h : Below w.heap.size w w') : base.Mon w' := c.below h c.lt

set_option maxHeartbeats 1000000 in
theorem drawLeap (a : Option Addr) (len cap : Nat) (w : World) (hB : Bytes w a len) (h : len ≤ 1048576) (c : base.Mon w) : Calls Tryd.prog 24 #[.slice a len cap] w (Drew1 w) := by
  have HB := Lib.hid hB
  have C := Lib.hid c
  have lt0 := c.lt
  clear hB c
  go_enter Tryd.func24, Tryd.ntmps24
  go_wp2_with fail
  refine (openRd a len cap w HB.out h).mono ?_
  rintro e w0 ⟨rfl, r0, b0⟩
  have R0 := Lib.hid r0
  have B0 := Lib.hid b0
  have C0 := Lib.hid (mon_below C.out b0)
  have O0 := Lib.hid (Only.refl w.heap.size w0)
  clear r0 b0
  go_wp2_with fail
  refine (once w0 w.heap.size len 3 R0.out (by omega) (by omega)).mono ?_
  rintro e w1 ⟨t, rfl, b1, r1⟩
  have R1 := Lib.hid r1
  have O1 := Lib.hid (O0.out.trans b1)
  have C1 := Lib.hid (mon_only C0.out O1.out (Nat.le_of_lt R0.out.lt) lt0)
  clear r1 b1
  cases t
  · skip
    go_wp2_with fail
    refine (below w1 w.heap.size len 500 R1.out (by omega) (by omega)).mono ?_
    rintro e w2 ⟨x2, v2, u2, rfl, b2, r2⟩
    have R2 := Lib.hid r2
    have O2 := Lib.hid (O1.out.trans b2)
    have C2 := Lib.hid (mon_only C0.out O2.out (Nat.le_of_lt R0.out.lt) lt0)
    clear r2 b2
    go_wp2
    go_ret
    exact ⟨_, wf_small _ (by omega) (by omega), rfl, back rfl B0.out O2.out⟩
  · skip
    go_wp2_with fail
    refine (word w1 w.heap.size len R1.out).mono ?_
    rintro e w2 ⟨x2, v2, rfl, b2, r2⟩
    have R2 := Lib.hid r2
    have O2 := Lib.hid (O1.out.trans b2)
    have C2 := Lib.hid (mon_only C0.out O2.out (Nat.le_of_lt R0.out.lt) lt0)
    clear r2 b2
    have V2 := Lib.hid v2
    clear v2
    go_wp2
    go_ret
    exact ⟨_, wrap64_wf _, rfl, back rfl B0.out O2.out⟩

set_option maxHeartbeats 1000000 in
theorem drawDateOf (a : Option Addr) (len cap : Nat) (w : World) (hB : Bytes w a len) (h : len ≤ 1048576) (c : base.Mon w) : Calls Tryd.prog 15 #[.slice a len cap] w (Drew1 w) := by
  have HB := Lib.hid hB
  have C := Lib.hid c
  have lt0 := c.lt
  clear hB c
  go_enter Tryd.func15, Tryd.ntmps15
  go_wp2_with fail
  refine (openRd a len cap w HB.out h).mono ?_
  rintro e w0 ⟨rfl, r0, b0⟩
  have R0 := Lib.hid r0
  have B0 := Lib.hid b0
  have C0 := Lib.hid (mon_below C.out b0)
  have O0 := Lib.hid (Only.refl w.heap.size w0)
  clear r0 b0
  go_wp2_with fail
  refine (day w0 w.heap.size len R0.out C0.out lt0).mono ?_
  rintro e w1 ⟨x1, v1, rfl, b1, r1⟩
  have R1 := Lib.hid r1
  have O1 := Lib.hid (O0.out.trans b1)
  have C1 := Lib.hid (mon_only C0.out O1.out (Nat.le_of_lt R0.out.lt) lt0)
  clear r1 b1
  have V1 := Lib.hid v1
  clear v1
  go_wp2
  go_ret
  exact ⟨_, V1.out, rfl, back rfl B0.out O1.out⟩

theorem drawDateText (a : Option Addr) (len cap : Nat) (w : World) (hB : Bytes w a len) (h : len ≤ 1048576) (c : base.Mon w) : Calls Tryd.prog 22 #[.slice a len cap] w (Drew1 w) := by
  have HB := Lib.hid hB
  have C := Lib.hid c
  clear hB c
  go_enter Tryd.func22, Tryd.ntmps22
  go_wp2_with fail
  refine (drawDateOf a len cap w HB.out h C.out).mono ?_
  rintro e w1 ⟨x, v, rfl, b1⟩
  have V := Lib.hid v
  have B := Lib.hid b1
  clear v b1
  go_wp2
  go_ret
  exact ⟨_, V.out, rfl, B.out⟩

set_option maxHeartbeats 1000000 in
theorem drawMonthsOn (a : Option Addr) (len cap : Nat) (w : World) (hB : Bytes w a len) (h : len ≤ 1048576) (c : base.Mon w) : Calls Tryd.prog 27 #[.slice a len cap] w (Drew2 w) := by
  have HB := Lib.hid hB
  have C := Lib.hid c
  have lt0 := c.lt
  clear hB c
  go_enter Tryd.func27, Tryd.ntmps27
  go_wp2_with fail
  refine (openRd a len cap w HB.out h).mono ?_
  rintro e w0 ⟨rfl, r0, b0⟩
  have R0 := Lib.hid r0
  have B0 := Lib.hid b0
  have C0 := Lib.hid (mon_below C.out b0)
  have O0 := Lib.hid (Only.refl w.heap.size w0)
  clear r0 b0
  go_wp2_with fail
  refine (once w0 w.heap.size len 6 R0.out (by omega) (by omega)).mono ?_
  rintro e w1 ⟨t, rfl, b1, r1⟩
  have R1 := Lib.hid r1
  have O1 := Lib.hid (O0.out.trans b1)
  have C1 := Lib.hid (mon_only C0.out O1.out (Nat.le_of_lt R0.out.lt) lt0)
  clear r1 b1
  cases t
  · skip
    go_wp2_with fail
    refine (day w1 w.heap.size len R1.out C1.out lt0).mono ?_
    rintro e w2 ⟨x2, v2, rfl, b2, r2⟩
    have R2 := Lib.hid r2
    have O2 := Lib.hid (O1.out.trans b2)
    have C2 := Lib.hid (mon_only C0.out O2.out (Nat.le_of_lt R0.out.lt) lt0)
    clear r2 b2
    have V2 := Lib.hid v2
    clear v2
    go_wp2_with fail
    refine (below w2 w.heap.size len 30 R2.out (by omega) (by omega)).mono ?_
    rintro e w3 ⟨x3, v3, u3, rfl, b3, r3⟩
    have R3 := Lib.hid r3
    have O3 := Lib.hid (O2.out.trans b3)
    have C3 := Lib.hid (mon_only C0.out O3.out (Nat.le_of_lt R0.out.lt) lt0)
    clear r3 b3
    go_wp2
    go_ret2
    exact ⟨_, _, V2.out, wf_small _ (by omega) (by omega), rfl, back rfl B0.out O3.out⟩
  · skip
    go_wp2_with fail
    refine (day w1 w.heap.size len R1.out C1.out lt0).mono ?_
    rintro e w2 ⟨x2, v2, rfl, b2, r2⟩
    have R2 := Lib.hid r2
    have O2 := Lib.hid (O1.out.trans b2)
    have C2 := Lib.hid (mon_only C0.out O2.out (Nat.le_of_lt R0.out.lt) lt0)
    clear r2 b2
    have V2 := Lib.hid v2
    clear v2
    go_wp2_with fail
    refine (off w2 w.heap.size len 0 600 R2.out (by omega) (by omega) (by omega)).mono ?_
    rintro e w3 ⟨x3, v3, rfl, b3, r3⟩
    have R3 := Lib.hid r3
    have O3 := Lib.hid (O2.out.trans b3)
    have C3 := Lib.hid (mon_only C0.out O3.out (Nat.le_of_lt R0.out.lt) lt0)
    clear r3 b3
    have V3 := Lib.hid v3
    clear v3
    go_wp2
    go_ret2
    exact ⟨_, _, V2.out, V3.out, rfl, back rfl B0.out O3.out⟩

set_option maxHeartbeats 1000000 in
theorem drawDueDays (a : Option Addr) (len cap : Nat) (w : World) (hB : Bytes w a len) (h : len ≤ 1048576) (c : base.Mon w) : Calls Tryd.prog 30 #[.slice a len cap] w (Drew2 w) := by
  have HB := Lib.hid hB
  have C := Lib.hid c
  have lt0 := c.lt
  clear hB c
  go_enter Tryd.func30, Tryd.ntmps30
  go_wp2_with fail
  refine (openRd a len cap w HB.out h).mono ?_
  rintro e w0 ⟨rfl, r0, b0⟩
  have R0 := Lib.hid r0
  have B0 := Lib.hid b0
  have C0 := Lib.hid (mon_below C.out b0)
  have O0 := Lib.hid (Only.refl w.heap.size w0)
  clear r0 b0
  go_wp2_with fail
  refine (day w0 w.heap.size len R0.out C0.out lt0).mono ?_
  rintro e w1 ⟨x1, v1, rfl, b1, r1⟩
  have R1 := Lib.hid r1
  have O1 := Lib.hid (O0.out.trans b1)
  have C1 := Lib.hid (mon_only C0.out O1.out (Nat.le_of_lt R0.out.lt) lt0)
  clear r1 b1
  have V1 := Lib.hid v1
  clear v1
  go_wp2_with fail
  refine (off w1 w.heap.size len 1 24 R1.out (by omega) (by omega) (by omega)).mono ?_
  rintro e w2 ⟨x2, v2, rfl, b2, r2⟩
  have R2 := Lib.hid r2
  have O2 := Lib.hid (O1.out.trans b2)
  have C2 := Lib.hid (mon_only C0.out O2.out (Nat.le_of_lt R0.out.lt) lt0)
  clear r2 b2
  have V2 := Lib.hid v2
  clear v2
  go_wp2
  go_ret2
  exact ⟨_, _, V1.out, V2.out, rfl, back rfl B0.out O2.out⟩

set_option maxHeartbeats 1000000 in
theorem drawDayOf (a : Option Addr) (len cap : Nat) (w : World) (hB : Bytes w a len) (h : len ≤ 1048576) (c : base.Mon w) : Calls Tryd.prog 18 #[.slice a len cap] w (Drew3 w) := by
  have HB := Lib.hid hB
  have C := Lib.hid c
  have lt0 := c.lt
  clear hB c
  go_enter Tryd.func18, Tryd.ntmps18
  go_wp2_with fail
  refine (openRd a len cap w HB.out h).mono ?_
  rintro e w0 ⟨rfl, r0, b0⟩
  have R0 := Lib.hid r0
  have B0 := Lib.hid b0
  have C0 := Lib.hid (mon_below C.out b0)
  have O0 := Lib.hid (Only.refl w.heap.size w0)
  clear r0 b0
  go_wp2_with fail
  refine (once w0 w.heap.size len 4 R0.out (by omega) (by omega)).mono ?_
  rintro e w1 ⟨t, rfl, b1, r1⟩
  have R1 := Lib.hid r1
  have O1 := Lib.hid (O0.out.trans b1)
  have C1 := Lib.hid (mon_only C0.out O1.out (Nat.le_of_lt R0.out.lt) lt0)
  clear r1 b1
  cases t
  · skip
    go_wp2_with fail
    refine (below w1 w.heap.size len 280 R1.out (by omega) (by omega)).mono ?_
    rintro e w2 ⟨x2, v2, u2, rfl, b2, r2⟩
    have R2 := Lib.hid r2
    have O2 := Lib.hid (O1.out.trans b2)
    have C2 := Lib.hid (mon_only C0.out O2.out (Nat.le_of_lt R0.out.lt) lt0)
    clear r2 b2
    go_wp2_with fail
    refine (below w2 w.heap.size len 14 R2.out (by omega) (by omega)).mono ?_
    rintro e w3 ⟨x3, v3, u3, rfl, b3, r3⟩
    have R3 := Lib.hid r3
    have O3 := Lib.hid (O2.out.trans b3)
    have C3 := Lib.hid (mon_only C0.out O3.out (Nat.le_of_lt R0.out.lt) lt0)
    clear r3 b3
    go_wp2_with fail
    refine (below w3 w.heap.size len 33 R3.out (by omega) (by omega)).mono ?_
    rintro e w4 ⟨x4, v4, u4, rfl, b4, r4⟩
    have R4 := Lib.hid r4
    have O4 := Lib.hid (O3.out.trans b4)
    have C4 := Lib.hid (mon_only C0.out O4.out (Nat.le_of_lt R0.out.lt) lt0)
    clear r4 b4
    go_wp2
    go_ret3
    exact ⟨_, _, _, wf_small _ (by omega) (by omega), wf_small _ (by omega) (by omega), wf_small _ (by omega) (by omega), rfl, back rfl B0.out O4.out⟩
  · skip
    go_wp2_with fail
    refine (off w1 w.heap.size len 1970 2300 R1.out (by omega) (by omega) (by omega)).mono ?_
    rintro e w2 ⟨x2, v2, rfl, b2, r2⟩
    have R2 := Lib.hid r2
    have O2 := Lib.hid (O1.out.trans b2)
    have C2 := Lib.hid (mon_only C0.out O2.out (Nat.le_of_lt R0.out.lt) lt0)
    clear r2 b2
    have V2 := Lib.hid v2
    clear v2
    go_wp2_with fail
    refine (off w2 w.heap.size len 1 12 R2.out (by omega) (by omega) (by omega)).mono ?_
    rintro e w3 ⟨x3, v3, rfl, b3, r3⟩
    have R3 := Lib.hid r3
    have O3 := Lib.hid (O2.out.trans b3)
    have C3 := Lib.hid (mon_only C0.out O3.out (Nat.le_of_lt R0.out.lt) lt0)
    clear r3 b3
    have V3 := Lib.hid v3
    clear v3
    go_wp2_with fail
    refine (off w3 w.heap.size len 1 31 R3.out (by omega) (by omega) (by omega)).mono ?_
    rintro e w4 ⟨x4, v4, rfl, b4, r4⟩
    have R4 := Lib.hid r4
    have O4 := Lib.hid (O3.out.trans b4)
    have C4 := Lib.hid (mon_only C0.out O4.out (Nat.le_of_lt R0.out.lt) lt0)
    clear r4 b4
    have V4 := Lib.hid v4
    clear v4
    go_wp2
    go_ret3
    exact ⟨_, _, _, V2.out, V3.out, V4.out, rfl, back rfl B0.out O4.out⟩

end Go.Proofs.YtlpeadkkkmpccabDoor.draw
