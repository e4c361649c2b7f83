/-
  Plain helpers of this seat's proofs: contracts of the functions that draw frames; comparisons of lists of texts. Conditions: none.
-/
import Derived.Test.YtibkoacphfdlkaaHrt
import Derived.Test.YtibkoacphfdlkaaSxs
namespace Go.Proofs.Ytibkoacphfdlkaa.draw
open Go.ChangeShapes Go.WideShapes Go.ChangeAt Go.RowKit
/-- A drawn text, behind an opened reader. -/
def GotX (w : World) (n : Nat) (e : Ending) (w' : World) : Prop := ∃ l : List UInt8, l.length ≤ n ∧ e = .returned (.string ⟨l.toArray⟩) ∧ Below w.heap.size w w'
theorem frame_len (l : List UInt8) : (crc.frame l).length ≤ 8 + l.length := by
  unfold crc.frame
  split
  · simp
  · simp [crc.be4, crc.le4]; omega
set_option maxHeartbeats 1000000 in
theorem drawFrame (a : Option Addr) (len cap : Nat) (w : World) (hB : Bytes w a len) (h : len ≤ 1048576) : Calls Try.prog 12 #[.slice a len cap] w (GotX w 103) := by
  have HB := Lib.hid hB
  clear hB
  go_enter Try.func12, Try.ntmps12
  go_wp2_with fail
  refine (openRd a len cap w HB.out h).mono ?_
  rintro e w0 ⟨rfl, r0, b0⟩
  have R0 := Lib.hid r0
  have B0 := Lib.hid b0
  have O0 := Lib.hid (Only.refl w.heap.size w0)
  clear r0 b0
  go_wp2_with fail
  refine (text w0 w.heap.size len R0.out).mono ?_
  rintro e w1 ⟨x, x1, rfl, b1, r1⟩
  have R1 := Lib.hid r1
  have O1 := Lib.hid (O0.out.trans b1)
  clear r1 b1
  go_wp2_with fail
  refine (bytes w1 w.heap.size len 5 R1.out (by omega) (by omega)).mono ?_
  rintro e w2 ⟨y, y1, rfl, b2, r2⟩
  have O2 := Lib.hid (O1.out.trans b2)
  clear r2 b2
  go_wp2
  go_ret
  exact ⟨x ++ y, by rw [List.length_append]; omega, crc.ret_str (crc.cat x y), back rfl B0.out O2.out⟩
set_option maxHeartbeats 1000000 in
theorem drawFrames (a : Option Addr) (len cap : Nat) (w : World) (hB : Bytes w a len) (h : len ≤ 1048576) : Calls Try.prog 7 #[.slice a len cap] w (GotX w 100) := by
  have HB := Lib.hid hB
  clear hB
  go_enter Try.func7, Try.ntmps7
  go_wp2_with fail
  refine (openRd a len cap w HB.out h).mono ?_
  rintro e w0 ⟨rfl, r0, b0⟩
  have R0 := Lib.hid r0
  have B0 := Lib.hid b0
  have O0 := Lib.hid (Only.refl w.heap.size w0)
  clear r0 b0
  go_wp2_with fail
  refine (below w0 w.heap.size len 4 R0.out (by omega) (by omega)).mono ?_
  rintro e w1 ⟨x, x3, x4, rfl, b1, r1⟩
  obtain ⟨q, rfl⟩ := Int.eq_ofNat_of_zero_le x3
  have R1 := Lib.hid r1
  have O1 := Lib.hid (O0.out.trans b1)
  have qb : q ≤ 3 := by omega
  clear r1 b1 x3 x4
  go_wp2
  go_loopw [4, 5] (fun s i wr => Only w.heap.size w0 wr ∧ Rd wr w.heap.size len ∧ ∃ (j : Nat) (l : List UInt8), l.length + 11 * j ≤ 33 ∧ i = .int .i64 j ∧ s = .string ⟨l.toArray⟩) (fun _ i _ => (intOf i).toNat)
  case atStart => exact ⟨O1.out, R1.out, q, [], by simp; omega, rfl, rfl⟩
  case round =>
    obtain ⟨hO, hR, j, l, hl, rfl, rfl⟩ := hrel
    have OO := Lib.hid hO
    have RR := Lib.hid hR
    clear hO hR R1 O1
    by_cases hlt : 0 < j
    · have u1 : decide (0 < j) = true := by simp; omega
      have u1' : decide ((0 : Int) < (j : Int)) = true := by simp; omega
      have e1 : (j : Int) - 1 = ((j - 1 : Nat) : Int) := by omega
      obtain ⟨i, hi⟩ : ∃ i, i = j - 1 := ⟨_, rfl⟩
      rw [← hi] at e1
      go_wp2_with fail
      refine (text wr w.heap.size len RR.out).mono ?_
      rintro e w2 ⟨x, x1, rfl, b2, r2⟩
      have O2 := Lib.hid (OO.out.trans b2)
      have R2 := Lib.hid r2
      have FS := Lib.hid (crc.frameS x w2 (by omega))
      have fl := frame_len x
      obtain ⟨y, hy⟩ : ∃ y, y = crc.frame x := ⟨_, rfl⟩
      rw [← hy] at FS fl
      have HI := Lib.hid hi
      clear b2 r2 hy hi
      go_wp2_with fail
      refine FS.out.mono ?_
      rintro e w3 ⟨rfl, b3⟩
      have O3 := Lib.hid (O2.out.trans (Only.of_below (b := w.heap.size) b3))
      have R3 := Lib.hid (R2.out.below b3 R2.out.lt)
      clear b3
      go_wp2
      go_roundw
      case rel => exact ⟨O3.out, R3.out, i, l ++ y, by rw [List.length_append]; have := HI.out; omega, by go_num, by rw [crc.cat]⟩
      case measure => simp [intOf]; have := HI.out; omega
    · have u1 : decide (0 < j) = false := by simp; omega
      have u1' : decide ((0 : Int) < (j : Int)) = false := by simp; omega
      go_wp2_with fail
      refine (hurt wr w.heap.size len l RR.out (by omega)).mono ?_
      rintro e w2 ⟨x, x1, rfl, b2, r2⟩
      have O2 := Lib.hid (OO.out.trans b2)
      clear b2 r2
      go_wp2
      go_ret
      exact ⟨x, by omega, rfl, back rfl B0.out O2.out⟩
end Go.Proofs.Ytibkoacphfdlkaa.draw
namespace Go.Proofs.Ytibkoacphfdlkaa.sxs
open Go.ChangeShapes Go.WideShapes Go.ChangeAt Go.RowKit
set_option maxHeartbeats 1000000 in
/-- Two slices of the same texts are the same. -/
theorem samT (w : World) (a1 a2 : Option Addr) (c1 c2 g1 g2 n : Nat) (A A' : Nat → List UInt8) (hA : ∀ i, i < n → A' i = A i) (r1 : Row w a1 c1 g1 n A) (r2 : Row w a2 c2 g2 n A') (hn : n ≤ 1048577) :
    Calls Try.prog 10 #[.slice a1 n c1, .slice a2 n c2] w fun e w' => e = .returned (.bool true) ∧ Below w.heap.size w w' := by
  have R1 := Lib.hid r1
  have R2 := Lib.hid r2
  have HA := Lib.hid hA
  clear hA
  rcases Nat.eq_zero_or_pos n with rfl | hp
  · clear r1 r2
    go_enter Try.func10, Try.ntmps10
    go_wp2
    go_loopw [5] (fun v wr => v = .int .i64 0 ∧ Below w.heap.size w wr) (fun _ _ => 0)
    case atStart => exact ⟨rfl, Below.refl _ _⟩
    case round =>
      obtain ⟨rfl, hB⟩ := hrel
      have BB := Lib.hid hB
      clear hB
      go_wp2
      go_ret
      exact ⟨rfl, BB.out⟩
  · have e1 := r1.addr hp
    have e2 := r2.addr hp
    have m1 := r1.room
    have m2 := r2.room
    have l1 := r1.lt hp
    have l2 := r2.lt hp
    subst e1 e2
    clear r1 r2
    go_enter Try.func10, Try.ntmps10
    go_wp2
    go_loopw [5] (fun v wr => Below w.heap.size w wr ∧ ∃ j : Nat, j ≤ n ∧ v = .int .i64 j) (fun v _ => n - (intOf v).toNat)
    case atStart => exact ⟨Below.refl _ _, 0, by omega, rfl⟩
    case round =>
      obtain ⟨hB, j, hj, rfl⟩ := hrel
      have BB := Lib.hid hB
      by_cases hlt : j < n
      · have u1 : decide (j < n) = true := by simp; omega
        have z1 : (j : Int) < (n : Int) := by omega
        have q1 := (hB.cell (p := ⟨g1, j, none⟩) l1).trans (R1.out.cells j hlt)
        have q2 := (hB.cell (p := ⟨g2, j, none⟩) l2).trans (R2.out.cells j hlt)
        rw [HA.out j hlt] at q2
        obtain ⟨X, hX⟩ : ∃ X, X = A j := ⟨_, rfl⟩
        rw [← hX] at q1 q2
        have tx : (X != X) = false := by simp
        clear hX hB
        go_wp2_with fail
        go_quiet (fail)
        go_wp2
        go_roundw
        case rel => exact ⟨⟨BB.out.os, BB.out.tape, BB.out.output, BB.out.size, BB.out.block⟩, j + 1, by omega, by go_num⟩
        case measure => simp [intOf]; omega
      · have u1 : decide (j < n) = false := by simp; omega
        clear hB
        go_wp2
        go_ret
        exact ⟨rfl, BB.out⟩
end Go.Proofs.Ytibkoacphfdlkaa.sxs
