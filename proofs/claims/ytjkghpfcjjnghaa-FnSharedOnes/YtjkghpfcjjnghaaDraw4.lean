/-
  Plain helpers of this seat's proofs: contracts of the functions that draw the arguments of MulDiv. Conditions: none.
-/
import Derived.Test.YtjkghpfcjjnghaaDraw2
import Derived.Test.YtjkghpfcjjnghaaDraw3
import Derived.IntWalk
import Derived.Deep.RegionHeld3
namespace Go.Proofs.Ytjkghpfcjjnghaa.draw
open Go.ChangeShapes Go.WideShapes Go.ChangeAt Go.RowKit

/-- Some number, drawn. -/
def GotZ (w : World) (b len : Nat) (e : Ending) (w' : World) : Prop := ∃ x : Int, e = .returned (.int .i64 x) ∧ Only b w w' ∧ Rd w' b len

set_option maxHeartbeats 1000000 in
theorem money (w : World) (b len : Nat) (r : Rd w b len) : Calls Try.prog 23 #[.pointer (some ⟨b, 0, none⟩)] w (GotZ w b len) := by
  have R := Lib.hid r
  clear r
  go_enter Try.func23, Try.ntmps23
  go_wp2_with fail
  refine (below w b len 6 R.out (by omega) (by omega)).mono ?_
  rintro e w1 ⟨x, x1, x2, rfl, b1, r1⟩
  have R1 := Lib.hid r1
  have B1 := Lib.hid b1
  clear r1 b1
  obtain rfl | rfl | hx : x = 0 ∨ x = 1 ∨ ¬ (x = 0 ∨ x = 1) := by omega
  · go_wp2_with fail
    refine (near w1 b len 0 1000000000000 R1.out (by omega) (by omega) (by omega)).mono ?_
    rintro e w2 ⟨v, v1, rfl, b2, r2⟩
    have R2 := Lib.hid r2
    have B2 := Lib.hid (B1.out.trans b2)
    clear r2 b2 v1
    go_wp2
    go_ret
    exact ⟨v, rfl, B2.out, R2.out⟩
  · go_wp2_with fail
    refine (word w1 b len R1.out).mono ?_
    rintro e w2 ⟨v, v1, rfl, b2, r2⟩
    have R2 := Lib.hid r2
    have B2 := Lib.hid (B1.out.trans b2)
    clear r2 b2 v1
    go_wp2
    go_ret
    exact ⟨_, rfl, B2.out, R2.out⟩
  · have q1 : (x == 0) = false := by simp; omega
    have q2 : (x == 1) = false := by simp; omega
    go_wp2_with fail
    refine (below w1 b len 20000 R1.out (by omega) (by omega)).mono ?_
    rintro e w2 ⟨v, v1, v2, rfl, b2, r2⟩
    have R2 := Lib.hid r2
    have B2 := Lib.hid (B1.out.trans b2)
    clear r2 b2
    go_wp2
    go_ret
    exact ⟨v, rfl, B2.out, R2.out⟩

theorem Rd.drew {w : World} {b len : Nat} (r : Rd w b len) : Rd w.drew b len := ⟨r.lt, r.small, r.bytes, r.place, r.free⟩
theorem Only.drew {b : Nat} {x y : World} (h : Only b x y) : Only b x y.drew := h.trans ⟨rfl, rfl, rfl, Nat.le_refl _, fun _ _ _ => rfl⟩

/-- A table that was built lies in block g. -/
def Tab (arr : Array Value) (w : World) (g : Nat) : Prop := g < w.heap.size ∧ ∀ k : Nat, w.cell? ⟨g, k, none⟩ = arr[k]?
theorem Tab.new (arr : Array Value) (t : TypeId) (w : World) : Tab arr (w.alloc (.cells arr t)) w.heap.size := ⟨by show _ < (w.heap.push _).size; simp, fun k => World.cell?_alloc_new w _ _ k⟩
theorem Tab.drew {arr : Array Value} {w : World} {g : Nat} (h : Tab arr w g) : Tab arr w.drew g := h
theorem Tab.only {arr : Array Value} {w w' : World} {g b : Nat} (h : Tab arr w g) (o : Only b w w') (hg : b < g) : Tab arr w' g := ⟨Nat.lt_of_lt_of_le h.1 o.size, fun k => (o.cell h.1 (by omega)).trans (h.2 k)⟩

def six : Array Value := #[.int .i64 2, .int .i64 4, .int .i64 10, .int .i64 8, .int .i64 100, .int .i64 1]
theorem pick6 (k : Nat) (h : k < 6) : ∃ c : Int, six[k]? = some (.int .i64 c) := by
  obtain rfl | rfl | rfl | rfl | rfl | rfl : k = 0 ∨ k = 1 ∨ k = 2 ∨ k = 3 ∨ k = 4 ∨ k = 5 := by omega
  all_goals exact ⟨_, rfl⟩

theorem six_new {w : World} {k : Nat} {z : Int} (hz : six[k]? = some (.int .i64 z)) : (w.alloc (.cells #[.int .i64 2, .int .i64 4, .int .i64 10, .int .i64 8, .int .i64 100, .int .i64 1] 3)).cell? ⟨w.heap.size, k, none⟩ = some (.int .i64 z) := (World.cell?_alloc_new w _ _ k).trans hz

def DrewM (w : World) (e : Ending) (w' : World) : Prop := ∃ a b c : Int, e = .returned (.tuple #[.int .i64 a, .int .i64 b, .int .i64 c]) ∧ Below w.heap.size w w'

set_option maxHeartbeats 4000000 in
theorem drawMulDiv (a : Option Addr) (len cap : Nat) (w : World) (hB : Bytes w a len) (h : len ≤ 1048576) : Calls Try.prog 10 #[.slice a len cap] w (DrewM w) := by
  have HB := Lib.hid hB
  clear hB
  go_enter Try.func10, Try.ntmps10
  go_wp2_with fail
  refine (openRd a len cap w HB.out h).mono ?_
  rintro e w0 ⟨rfl, r0, b0⟩
  have R0 := Lib.hid r0
  have B0 := Lib.hid b0
  clear r0 b0
  go_wp2_with fail
  refine (money w0 w.heap.size len R0.out).mono ?_
  rintro e w1 ⟨n, rfl, b1, r1⟩
  have R1 := Lib.hid r1
  have O1 := Lib.hid b1
  clear r1 b1
  go_wp2_with fail
  refine (once w1 w.heap.size len 3 R1.out (by omega) (by omega)).mono ?_
  rintro e w2 ⟨t, rfl, b2, r2⟩
  have R2 := Lib.hid r2
  have O2 := Lib.hid (O1.out.trans b2)
  clear r2 b2
  cases t
  all_goals
    go_wp2_with fail
    refine (money w2 w.heap.size len R2.out).mono ?_
    rintro e w3 ⟨n2, rfl, b3, r3⟩
    have R3 := Lib.hid r3
    have O3 := Lib.hid (O2.out.trans b3)
    clear r3 b3
    go_wp2_with fail
    refine (money w3 w.heap.size len R3.out).mono ?_
    rintro e w4 ⟨n3, rfl, b4, r4⟩
    have R4 := Lib.hid r4
    have O4 := Lib.hid (O3.out.trans b4)
    clear r4 b4
    go_wp2_with fail
    refine (below w4 w.heap.size len 8 R4.out (by omega) (by omega)).mono ?_
    rintro e w5 ⟨x, x1, x2, rfl, b5, r5⟩
    have R5 := Lib.hid r5
    have O5 := Lib.hid (O4.out.trans b5)
    clear r5 b5
    by_cases hx : x = 0
    · subst hx
      go_wp2_with fail
      refine (off w5 w.heap.size len (-1000000000000) 1000000000000 R5.out (by omega) (by omega) (by omega)).mono ?_
      rintro e w6 ⟨u, u1, rfl, b6, r6⟩
      have R6 := Lib.hid r6
      have O6 := Lib.hid (O5.out.trans b6)
      clear r6 b6 u1
      go_wp2_with fail
      refine (off w6 w.heap.size len 0 1000000000000 R6.out (by omega) (by omega) (by omega)).mono ?_
      rintro e w7 ⟨u', u1, rfl, b7, r7⟩
      have R7 := Lib.hid r7
      have O7 := Lib.hid (O6.out.trans b7)
      clear r7 b7 u1
      go_wp2_with fail
      refine (off w7 w.heap.size len 1 1000000000000 R7.out (by omega) (by omega) (by omega)).mono ?_
      rintro e w8 ⟨u'', u1, rfl, b8, r8⟩
      have O8 := Lib.hid (O7.out.trans b8)
      clear r8 b8 u1
      go_wp2
      go_ret3
      exact ⟨_, _, _, rfl, back rfl B0.out O8.out⟩
    · have q0 : (x == 0) = false := by simp; omega
      by_cases hy : x = 1 ∨ x = 2 ∨ x = 3
      · clear x1 x2 hx
        rcases hy with rfl | rfl | rfl
        all_goals
          go_wp2_with fail
          have lt5 : w.heap.size < w5.heap.size := R5.out.lt
          go_region_with (first
            | (go_at_call 25; ((with_reducible refine (below _ w.heap.size len 20 ?_ (by omega) (by omega)).mono ?_); (first | exact R5.out.drew | exact (R5.out.alloc _).drew); rintro e wA ⟨x, x3, x4, rfl, bA, rA⟩; (first | (have T1 := Lib.hid ((Tab.new six 3 w5).drew.only bA lt5)) | skip); have ltA := rA.lt; have HA := Lib.hid (And.intro bA rA); clear bA rA))
            | (go_at_call 25; ((with_reducible refine (below _ w.heap.size len 6 ?_ (by omega) (by omega)).mono ?_); (first | exact HA.out.2 | exact HA.out.2.alloc _); rintro e wB ⟨y, y3, y4, rfl, bB, rB⟩; obtain ⟨k, rfl⟩ := Int.eq_ofNat_of_zero_le y3; obtain ⟨z, hz⟩ := pick6 k (by omega); have k1 : (k : Int) < 6 := (by omega); have hv := six_new (w := wB) hz; (first | (have hu := ((T1.out.only bB lt5).2 k).trans hz) | (have hu := (((Tab.new six 3 wA).only bB ltA).2 k).trans hz) | skip); have HX := Lib.hid (And.intro bB rB); clear bB rB y4 hz)))
          all_goals go_wp2
          all_goals go_ret3
          all_goals first
            | exact ⟨_, _, _, rfl, back rfl B0.out (((O5.out.alloc _).drew.trans HA.out.1).trans HX.out.1)⟩
            | exact ⟨_, _, _, rfl, back rfl B0.out (((O5.out.drew.trans HA.out.1).alloc _).trans HX.out.1)⟩
            | exact ⟨_, _, _, rfl, back rfl B0.out (((O5.out.drew.trans HA.out.1).trans HX.out.1).alloc _)⟩
      · have q1 : (x == 1) = false := by simp; omega
        have q2 : (x == 2) = false := by simp; omega
        have q3 : (x == 3) = false := by simp; omega
        clear hx hy
        go_wp2
        all_goals go_ret3
        all_goals exact ⟨_, _, _, rfl, back rfl B0.out O5.out⟩
end Go.Proofs.Ytjkghpfcjjnghaa.draw
