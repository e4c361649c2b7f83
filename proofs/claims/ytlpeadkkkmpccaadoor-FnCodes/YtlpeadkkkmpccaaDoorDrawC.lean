/-
  Plain helpers of this seat's proofs: contracts of the functions that draw a currency or a code. Conditions: none.
-/
import Derived.Test.YtlpeadkkkmpccaaDoorDraw3
import Derived.Test.YtlpeadkkkmpccaaDoorAmt
namespace Go.Proofs.YtlpeadkkkmpccaaDoor.draw
open Go.ChangeShapes Go.WideShapes Go.ChangeAt Go.RowKit

theorem codes (w : World) : Calls Tryd.prog 29 #[] w fun e w' => e = .returned (.slice (some ⟨w.heap.size, 0, none⟩) 6 6) ∧ w' = w.alloc (.cells #[.string ⟨#[69, 85, 82]⟩, .string ⟨#[85, 83, 68]⟩, .string ⟨#[74, 80, 89]⟩, .string ⟨#[71, 66, 80]⟩, .string ⟨#[75, 87, 68]⟩, .string ⟨#[67, 72, 70]⟩] 9) := by
  go_enter Tryd.func29, Tryd.ntmps29
  go_wp2
  go_ret
  exact ⟨rfl, rfl⟩

theorem drawCodeOf (a : Option Addr) (len cap : Nat) (w : World) (hB : Bytes w a len) (h : len ≤ 1048576) : Calls Tryd.prog 11 #[.slice a len cap] w (Drew1 w) := by
  have HB := Lib.hid hB
  clear hB
  go_enter Tryd.func11, Tryd.ntmps11
  go_wp2_with fail
  refine (openRd a len cap w HB.out h).mono ?_
  rintro e w1 ⟨rfl, r1, b1⟩
  have R1 := Lib.hid r1
  have B1 := Lib.hid b1
  clear r1 b1
  go_wp2_with fail
  refine (off w1 w.heap.size len 0 5 R1.out (by omega) (by omega) (by omega)).mono ?_
  rintro e w2 ⟨v, v1, rfl, b2, r2⟩
  have V1 := Lib.hid v1
  have B2 := Lib.hid (back rfl B1.out b2)
  clear r2 b2 v1
  go_wp2
  go_ret
  exact ⟨v, V1.out, rfl, B2.out⟩
/-- A drawn code. -/
def DrewS (w : World) (e : Ending) (w' : World) : Prop := ∃ l : List UInt8, l.length ≤ 1000 ∧ e = .returned (.string ⟨l.toArray⟩) ∧ Below w.heap.size w w'
theorem six (k : Nat) (h : k < 6) : ∃ y : List UInt8, y.length = 3 ∧ (#[Value.string ⟨#[69, 85, 82]⟩, Value.string ⟨#[85, 83, 68]⟩, Value.string ⟨#[74, 80, 89]⟩, Value.string ⟨#[71, 66, 80]⟩, Value.string ⟨#[75, 87, 68]⟩, Value.string ⟨#[67, 72, 70]⟩] : Array Value)[k]? = some (.string ⟨y.toArray⟩) := by
  obtain rfl | rfl | rfl | rfl | rfl | rfl : k = 0 ∨ k = 1 ∨ k = 2 ∨ k = 3 ∨ k = 4 ∨ k = 5 := by omega
  all_goals exact ⟨[_, _, _], by simp, rfl⟩
def HurtC : Prop := ∀ (w : World) (b len : Nat) (l : List UInt8), Rd w b len → l.length ≤ 1000 → Calls Tryd.prog 28 #[.pointer (some ⟨b, 0, none⟩), .string ⟨l.toArray⟩] w (fun e w' => ∃ l' : List UInt8, l'.length ≤ l.length + 1 ∧ e = .returned (.string ⟨l'.toArray⟩) ∧ Only b w w' ∧ Rd w' b len)

set_option maxHeartbeats 1000000 in
theorem drawCurOf (hurt : HurtC) (a : Option Addr) (len cap : Nat) (w : World) (hB : Bytes w a len) (h : len ≤ 1048576) : Calls Tryd.prog 12 #[.slice a len cap] w (DrewS w) := by
  have HB := Lib.hid hB
  have HU := Lib.hid hurt
  clear hB hurt
  go_enter Tryd.func12, Tryd.ntmps12
  go_wp2_with fail
  refine (openRd a len cap w HB.out h).mono ?_
  rintro e w1 ⟨rfl, r1, b1⟩
  have R1 := Lib.hid r1
  have B1 := Lib.hid b1
  clear r1 b1
  go_wp2_with fail
  refine (once w1 w.heap.size len 3 R1.out (by omega) (by omega)).mono ?_
  rintro e w2 ⟨t, rfl, b2, r2⟩
  have R2 := Lib.hid r2
  have O2 := Lib.hid b2
  clear r2 b2
  cases t
  · go_wp2_with fail
    refine (codes w2).mono ?_
    rintro e w3 ⟨rfl, hw3⟩
    subst hw3
    go_wp2_with fail
    refine (below _ w.heap.size len 6 (R2.out.alloc _) (by omega) (by omega)).mono ?_
    rintro e w4 ⟨x, x1, x2, rfl, b4, r4⟩
    obtain ⟨k, rfl⟩ := Int.eq_ofNat_of_zero_le x1
    obtain ⟨y, y1, hy⟩ := six k (by omega)
    have hv := (b4.cell (k := w2.heap.size) (o := k) (by simp) (by have := R2.out.lt; omega)).trans ((World.cell?_alloc_new w2 _ _ k).trans hy)
    have k1 : (k : Int) < 6 := by omega
    have O4 := Lib.hid (O2.out.trans ((Only.alloc (Only.refl _ w2) _).trans b4))
    clear b4 r4 hy x1 x2
    go_wp2
    go_ret
    exact ⟨y, by omega, rfl, back rfl B1.out O4.out⟩
  · go_wp2_with fail
    refine (codes w2).mono ?_
    rintro e w3 ⟨rfl, hw3⟩
    subst hw3
    go_wp2_with fail
    refine (below _ w.heap.size len 6 (R2.out.alloc _) (by omega) (by omega)).mono ?_
    rintro e w4 ⟨x, x1, x2, rfl, b4, r4⟩
    obtain ⟨k, rfl⟩ := Int.eq_ofNat_of_zero_le x1
    obtain ⟨y, y1, hy⟩ := six k (by omega)
    have hv := (b4.cell (k := w2.heap.size) (o := k) (by simp) (by have := R2.out.lt; omega)).trans ((World.cell?_alloc_new w2 _ _ k).trans hy)
    have k1 : (k : Int) < 6 := by omega
    have O4 := Lib.hid (O2.out.trans ((Only.alloc (Only.refl _ w2) _).trans b4))
    have R4 := Lib.hid r4
    clear b4 r4 hy x1 x2
    go_wp2_with fail
    refine (HU.out w4 w.heap.size len y R4.out (by omega)).mono ?_
    rintro e w5 ⟨z, z1, rfl, b5, r5⟩
    have O5 := Lib.hid (O4.out.trans b5)
    clear b5 r5
    go_wp2
    go_ret
    exact ⟨z, by omega, rfl, back rfl B1.out O5.out⟩
end Go.Proofs.YtlpeadkkkmpccaaDoor.draw
