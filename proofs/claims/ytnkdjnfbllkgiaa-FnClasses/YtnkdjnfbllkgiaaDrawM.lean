/-
  Plain helpers of this seat's proofs: contracts of the functions that draw the arguments of MulDiv. Conditions: none.
-/
import Derived.Test.YtnkdjnfbllkgiaaDraw2
import Derived.Test.YtnkdjnfbllkgiaaDraw3
import Derived.IntWalk
import Derived.Deep.RegionHeld3
namespace Go.Proofs.Ytnkdjnfbllkgiaa.draw
open Go.ChangeShapes Go.WideShapes Go.ChangeAt Go.RowKit

/-- Some number, drawn. -/
def GotZ (w : World) (b len : Nat) (e : Ending) (w' : World) : Prop := ∃ x : Int, e = .returned (.int .i64 x) ∧ Only b w w' ∧ Rd w' b len

set_option maxHeartbeats 1000000 in
theorem money (w : World) (b len : Nat) (r : Rd w b len) : Calls Try.prog 72 #[.pointer (some ⟨b, 0, none⟩)] w (GotZ w b len) := by
  have R := Lib.hid r
  clear r
  go_enter Try.func72, Try.ntmps72
  go_wp2_with fail
  refine (below w b len 6 R.out (by omega) (by omega)).mono ?_
  rintro e w1 ⟨x, x1, x2, rfl, b1, r1⟩
  have R1 := Lib.hid r1
  have B1 := Lib.hid b1
  clear r1 b1
  obtain rfl | rfl | hx : x = 0 ∨ x = 1 ∨ ¬ (x = 0 ∨ x = 1) := by omega
  · go_wp2_with fail
    refine (near w1 b len 0 1000000000000 R1.out (by omega) (by omega) (by omega)).mono ?_
    rintro e w2 ⟨v, v1, rfl, b2, r2⟩
    have R2 := Lib.hid r2
    have B2 := Lib.hid (B1.out.trans b2)
    clear r2 b2 v1
    go_wp2
    go_ret
    exact ⟨v, rfl, B2.out, R2.out⟩
  · go_wp2_with fail
    refine (word w1 b len R1.out).mono ?_
    rintro e w2 ⟨v, v1, rfl, b2, r2⟩
    have R2 := Lib.hid r2
    have B2 := Lib.hid (B1.out.trans b2)
    clear r2 b2 v1
    go_wp2
    go_ret
    exact ⟨_, rfl, B2.out, R2.out⟩
  · have q1 : (x == 0) = false := by simp; omega
    have q2 : (x == 1) = false := by simp; omega
    go_wp2_with fail
    refine (below w1 b len 20000 R1.out (by omega) (by omega)).mono ?_
    rintro e w2 ⟨v, v1, v2, rfl, b2, r2⟩
    have R2 := Lib.hid r2
    have B2 := Lib.hid (B1.out.trans b2)
    clear r2 b2
    go_wp2
    go_ret
    exact ⟨v, rfl, B2.out, R2.out⟩

theorem Rd.drew {w : World} {b len : Nat} (r : Rd w b len) : Rd w.drew b len := ⟨r.lt, r.small, r.bytes, r.place, r.free⟩
theorem Only.drew {b : Nat} {x y : World} (h : Only b x y) : Only b x y.drew := h.trans ⟨rfl, rfl, rfl, Nat.le_refl _, fun _ _ _ => rfl⟩

/-- A table that was built lies in block g. -/
def Tab (arr : Array Value) (w : World) (g : Nat) : Prop := g < w.heap.size ∧ ∀ k : Nat, w.cell? ⟨g, k, none⟩ = arr[k]?
theorem Tab.new (arr : Array Value) (t : TypeId) (w : World) : Tab arr (w.alloc (.cells arr t)) w.heap.size := ⟨by show _ < (w.heap.push _).size; simp, fun k => World.cell?_alloc_new w _ _ k⟩
theorem Tab.drew {arr : Array Value} {w : World} {g : Nat} (h : Tab arr w g) : Tab arr w.drew g := h
theorem Tab.only {arr : Array Value} {w w' : World} {g b : Nat} (h : Tab arr w g) (o : Only b w w') (hg : b < g) : Tab arr w' g := ⟨Nat.lt_of_lt_of_le h.1 o.size, fun k => (o.cell h.1 (by omega)).trans (h.2 k)⟩

end Go.Proofs.Ytnkdjnfbllkgiaa.draw
