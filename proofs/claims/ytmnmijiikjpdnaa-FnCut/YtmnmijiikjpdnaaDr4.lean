/-
  Plain helpers of this seat's proofs: contracts of the functions that draw arguments from a code. Conditions: none.
-/
import Derived.Test.YtmnmijiikjpdnaaDr2
import Derived.Test.YtmnmijiikjpdnaaDr3
import Derived.IntWalk
import Derived.Deep.RegionHeld3
namespace Go.Proofs.Ytmnmijiikjpdnaa.draw
open Go.ChangeShapes Go.WideShapes Go.ChangeAt Go.RowKit
/-- Some number, drawn. -/
def GotZ (w : World) (b len : Nat) (e : Ending) (w' : World) : Prop := ∃ x : Int, e = .returned (.int .i64 x) ∧ Only b w w' ∧ Rd w' b len
theorem Rd.drew {w : World} {b len : Nat} (r : Rd w b len) : Rd w.drew b len := ⟨r.lt, r.small, r.bytes, r.place, r.free⟩
theorem Only.drew {b : Nat} {x y : World} (h : Only b x y) : Only b x y.drew := h.trans ⟨rfl, rfl, rfl, Nat.le_refl _, fun _ _ _ => rfl⟩
/-- A table that was built lies in block g. -/
def Tab (arr : Array Value) (w : World) (g : Nat) : Prop := g < w.heap.size ∧ ∀ k : Nat, w.cell? ⟨g, k, none⟩ = arr[k]?
theorem Tab.new (arr : Array Value) (t : TypeId) (w : World) : Tab arr (w.alloc (.cells arr t)) w.heap.size := ⟨by show _ < (w.heap.push _).size; simp, fun k => World.cell?_alloc_new w _ _ k⟩
theorem Tab.drew {arr : Array Value} {w : World} {g : Nat} (h : Tab arr w g) : Tab arr w.drew g := h
theorem Tab.only {arr : Array Value} {w w' : World} {g b : Nat} (h : Tab arr w g) (o : Only b w w') (hg : b < g) : Tab arr w' g := ⟨Nat.lt_of_lt_of_le h.1 o.size, fun k => (o.cell h.1 (by omega)).trans (h.2 k)⟩
end Go.Proofs.Ytmnmijiikjpdnaa.draw
