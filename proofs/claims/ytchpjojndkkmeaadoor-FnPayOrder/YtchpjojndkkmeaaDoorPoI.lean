/-
  Plain helpers of this seat's proofs: the contract of the landed PayoffOf. Conditions: none.
-/
import Derived.Test.YtchpjojndkkmeaaDoorOm
import Derived.RangeFuncNested
import Derived.RangeFuncBound
import Derived.RangeFuncCalls
import Derived.RangeFuncLeaves
import Derived.Shelf.Abstract
import Derived.Shelf.AbstractIn
import Derived.Shelf.RegionOpen
import Derived.OwnWalkIn
import Derived.TacticsInMore
import Derived.LoopNIn
import Derived.LoopIn
namespace Go.Proofs.YtchpjojndkkmeaaDoor.base
open Go.ChangeShapes Go.WideShapes Go.ChangeAt Go.RowKit
open seven (F7 zz Row At)
open pl (inR prOk pok)
open gen
end Go.Proofs.YtchpjojndkkmeaaDoor.base

namespace Go.Proofs.YtchpjojndkkmeaaDoor.base
open Go.ChangeShapes Go.WideShapes Go.ChangeAt Go.RowKit
open seven (F7 zz Row At)
open pl (inR prOk pok)
open gen
open Go.Shelf
attribute [local go_sem] Oper.semAt_some
theorem row_own {A B : World} {row : Option Nat} {a : Option Addr} {cap g : Nat} {l : List F7} (r : Row A a cap g l) (hg : A.grownBy B row) (hr : ∀ r, row = some r → ∃ o : Obj, A.heap[r]? = some o ∧ o.isCells = false) : Row B a cap g l := by
  refine r.keep fun h => ?_
  obtain ⟨o, ho, hc⟩ := cells_of_cell (r.cells 0 h).c0
  refine hg.block g (r.lt h) fun e => ?_
  obtain ⟨o', ho', hc'⟩ := hr g e.symm
  rw [show A.heap[g]? = some o from ho] at ho'
  cases ho'
  rw [hc] at hc'
  cases hc'
theorem frz_own {A B : World} {row : Option Nat} {ad : Addr} {v : Value} (h : A.cell? ad = some v) (f : A.frozen? ad = false) (hg : A.grownBy B row) (hr : ∀ r, row = some r → ∃ o : Obj, A.heap[r]? = some o ∧ o.isCells = false) : B.frozen? ad = false := by
  obtain ⟨o, ho, hc⟩ := cells_of_cell h
  have e : B.heap[ad.block]? = A.heap[ad.block]? := hg.block _ (Array.getElem?_eq_some_iff.1 ho).1 fun e => by
    obtain ⟨o', ho', hc'⟩ := hr _ e.symm
    rw [ho] at ho'
    cases ho'
    rw [hc] at hc'
    cases hc'
  rw [World.frozen?_of_block e]; exact f
theorem odC (a : Option Addr) (len cap : Nat) (w : World) : Calls Tryd.prog 41 #[.slice a len cap] w fun e w' => e = .returned (.func (.func 63) #[] #[.pointer (some ⟨w.heap.size, 0, none⟩)]) ∧ w' = w.alloc (.cells #[.slice a len cap] 22) := by
  go_enter Tryd.func41, Tryd.ntmps41
  go_wp2
  go_ret
  exact ⟨rfl, rfl⟩
end Go.Proofs.YtchpjojndkkmeaaDoor.base
