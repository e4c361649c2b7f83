/-
  Plain helpers of this seat's proofs: boxes of any cells, that may be written. Conditions: none.
-/
import Derived.Test.YtcpglphhhmgjkaaDoorGen
namespace Go.Proofs.YtcpglphhhmgjkaaDoor.gen
open Go.ChangeShapes Go.WideShapes Go.ChangeAt Go.RowKit
def cf (cs : Array Value) (i : Nat) : Value := (cs[i]?).getD undef
theorem Blk.new (w : World) (cs : Array Value) (t : TypeId) (n : Nat) (hn : cs.size = n) : Blk (w.alloc (.cells cs t)) w.heap.size n (cf cs) :=
  ⟨by simp, fun i hi => box_cell (box_refl w _) i (by unfold cf; rw [Array.getElem?_eq_getElem (by omega)]; rfl), fun i => World.frozen?_alloc_new w _ _ i⟩
theorem Blk.al {w : World} {b n : Nat} {A : Nat → Value} (h : Blk w b n A) (o : Obj) : Blk (w.alloc o) b n A := h.keep (Below.heap_alloc w o b h.lt) (by simp)
theorem Blk.drew {w : World} {b n : Nat} {A : Nat → Value} (h : Blk w b n A) : Blk w.drew b n A := h.keep rfl (Nat.le_refl _)
theorem Blk.lit {w : World} {b n : Nat} {A A' : Nat → Value} (h : Blk w b n A) (e : ∀ i, i < n → A' i = A i) : Blk w b n A' := h.same e
theorem sz_al (w : World) (o : Obj) : (w.alloc o).heap.size = w.heap.size + 1 := by simp
theorem sz_set (w : World) (a : Addr) (v : Value) : (w.setCell a v).heap.size = w.heap.size := by simp [World.setCell]
end Go.Proofs.YtcpglphhhmgjkaaDoor.gen
