/-
  Plain helpers of this seat's proofs: the memory of the model's function that puts one post into a ledger. Conditions: none.
-/
import Derived.Test.YtnkdjnfbllkgiaaPutI
import Derived.Test.YtnkdjnfbllkgiaaFl
namespace Go.Proofs.Ytnkdjnfbllkgiaa.mp
open Go.ChangeShapes Go.WideShapes Go.ChangeAt Go.RowKit
open led (F5 z5 nn wn)
open five (Row At Blk)
/-- The post's box, the list that is made, the ledger. -/
structure Put (w wr : World) (g : Nat) (l : List F5) (q : F5) (v : Value) (out : List F5) : Prop where
  below : Below w.heap.size w wr
  box : Blk wr w.heap.size 5 (draw.cz q)
  own : wr.ownsRow (w.heap.size + 1) 52 5 v out.length (draw.fl out)
  live : v ≠ .slice none 0 0
  row : ∀ i, i < l.length → At wr g (i * 5) (l.getD i z5)
  low : 0 < l.length → g < w.heap.size
theorem Put.at {w wr : World} {g : Nat} {l : List F5} {q : F5} {v : Value} {out : List F5} (h : Put w wr g l q v out) : At wr w.heap.size 0 q :=
  ⟨h.box.cell 0 (by omega), h.box.cell 1 (by omega), h.box.cell 2 (by omega), h.box.cell 3 (by omega), h.box.cell 4 (by omega)⟩
theorem Put.step {w wr w1 : World} {g : Nat} {l : List F5} {q : F5} {v : Value} {out : List F5} (h : Put w wr g l q v out) (k : Below wr.heap.size wr w1) : Put w w1 g l q v out :=
  ⟨h.below.trans (k.mono h.below.size), h.box.below k h.box.lt, draw.owns_keep h.own fun b hb => k.block b (draw.own_lt h.own b hb), h.live, fun i hi => (h.row i hi).keep (k.block g (h.row i hi).lt), h.low⟩
theorem Put.grew {w wr w1 : World} {g : Nat} {l : List F5} {q : F5} {v : Value} {out : List F5} (h : Put w wr g l q v out) (k : five.Grew wr w1) : Put w w1 g l q v out := h.step k.below
theorem Put.drew {w wr : World} {g : Nat} {l : List F5} {q : F5} {v : Value} {out : List F5} (h : Put w wr g l q v out) : Put w wr.drew g l q v out := h.grew (five.Grew.drew wr)
theorem cz_upd (q : F5) (n : Int) : ∀ k, k < 5 → draw.cz (wn q n) k = five.upd (draw.cz q) 4 (.int .i64 n) k := fun k hk => by
  match k, hk with
  | 0, _ => rfl
  | 1, _ => rfl
  | 2, _ => rfl
  | 3, _ => rfl
  | 4, _ => rfl
theorem Put.setN {w wr : World} {g : Nat} {l : List F5} {q : F5} {v : Value} {out : List F5} (h : Put w wr g l q v out) (n : Int) : Put w (wr.setCell ⟨w.heap.size, 4, none⟩ (.int .i64 n)) g l (wn q n) v out := by
  refine ⟨h.below.setCell (p := ⟨w.heap.size, 4, none⟩) (Nat.le_refl _) _, (h.box.set (k := 4) (by omega) _).same (cz_upd q n), draw.owns_keep h.own fun b hb => Below.heap_setCell _ _ _ _ (by have := draw.own_ge h.own b hb; show b ≠ w.heap.size; omega), h.live, fun i hi => (h.row i hi).keep (Below.heap_setCell _ _ _ _ (by have := h.low (by omega); show g ≠ w.heap.size; omega)), h.low⟩
theorem Put.app {w wr w3 : World} {g : Nat} {l : List F5} {q z : F5} {v v3 : Value} {out : List F5} (h : Put w wr g l q v out) (o : Obj)
    (hown : w3.ownsRow (w.heap.size + 1) 52 5 v3 (out.length + 1) (draw.fl out ++ [.int .i64 z.1, .int .i64 z.2.1, .int .i64 z.2.2.1, .int .i64 z.2.2.2.1, .int .i64 z.2.2.2.2])) (hgrow : (wr.alloc o).grownBy w3 v.ownBlock) (hn : ¬ v3 = .slice none 0 0) : Put w w3 g l q v3 (out ++ [z]) := by
  have h1 := h.step ((five.Grew.alloc wr o).below)
  have kb : ∀ k, k < wr.heap.size → (∀ j, v.ownBlock = some j → k ≠ j) → w3.heap[k]? = (wr.alloc o).heap[k]? := fun k hk hne => hgrow.block k (by simp; omega) (fun e => hne k e.symm rfl)
  have bl : w.heap.size < wr.heap.size := h.box.lt
  have ge : ∀ j, v.ownBlock = some j → w.heap.size + 1 ≤ j := draw.own_ge h.own
  refine ⟨h1.below.grown hgrow (by simp; omega) (fun j hj => by have := ge j hj; omega), h1.box.keep (kb _ bl fun j hj => by have := ge j hj; omega) hgrow.size, ?_, hn, fun i hi => ?_, h.low⟩
  · rw [List.length_append, draw.fl_app]; exact hown
  · have lg := h.low (by omega)
    exact (h1.row i hi).keep (kb g (by omega) fun j hj => by have := ge j hj; omega)
end Go.Proofs.Ytnkdjnfbllkgiaa.mp
