/-
  Plain helpers of this seat's proofs: worlds that grow, boxes, blocks of cells. Conditions: none.
-/
import Derived.Test.YtcpglphhhmgjkaaDoorRows
import Derived.Test.YtcpglphhhmgjkaaDoorLift
import Derived.Deep.Slices
import Derived.Deep.Strs
import Derived.Deep.QuietTactic
import Derived.BigQuiet
import Derived.Shelf.SlSortCmp.QuietGrown
namespace Go.Proofs.YtcpglphhhmgjkaaDoor.gen
open Go.ChangeShapes Go.WideShapes Go.ChangeAt Go.RowKit
theorem bAl {B : Nat} {w w' : World} (h : Below B w w') (hB : B ≤ w.heap.size) (o : Obj) : Below B w (w'.alloc o) := h.alloc (Nat.le_trans hB h.size) o

/-- Some draws later, with some blocks laid behind it. -/
def Grew (w w' : World) : Prop := ∃ q os, w' = Go.Sort.grow (w.drewN q) os
theorem Grew.alloc (w : World) (o : Obj) : Grew w (w.alloc o) := ⟨0, #[o], by rw [Go.Sort.alloc_eq_grow]; rfl⟩
theorem Grew.refl (w : World) : Grew w w := ⟨0, #[], by rw [Go.Sort.grow_empty]; rfl⟩
theorem Grew.trans {a b c : World} (h : Grew a b) (k : Grew b c) : Grew a c := by
  obtain ⟨q, os, rfl⟩ := h
  obtain ⟨q', os', rfl⟩ := k
  exact ⟨q + q', os ++ os', by show Go.Sort.grow (Go.Sort.grow ((a.drewN q).drewN q') os) os' = _; rw [Go.Sort.grow_grow, World.drewN_drewN]⟩
theorem Grew.below {w w' : World} (h : Grew w w') : Below w.heap.size w w' := by
  obtain ⟨q, os, rfl⟩ := h
  exact ⟨rfl, rfl, rfl, by simp, fun k hk => Go.Sort.heap_grow_old (w.drewN q) os hk⟩
theorem Grew.step {B : Nat} {w a b : World} (h : Below B w a) (hB : B ≤ w.heap.size) (k : Grew a b) : Below B w b := h.trans (k.below.mono (Nat.le_trans hB h.size))
theorem Grew.drew (w : World) : Grew w w.drew := ⟨1, #[], by rw [Go.Sort.grow_empty]; rfl⟩
/-- A parameter's box, behind whatever has come. -/
theorem box_cell {w W : World} {cs : Array Value} {t : TypeId} (h : Below (w.heap.size + 1) (w.alloc (.cells cs t)) W) (i : Nat) {v : Value} (hv : cs[i]? = some v) : W.cell? ⟨w.heap.size, i, none⟩ = some v := by
  have e := h.cell (p := ⟨w.heap.size, i, none⟩) (Nat.lt_succ_self _)
  rw [e]
  unfold World.cell? World.alloc
  simp [hv]
theorem below_box {w W : World} {o : Obj} (h : Below (w.heap.size + 1) (w.alloc o) W) : Below w.heap.size w W :=
  ((Below.refl w.heap.size w).alloc (Nat.le_refl _) o).trans (h.mono (Nat.le_succ _))
theorem box_refl (w : World) (o : Obj) : Below (w.heap.size + 1) (w.alloc o) (w.alloc o) := Below.refl _ _
theorem box_step {w W W' : World} {o : Obj} (h : Below (w.heap.size + 1) (w.alloc o) W) (k : Below W.heap.size W W') : Below (w.heap.size + 1) (w.alloc o) W' :=
  h.trans (k.mono (by have := h.size; simp at this; exact this))
theorem box_al {w W : World} {o : Obj} (h : Below (w.heap.size + 1) (w.alloc o) W) (o' : Obj) : Below (w.heap.size + 1) (w.alloc o) (W.alloc o') := box_step h ((Below.refl _ _).alloc (Nat.le_refl _) _)

theorem cell_spot {w : World} {a : Addr} {v : Value} (h : w.cell? a = some v) : a.spot = none := World.cell?_spot h
/-- The first n cells of block g hold A. -/
structure Blk (w : World) (g n : Nat) (A : Nat → Value) : Prop where
  lt : g < w.heap.size
  cell : ∀ k, k < n → w.cell? ⟨g, k, none⟩ = some (A k)
  free : ∀ k, w.frozen? ⟨g, k, none⟩ = false
def upd (A : Nat → Value) (k : Nat) (v : Value) (i : Nat) : Value := if i = k then v else A i
theorem Blk.set {w : World} {g n k : Nat} {A : Nat → Value} (h : Blk w g n A) (hk : k < n) (v : Value) : Blk (w.setCell ⟨g, k, none⟩ v) g n (upd A k v) := by
  refine ⟨by simp [World.setCell]; exact h.lt, fun i hi => ?_, fun i => by rw [World.frozen?_setCell]; exact h.free i⟩
  unfold upd
  by_cases e : i = k
  · subst e
    rw [if_pos rfl]
    exact World.cell?_setCell_same' _ _ _ (by rw [h.cell i hk]; rfl)
  · rw [if_neg e]
    exact (World.cell?_setCell_other w ⟨g, k, none⟩ ⟨g, i, none⟩ _ (fun q => by injection q with q1 q2; omega)).trans (h.cell i hi)
theorem Blk.other {w : World} {g g' n k : Nat} {A : Nat → Value} (h : Blk w g n A) (hg : g ≠ g') (v : Value) : Blk (w.setCell ⟨g', k, none⟩ v) g n A :=
  ⟨by simp [World.setCell]; exact h.lt, fun i hi => (World.cell?_setCell_other w ⟨g', k, none⟩ ⟨g, i, none⟩ _ (fun q => by injection q with q1 q2; omega)).trans (h.cell i hi), fun i => by rw [World.frozen?_setCell]; exact h.free i⟩
theorem Blk.keep {w w' : World} {g n : Nat} {A : Nat → Value} (h : Blk w g n A) (e : w'.heap[g]? = w.heap[g]?) (hs : w.heap.size ≤ w'.heap.size) : Blk w' g n A :=
  ⟨Nat.lt_of_lt_of_le h.lt hs, fun i hi => by rw [World.cell?_of_block (w := w) (a := ⟨g, i, none⟩) e]; exact h.cell i hi, fun i => by rw [World.frozen?_of_block (w := w) (a := ⟨g, i, none⟩) e]; exact h.free i⟩
theorem Blk.below {w w' : World} {g n B : Nat} {A : Nat → Value} (h : Blk w g n A) (hb : Below B w w') (hg : g < B) : Blk w' g n A := h.keep (hb.block g hg) hb.size
theorem Blk.same {w : World} {g n : Nat} {A A' : Nat → Value} (h : Blk w g n A) (e : ∀ k, k < n → A' k = A k) : Blk w g n A' := ⟨h.lt, fun k hk => by rw [e k hk]; exact h.cell k hk, h.free⟩
theorem Blk.of_owns {w : World} {B e size g n cap : Nat} {xs : List Value} (h : w.ownsRow B e size (.slice (some ⟨g, 0, none⟩) n cap) n xs) : (∃ A, Blk w g (n * size) A ∧ ∀ k, k < n * size → xs[k]? = some (A k)) ∧ B ≤ g ∧ n ≤ cap := by
  obtain ⟨h1, h2⟩ := h
  rcases h2 with ⟨h2, _⟩ | ⟨g', cap', cur, hv, hg, hh, hn, hm, hs, ht⟩
  · cases h2
  · injection hv with q1 q2 q3
    injection q1 with q1
    injection q1 with q1 _ _
    subst q1 q3
    have lt : n * size ≤ cap * size := Nat.mul_le_mul_right _ hn
    have get : ∀ k, k < n * size → ∃ v, cur[k]? = some v ∧ xs[k]? = some v := fun k hk => by
      have hc : k < cur.size := by omega
      refine ⟨cur[k], Array.getElem?_eq_getElem hc, ?_⟩
      rw [← ht, List.getElem?_take, if_pos hk, Array.getElem?_toList, Array.getElem?_eq_getElem hc]
    refine ⟨⟨fun k => (cur[k]?).getD undef, ⟨(Array.getElem?_eq_some_iff.1 hh).1, fun k hk => ?_, fun k => ?_⟩, fun k hk => ?_⟩, hg, hn⟩
    · obtain ⟨v, hv, _⟩ := get k hk
      unfold World.cell?
      simp [hh, hv]
    · unfold World.frozen?
      simp [hh]
    · obtain ⟨v, hv, hx⟩ := get k hk
      rw [hx]
      show some v = some ((cur[k]?).getD undef)
      rw [hv]; rfl

end Go.Proofs.YtcpglphhhmgjkaaDoor.gen
