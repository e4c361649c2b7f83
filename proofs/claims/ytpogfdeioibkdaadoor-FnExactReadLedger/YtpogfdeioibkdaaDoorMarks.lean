/-
  Plain helpers: contracts of the functions that mark a slice of numbers and find the marks again. Conditions: none.
-/
import Derived.Test.YtpogfdeioibkdaaDoorInts
namespace Go.Proofs.YtpogfdeioibkdaaDoor.rows
open Go.ChangeShapes Go.WideShapes Go.ChangeAt Go.RowKit

/-- Block g has been marked up to place j, and nothing else has turned. -/
structure Marked (w wr : World) (g n j : Nat) : Prop where
  os : wr.os = w.os
  tape : wr.tape = w.tape
  output : wr.output = w.output
  size : wr.heap.size = w.heap.size
  other : ∀ k, (k = g → n = 0) → wr.heap[k]? = w.heap[k]?
  done : ∀ i, i < j → wr.cell? ⟨g, i, none⟩ = some (.int .i64 (1 + (i : Int)))
  rest : ∀ i, j ≤ i → i < n → ∃ v, wr.cell? ⟨g, i, none⟩ = some v
  free : 0 < n → ∀ i, wr.frozen? ⟨g, i, none⟩ = false

theorem Marked.step {w wr : World} {g n j : Nat} (h : Marked w wr g n j) (hj : j < n) : Marked w (wr.setCell ⟨g, j, none⟩ (.int .i64 (1 + (j : Int)))) g n (j + 1) := by
  refine ⟨h.os, h.tape, h.output, by simp [World.setCell, h.size], fun k hk => ?_, fun i hi => ?_, fun i hi hn => ?_, fun hn i => by rw [World.frozen?_setCell]; exact h.free hn i⟩
  · rw [Below.heap_setCell _ _ _ _ (show k ≠ g from fun e => by have := hk e; omega)]; exact h.other k hk
  · by_cases e : i = j
    · subst e
      obtain ⟨v, hv⟩ := h.rest i (Nat.le_refl _) hj
      exact World.cell?_setCell_same' _ _ _ (by rw [hv]; rfl)
    · exact (World.cell?_setCell_other wr ⟨g, j, none⟩ ⟨g, i, none⟩ _ (fun q => by injection q with q1 q2; omega)).trans (h.done i (by omega))
  · obtain ⟨v, hv⟩ := h.rest i (by omega) hn
    exact ⟨v, (World.cell?_setCell_other wr ⟨g, j, none⟩ ⟨g, i, none⟩ _ (fun q => by injection q with q1 q2; omega)).trans hv⟩
theorem Marked.start {w : World} {a : Option Addr} {cap g : Nat} {zs : List Int} (r : Row w a cap g zs) : Marked w w g zs.length 0 :=
  ⟨rfl, rfl, rfl, rfl, fun _ _ => rfl, fun i hi => by omega, fun i _ hn => ⟨_, r.cells i hn⟩, r.free⟩
theorem Marked.below {w wr : World} {g n j B : Nat} (h : Marked w wr g n j) (hg : 0 < n → B ≤ g) : Below B w wr :=
  ⟨h.os, h.tape, h.output, by rw [h.size]; exact Nat.le_refl _, fun k hk => h.other k (fun e => by rcases Nat.eq_zero_or_pos n with z | p; exact z; have := hg p; omega)⟩

/-- The marks of a slice, as a walk finds them. -/
structure Marks (w : World) (a : Option Addr) (cap g n : Nat) : Prop where
  addr : 0 < n → a = some ⟨g, 0, none⟩
  room : n ≤ cap
  cells : ∀ i, i < n → w.cell? ⟨g, i, none⟩ = some (.int .i64 (1 + (i : Int)))
theorem Marks.keep {w w' : World} {a : Option Addr} {cap g n : Nat} (r : Marks w a cap g n) (hb : 0 < n → w'.heap[g]? = w.heap[g]?) : Marks w' a cap g n :=
  ⟨r.addr, r.room, fun i hi => by rw [World.cell?_of_block (w := w) (a := ⟨g, i, none⟩) (hb (by omega))]; exact r.cells i hi⟩

def MarkPost (w : World) (g n : Nat) (e : Ending) (w' : World) : Prop := e = .returned (.int .i64 (1 + (n : Int))) ∧ Marked w w' g n n

end Go.Proofs.YtpogfdeioibkdaaDoor.rows
