/-
  Plain helpers of this seat's proofs: slices of numbers and blocks in memory. Conditions: none.
-/
import Derived.Test.YtchpjojndkkmeaaDoorRows
import Derived.Test.YtchpjojndkkmeaaDoorLift
import Derived.Deep.QuietTactic
import Derived.BigQuiet
namespace Go.Proofs.YtchpjojndkkmeaaDoor.rows
open Go.ChangeShapes Go.WideShapes Go.ChangeAt Go.RowKit
/-- A slice of 64-bit numbers in block g of memory: nil, or the cells from the block's head on. -/
structure Row (w : World) (a : Option Addr) (cap g : Nat) (zs : List Int) : Prop where
  addr : 0 < zs.length → a = some ⟨g, 0, none⟩
  room : zs.length ≤ cap
  cells : ∀ i, i < zs.length → w.cell? ⟨g, i, none⟩ = some (.int .i64 (zs.getD i 0))
  free : 0 < zs.length → ∀ i, w.frozen? ⟨g, i, none⟩ = false
theorem of_owns {w : World} {B : Nat} {v : Value} {zs : List Int} (h : w.ownsRow B 2 1 v zs.length (zs.map (Value.int .i64))) :
    ∃ a cap g, v = .slice a zs.length cap ∧ Row w a cap g zs ∧ (0 < zs.length → B ≤ g ∧ g < w.heap.size) := by
  obtain ⟨h1, h2⟩ := h
  rcases h2 with ⟨rfl, h2⟩ | ⟨g, cap, cur, rfl, hg, hh, hn, hm, hs, ht⟩
  · refine ⟨none, 0, 0, by rw [h2], ⟨fun h => by omega, by omega, fun i hi => by omega, fun h => by omega⟩, fun h => by omega⟩
  · refine ⟨_, cap, g, rfl, ⟨fun _ => rfl, hn, fun i hi => ?_, fun _ i => ?_⟩, fun _ => ⟨hg, (Array.getElem?_eq_some_iff.1 hh).1⟩⟩
    · have e : cur[i]? = some (.int .i64 (zs.getD i 0)) := by
        have q : (cur.toList.take (zs.length * 1))[i]? = (zs.map (Value.int .i64))[i]? := by rw [ht]
        rw [Nat.mul_one, List.getElem?_take, if_pos hi] at q
        rw [← Array.getElem?_toList, q]
        simp [List.getElem?_map, List.getElem?_eq_getElem hi]
      unfold World.cell?
      simp [hh, e]
    · unfold World.frozen?
      simp [hh]
theorem Row.keep {w w' : World} {a : Option Addr} {cap g : Nat} {zs : List Int} (r : Row w a cap g zs) (hb : 0 < zs.length → w'.heap[g]? = w.heap[g]?) : Row w' a cap g zs := by
  refine ⟨r.addr, r.room, fun i hi => ?_, fun h i => ?_⟩
  · rw [World.cell?_of_block (w := w) (a := ⟨g, i, none⟩) (hb (by omega))]; exact r.cells i hi
  · rw [World.frozen?_of_block (w := w) (a := ⟨g, i, none⟩) (hb h)]; exact r.free h i
/-- The first n cells of block g hold A. -/
structure Blk (w : World) (g n : Nat) (A : Nat → Value) : Prop where
  lt : g < w.heap.size
  cell : ∀ k, k < n → w.cell? ⟨g, k, none⟩ = some (A k)
  free : ∀ k, w.frozen? ⟨g, k, none⟩ = false
def upd (A : Nat → Value) (k : Nat) (v : Value) (i : Nat) : Value := if i = k then v else A i
theorem Blk.set {w : World} {g n k : Nat} {A : Nat → Value} (h : Blk w g n A) (hk : k < n) (v : Value) : Blk (w.setCell ⟨g, k, none⟩ v) g n (upd A k v) := by
  refine ⟨by simp [World.setCell]; exact h.lt, fun i hi => ?_, fun i => by rw [World.frozen?_setCell]; exact h.free i⟩
  unfold upd
  by_cases e : i = k
  · subst e
    rw [if_pos rfl]
    exact World.cell?_setCell_same' _ _ _ (by rw [h.cell i hk]; rfl)
  · rw [if_neg e]
    exact (World.cell?_setCell_other w ⟨g, k, none⟩ ⟨g, i, none⟩ _ (fun q => by injection q with q1 q2; omega)).trans (h.cell i hi)
theorem Blk.other {w : World} {g g' n k : Nat} {A : Nat → Value} (h : Blk w g n A) (hg : g ≠ g') (v : Value) : Blk (w.setCell ⟨g', k, none⟩ v) g n A :=
  ⟨by simp [World.setCell]; exact h.lt, fun i hi => (World.cell?_setCell_other w ⟨g', k, none⟩ ⟨g, i, none⟩ _ (fun q => by injection q with q1 q2; omega)).trans (h.cell i hi), fun i => by rw [World.frozen?_setCell]; exact h.free i⟩
theorem Blk.keep {w w' : World} {g n : Nat} {A : Nat → Value} (h : Blk w g n A) (e : w'.heap[g]? = w.heap[g]?) (hs : w.heap.size ≤ w'.heap.size) : Blk w' g n A :=
  ⟨Nat.lt_of_lt_of_le h.lt hs, fun i hi => by rw [World.cell?_of_block (w := w) (a := ⟨g, i, none⟩) e]; exact h.cell i hi, fun i => by rw [World.frozen?_of_block (w := w) (a := ⟨g, i, none⟩) e]; exact h.free i⟩
theorem Blk.below {w w' : World} {g n B : Nat} {A : Nat → Value} (h : Blk w g n A) (hb : Below B w w') (hg : g < B) : Blk w' g n A := h.keep (hb.block g hg) hb.size
theorem Blk.same {w : World} {g n : Nat} {A A' : Nat → Value} (h : Blk w g n A) (e : ∀ k, k < n → A' k = A k) : Blk w g n A' := ⟨h.lt, fun k hk => by rw [e k hk]; exact h.cell k hk, h.free⟩
theorem Blk.of_owns {w : World} {B e size g n cap : Nat} {xs : List Value} (h : w.ownsRow B e size (.slice (some ⟨g, 0, none⟩) n cap) n xs) : (∃ A, Blk w g (n * size) A ∧ ∀ k, k < n * size → xs[k]? = some (A k)) ∧ B ≤ g ∧ n ≤ cap := by
  obtain ⟨h1, h2⟩ := h
  rcases h2 with ⟨h2, _⟩ | ⟨g', cap', cur, hv, hg, hh, hn, hm, hs, ht⟩
  · cases h2
  · injection hv with q1 q2 q3
    injection q1 with q1
    injection q1 with q1 _ _
    subst q1 q3
    have lt : n * size ≤ cap * size := Nat.mul_le_mul_right _ hn
    have get : ∀ k, k < n * size → ∃ v, cur[k]? = some v ∧ xs[k]? = some v := fun k hk => by
      have hc : k < cur.size := by omega
      refine ⟨cur[k], Array.getElem?_eq_getElem hc, ?_⟩
      rw [← ht, List.getElem?_take, if_pos hk, Array.getElem?_toList, Array.getElem?_eq_getElem hc]
    refine ⟨⟨fun k => (cur[k]?).getD undef, ⟨(Array.getElem?_eq_some_iff.1 hh).1, fun k hk => ?_, fun k => ?_⟩, fun k hk => ?_⟩, hg, hn⟩
    · obtain ⟨v, hv, _⟩ := get k hk
      unfold World.cell?
      simp [hh, hv]
    · unfold World.frozen?
      simp [hh]
    · obtain ⟨v, hv, hx⟩ := get k hk
      rw [hx]
      show some v = some ((cur[k]?).getD undef)
      rw [hv]; rfl
theorem Blk.row {w : World} {g n cap : Nat} {A : Nat → Value} {zs : List Int} (h : Blk w g n A) (hl : zs.length = n) (hc : n ≤ cap) (e : ∀ k, k < n → A k = .int .i64 (zs.getD k 0)) : Row w (some ⟨g, 0, none⟩) cap g zs :=
  ⟨fun _ => rfl, by omega, fun i hi => by rw [h.cell i (by omega), e i (by omega)], fun _ i => h.free i⟩
theorem info2 : (Tryd.prog.info? 2).map (fun i => (i.zero, i.size, i.bytes)) = some (some (.int .i64 0), 1, 8) := by kernel_rfl
end Go.Proofs.YtchpjojndkkmeaaDoor.rows
