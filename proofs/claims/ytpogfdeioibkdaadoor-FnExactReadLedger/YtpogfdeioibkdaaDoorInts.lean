/-
  Plain helpers: slices of numbers in memory, and contracts of the functions that compare them. Conditions: none.
-/
import Derived.Test.YtpogfdeioibkdaaDoorRows
import Derived.Test.YtpogfdeioibkdaaDoorLift
import Derived.Deep.QuietTactic
import Derived.BigQuiet
namespace Go.Proofs.YtpogfdeioibkdaaDoor.rows
open Go.ChangeShapes Go.WideShapes Go.ChangeAt Go.RowKit

/-- A slice of 64-bit numbers in block g of memory: nil, or the cells from the block's head on. -/
structure Row (w : World) (a : Option Addr) (cap g : Nat) (zs : List Int) : Prop where
  addr : 0 < zs.length → a = some ⟨g, 0, none⟩
  room : zs.length ≤ cap
  cells : ∀ i, i < zs.length → w.cell? ⟨g, i, none⟩ = some (.int .i64 (zs.getD i 0))
  free : 0 < zs.length → ∀ i, w.frozen? ⟨g, i, none⟩ = false

theorem of_owns {w : World} {B : Nat} {v : Value} {zs : List Int} (h : w.ownsRow B 2 1 v zs.length (zs.map (Value.int .i64))) :
    ∃ a cap g, v = .slice a zs.length cap ∧ Row w a cap g zs ∧ (0 < zs.length → B ≤ g ∧ g < w.heap.size) := by
  obtain ⟨h1, h2⟩ := h
  rcases h2 with ⟨rfl, h2⟩ | ⟨g, cap, cur, rfl, hg, hh, hn, hm, hs, ht⟩
  · refine ⟨none, 0, 0, by rw [h2], ⟨fun h => by omega, by omega, fun i hi => by omega, fun h => by omega⟩, fun h => by omega⟩
  · refine ⟨_, cap, g, rfl, ⟨fun _ => rfl, hn, fun i hi => ?_, fun _ i => ?_⟩, fun _ => ⟨hg, (Array.getElem?_eq_some_iff.1 hh).1⟩⟩
    · have e : cur[i]? = some (.int .i64 (zs.getD i 0)) := by
        have q : (cur.toList.take (zs.length * 1))[i]? = (zs.map (Value.int .i64))[i]? := by rw [ht]
        rw [Nat.mul_one, List.getElem?_take, if_pos hi] at q
        rw [← Array.getElem?_toList, q]
        simp [List.getElem?_map, List.getElem?_eq_getElem hi]
      unfold World.cell?
      simp [hh, e]
    · unfold World.frozen?
      simp [hh]

theorem Row.keep {w w' : World} {a : Option Addr} {cap g : Nat} {zs : List Int} (r : Row w a cap g zs) (hb : 0 < zs.length → w'.heap[g]? = w.heap[g]?) : Row w' a cap g zs := by
  refine ⟨r.addr, r.room, fun i hi => ?_, fun h i => ?_⟩
  · rw [World.cell?_of_block (w := w) (a := ⟨g, i, none⟩) (hb (by omega))]; exact r.cells i hi
  · rw [World.frozen?_of_block (w := w) (a := ⟨g, i, none⟩) (hb h)]; exact r.free h i

def Drawn (w : World) (t : Bool) (e : Ending) (w' : World) : Prop := e = .returned (.bool t) ∧ ∃ n, w' = w.drewN n


end Go.Proofs.YtpogfdeioibkdaaDoor.rows
