/-
  Plain helpers of this seat's proofs: contracts of the function that marks a slice of Parts. Conditions: none.
-/
import Derived.Test.YtchpjojndkkmeaaDoorSev
namespace Go.Proofs.YtchpjojndkkmeaaDoor.seven
open Go.ChangeShapes Go.WideShapes Go.ChangeAt Go.RowKit
open gen
/-- Block g has been marked up to place j, and nothing else has turned. -/
structure Marked (w wr : World) (g n j : Nat) : Prop where
  os : wr.os = w.os
  tape : wr.tape = w.tape
  output : wr.output = w.output
  size : wr.heap.size = w.heap.size
  other : ∀ k, (k = g → n = 0) → wr.heap[k]? = w.heap[k]?
  done : ∀ i, i < j → wr.cell? ⟨g, i, none⟩ = some (.int .i64 (1 + (i : Int)))
  rest : ∀ i, j ≤ i → i < n → ∃ v, wr.cell? ⟨g, i, none⟩ = some v
  free : 0 < n → ∀ i, wr.frozen? ⟨g, i, none⟩ = false
theorem Marked.step {w wr : World} {g n j : Nat} (h : Marked w wr g n j) (hj : j < n) : Marked w (wr.setCell ⟨g, j, none⟩ (.int .i64 (1 + (j : Int)))) g n (j + 1) := by
  refine ⟨h.os, h.tape, h.output, by simp [World.setCell, h.size], fun k hk => ?_, fun i hi => ?_, fun i hi hn => ?_, fun hn i => by rw [World.frozen?_setCell]; exact h.free hn i⟩
  · rw [Below.heap_setCell _ _ _ _ (show k ≠ g from fun e => by have := hk e; omega)]; exact h.other k hk
  · by_cases e : i = j
    · subst e
      obtain ⟨v, hv⟩ := h.rest i (Nat.le_refl _) hj
      exact World.cell?_setCell_same' _ _ _ (by rw [hv]; rfl)
    · exact (World.cell?_setCell_other wr ⟨g, j, none⟩ ⟨g, i, none⟩ _ (fun q => by injection q with q1 q2; omega)).trans (h.done i (by omega))
  · obtain ⟨v, hv⟩ := h.rest i (by omega) hn
    exact ⟨v, (World.cell?_setCell_other wr ⟨g, j, none⟩ ⟨g, i, none⟩ _ (fun q => by injection q with q1 q2; omega)).trans hv⟩
theorem Marked.below {w wr : World} {g n j B : Nat} (h : Marked w wr g n j) (hg : 0 < n → B ≤ g) : Below B w wr :=
  ⟨h.os, h.tape, h.output, by rw [h.size]; exact Nat.le_refl _, fun k hk => h.other k (fun e => by rcases Nat.eq_zero_or_pos n with z | p; exact z; have := hg p; omega)⟩
theorem stepN {w wr : World} {g N j : Nat} (h : Marked w wr g N j) (hj : j + 7 ≤ N) {v0 v1 v2 v3 v4 v5 v6 : Int} (e0 : v0 = 1 + (j : Int)) (e1 : v1 = 1 + ((j + 1 : Nat) : Int)) (e2 : v2 = 1 + ((j + 2 : Nat) : Int)) (e3 : v3 = 1 + ((j + 3 : Nat) : Int)) (e4 : v4 = 1 + ((j + 4 : Nat) : Int)) (e5 : v5 = 1 + ((j + 5 : Nat) : Int)) (e6 : v6 = 1 + ((j + 6 : Nat) : Int)) :
    Marked w (((((((wr.setCell ⟨g, j, none⟩ (.int .i64 v0)).setCell ⟨g, j + 1, none⟩ (.int .i64 v1)).setCell ⟨g, j + 2, none⟩ (.int .i64 v2)).setCell ⟨g, j + 3, none⟩ (.int .i64 v3)).setCell ⟨g, j + 4, none⟩ (.int .i64 v4)).setCell ⟨g, j + 5, none⟩ (.int .i64 v5)).setCell ⟨g, j + 6, none⟩ (.int .i64 v6)) g N (j + 7) := by
  subst e0 e1 e2 e3 e4 e5 e6
  exact ((((((h.step (by omega)).step (by omega)).step (by omega)).step (by omega)).step (by omega)).step (by omega)).step (by omega)
theorem startN {w : World} {a : Option Addr} {cap g : Nat} {l : List F7} (r : Row w a cap g l) : Marked w w g (l.length * 7) 0 := by
  refine ⟨rfl, rfl, rfl, rfl, fun _ _ => rfl, fun i hi => by omega, fun i _ hn => ?_, fun h => r.free (by omega)⟩
  have hc := r.cells (i / 7) (by omega)
  have e : i = i / 7 * 7 + i % 7 := by omega
  have m : i % 7 < 7 := Nat.mod_lt _ (by omega)
  rw [e]
  generalize i % 7 = k at m
  match k, m with
  | 0, _ => exact ⟨_, hc.c0⟩
  | 1, _ => exact ⟨_, hc.c1⟩
  | 2, _ => exact ⟨_, hc.c2⟩
  | 3, _ => exact ⟨_, hc.c3⟩
  | 4, _ => exact ⟨_, hc.c4⟩
  | 5, _ => exact ⟨_, hc.c5⟩
  | 6, _ => exact ⟨_, hc.c6⟩
def MarkPost (w : World) (g n : Nat) (e : Ending) (w' : World) : Prop := e = .returned (.int .i64 (1 + ((n * 7 : Nat) : Int))) ∧ Marked w w' g (n * 7) (n * 7)
set_option maxRecDepth 20000 in
set_option maxHeartbeats 2000000 in
theorem mark (w : World) (a : Option Addr) (cap g : Nat) (l : List F7) (r : Row w a cap g l) (hn : l.length ≤ 1048577) :
    Calls Tryd.prog 9 #[.slice a l.length cap, .int .i64 1] w (MarkPost w g l.length) := by
  have ST := Lib.hid (startN r)
  have e1 := r.addr
  have m1 := r.room
  clear r
  generalize l.length = n at *
  rcases Nat.eq_zero_or_pos n with rfl | hp
  · clear e1
    go_enter Tryd.func9, Tryd.ntmps9
    go_wp2
    go_loop [1, 5] (fun k i => i = .int .i64 0 ∧ k = .int .i64 1) (fun _ _ => 0)
    case atStart => exact ⟨rfl, rfl⟩
    case round =>
      obtain ⟨rfl, rfl⟩ := hrel
      go_wp2
      go_ret
      exact ⟨rfl, ST.out⟩
  · obtain rfl := e1 hp
    clear e1
    go_enter Tryd.func9, Tryd.ntmps9
    go_wp2
    go_loopw [1, 5] (fun kv i wr => ∃ k : Nat, k ≤ n ∧ i = .int .i64 k ∧ kv = .int .i64 (1 + (k : Int) * 7) ∧ Marked w wr g (n * 7) (k * 7)) (fun _ i _ => n - (intOf i).toNat)
    case atStart => exact ⟨0, by omega, rfl, by go_num, ST.out⟩
    case round =>
      obtain ⟨k, hk, rfl, rfl, hm⟩ := hrel
      have HM := Lib.hid hm
      by_cases hlt : k < n
      · obtain ⟨p0, r0⟩ := hm.rest (k * 7) (by omega) (by omega)
        obtain ⟨p1, r1⟩ := hm.rest (k * 7 + 1) (by omega) (by omega)
        obtain ⟨p2, r2⟩ := hm.rest (k * 7 + 2) (by omega) (by omega)
        obtain ⟨p3, r3⟩ := hm.rest (k * 7 + 3) (by omega) (by omega)
        obtain ⟨p4, r4⟩ := hm.rest (k * 7 + 4) (by omega) (by omega)
        obtain ⟨p5, r5⟩ := hm.rest (k * 7 + 5) (by omega) (by omega)
        obtain ⟨p6, r6⟩ := hm.rest (k * 7 + 6) (by omega) (by omega)
        have f0 := hm.free (by omega) (k * 7)
        have f1 := hm.free (by omega) (k * 7 + 1)
        have f2 := hm.free (by omega) (k * 7 + 2)
        have f3 := hm.free (by omega) (k * 7 + 3)
        have f4 := hm.free (by omega) (k * 7 + 4)
        have f5 := hm.free (by omega) (k * 7 + 5)
        have f6 := hm.free (by omega) (k * 7 + 6)
        clear hm
        have y1 : (k : Int) < (n : Int) := by omega
        have u1 : decide (k < n) = true := by simp; omega
        go_wp2
        go_roundw
        case rel => exact ⟨k + 1, by omega, by go_num, by go_num, by rw [Nat.succ_mul]; exact stepN HM.out (by omega) (by omega) (by omega) (by omega) (by omega) (by omega) (by omega) (by omega)⟩
        case measure => simp [intOf]; omega
      · clear hm
        have u1 : decide (k < n) = false := by simp; omega
        obtain rfl : k = n := by omega
        go_wp2
        go_ret
        exact ⟨by go_num, HM.out⟩
/-- The marks of a slice, as a walk finds them. -/
structure Mks (w : World) (a : Option Addr) (cap g n : Nat) : Prop where
  addr : 0 < n → a = some ⟨g, 0, none⟩
  room : n ≤ cap
  cells : ∀ i, i < n * 7 → w.cell? ⟨g, i, none⟩ = some (.int .i64 (1 + (i : Int)))
theorem Mks.keep {w w' : World} {a : Option Addr} {cap g n : Nat} (r : Mks w a cap g n) (hb : 0 < n → w'.heap[g]? = w.heap[g]?) : Mks w' a cap g n :=
  ⟨r.addr, r.room, fun i hi => by rw [World.cell?_of_block (w := w) (a := ⟨g, i, none⟩) (hb (by omega))]; exact r.cells i hi⟩
end Go.Proofs.YtchpjojndkkmeaaDoor.seven
