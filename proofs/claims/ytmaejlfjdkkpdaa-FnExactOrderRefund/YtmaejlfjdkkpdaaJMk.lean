/-
  Plain helpers of this seat's proofs: orders whose lists lie between two places. Conditions: none.
-/
import Derived.Test.YtmaejlfjdkkpdaaSev
import Derived.Test.YtmaejlfjdkkpdaaFou
import Derived.Test.YtmaejlfjdkkpdaaPls
import Derived.Test.YtmaejlfjdkkpdaaOrd
import Derived.Test.YtmaejlfjdkkpdaaBxs
import Derived.Test.YtmaejlfjdkkpdaaRs6
namespace Go.Proofs.Ytmaejlfjdkkpdaa.seven
open Go.ChangeShapes Go.WideShapes Go.ChangeAt Go.RowKit
open gen
/-- Block g has been marked up to place j, and nothing else has turned. -/
structure Marked (m : Int) (w wr : World) (g n j : Nat) : Prop where
  os : wr.os = w.os
  tape : wr.tape = w.tape
  output : wr.output = w.output
  size : wr.heap.size = w.heap.size
  other : ∀ k, (k = g → n = 0) → wr.heap[k]? = w.heap[k]?
  done : ∀ i, i < j → wr.cell? ⟨g, i, none⟩ = some (.int .i64 (m + (i : Int)))
  rest : ∀ i, j ≤ i → i < n → ∃ v, wr.cell? ⟨g, i, none⟩ = some v
  free : 0 < n → ∀ i, wr.frozen? ⟨g, i, none⟩ = false
theorem Marked.step {m : Int} {w wr : World} {g n j : Nat} (h : Marked m w wr g n j) (hj : j < n) : Marked m w (wr.setCell ⟨g, j, none⟩ (.int .i64 (m + (j : Int)))) g n (j + 1) := by
  refine ⟨h.os, h.tape, h.output, by simp [World.setCell, h.size], fun k hk => ?_, fun i hi => ?_, fun i hi hn => ?_, fun hn i => by rw [World.frozen?_setCell]; exact h.free hn i⟩
  · rw [Below.heap_setCell _ _ _ _ (show k ≠ g from fun e => by have := hk e; omega)]; exact h.other k hk
  · by_cases e : i = j
    · subst e
      obtain ⟨v, hv⟩ := h.rest i (Nat.le_refl _) hj
      exact World.cell?_setCell_same' _ _ _ (by rw [hv]; rfl)
    · exact (World.cell?_setCell_other wr ⟨g, j, none⟩ ⟨g, i, none⟩ _ (fun q => by injection q with q1 q2; omega)).trans (h.done i (by omega))
  · obtain ⟨v, hv⟩ := h.rest i (by omega) hn
    exact ⟨v, (World.cell?_setCell_other wr ⟨g, j, none⟩ ⟨g, i, none⟩ _ (fun q => by injection q with q1 q2; omega)).trans hv⟩
theorem Marked.below {m : Int} {w wr : World} {g n j B : Nat} (h : Marked m w wr g n j) (hg : 0 < n → B ≤ g) : Below B w wr :=
  ⟨h.os, h.tape, h.output, by rw [h.size]; exact Nat.le_refl _, fun k hk => h.other k (fun e => by rcases Nat.eq_zero_or_pos n with z | p; exact z; have := hg p; omega)⟩
theorem stepN {m : Int} {w wr : World} {g N j : Nat} (h : Marked m w wr g N j) (hj : j + 7 ≤ N) {v0 v1 v2 v3 v4 v5 v6 : Int} (e0 : v0 = m + (j : Int)) (e1 : v1 = m + ((j + 1 : Nat) : Int)) (e2 : v2 = m + ((j + 2 : Nat) : Int)) (e3 : v3 = m + ((j + 3 : Nat) : Int)) (e4 : v4 = m + ((j + 4 : Nat) : Int)) (e5 : v5 = m + ((j + 5 : Nat) : Int)) (e6 : v6 = m + ((j + 6 : Nat) : Int)) :
    Marked m w (((((((wr.setCell ⟨g, j, none⟩ (.int .i64 v0)).setCell ⟨g, j + 1, none⟩ (.int .i64 v1)).setCell ⟨g, j + 2, none⟩ (.int .i64 v2)).setCell ⟨g, j + 3, none⟩ (.int .i64 v3)).setCell ⟨g, j + 4, none⟩ (.int .i64 v4)).setCell ⟨g, j + 5, none⟩ (.int .i64 v5)).setCell ⟨g, j + 6, none⟩ (.int .i64 v6)) g N (j + 7) := by
  subst e0 e1 e2 e3 e4 e5 e6
  exact ((((((h.step (by omega)).step (by omega)).step (by omega)).step (by omega)).step (by omega)).step (by omega)).step (by omega)
theorem startN (m : Int) {w : World} {a : Option Addr} {cap g : Nat} {l : List F7} (r : Row w a cap g l) : Marked m w w g (l.length * 7) 0 := by
  refine ⟨rfl, rfl, rfl, rfl, fun _ _ => rfl, fun i hi => by omega, fun i _ hn => ?_, fun h => r.free (by omega)⟩
  have hc := r.cells (i / 7) (by omega)
  have e : i = i / 7 * 7 + i % 7 := by omega
  have m : i % 7 < 7 := Nat.mod_lt _ (by omega)
  rw [e]
  generalize i % 7 = k at m
  match k, m with
  | 0, _ => exact ⟨_, hc.c0⟩
  | 1, _ => exact ⟨_, hc.c1⟩
  | 2, _ => exact ⟨_, hc.c2⟩
  | 3, _ => exact ⟨_, hc.c3⟩
  | 4, _ => exact ⟨_, hc.c4⟩
  | 5, _ => exact ⟨_, hc.c5⟩
  | 6, _ => exact ⟨_, hc.c6⟩
def MarkPost (m : Int) (w : World) (g n : Nat) (e : Ending) (w' : World) : Prop := e = .returned (.int .i64 (m + ((n * 7 : Nat) : Int))) ∧ Marked m w w' g (n * 7) (n * 7)
set_option maxRecDepth 20000 in
set_option maxHeartbeats 2000000 in
theorem mark (m : Int) (hm0 : 0 ≤ m) (hm1 : m ≤ 100000000) (w : World) (a : Option Addr) (cap g : Nat) (l : List F7) (r : Row w a cap g l) (hn : l.length ≤ 1048577) :
    Calls Try.prog 102 #[.slice a l.length cap, .int .i64 m] w (MarkPost m w g l.length) := by
  have ST := Lib.hid (startN m r)
  have e1 := r.addr
  have m1 := r.room
  clear r
  generalize l.length = n at *
  rcases Nat.eq_zero_or_pos n with rfl | hp
  · clear e1
    go_enter Try.func102, Try.ntmps102
    go_wp2
    go_loop [1, 5] (fun k i => i = .int .i64 0 ∧ k = .int .i64 m) (fun _ _ => 0)
    case atStart => exact ⟨rfl, rfl⟩
    case round =>
      obtain ⟨rfl, rfl⟩ := hrel
      go_wp2
      go_ret
      exact ⟨show Ending.returned (Value.int .i64 m) = _ from by simp, ST.out⟩
  · obtain rfl := e1 hp
    clear e1
    go_enter Try.func102, Try.ntmps102
    go_wp2
    go_loopw [1, 5] (fun kv i wr => ∃ k : Nat, k ≤ n ∧ i = .int .i64 k ∧ kv = .int .i64 (m + (k : Int) * 7) ∧ Marked m w wr g (n * 7) (k * 7)) (fun _ i _ => n - (intOf i).toNat)
    case atStart => exact ⟨0, by omega, rfl, by go_num, ST.out⟩
    case round =>
      obtain ⟨k, hk, rfl, rfl, hmk⟩ := hrel
      have HM := Lib.hid hmk
      by_cases hlt : k < n
      · obtain ⟨p0, r0⟩ := hmk.rest (k * 7) (by omega) (by omega)
        obtain ⟨p1, r1⟩ := hmk.rest (k * 7 + 1) (by omega) (by omega)
        obtain ⟨p2, r2⟩ := hmk.rest (k * 7 + 2) (by omega) (by omega)
        obtain ⟨p3, r3⟩ := hmk.rest (k * 7 + 3) (by omega) (by omega)
        obtain ⟨p4, r4⟩ := hmk.rest (k * 7 + 4) (by omega) (by omega)
        obtain ⟨p5, r5⟩ := hmk.rest (k * 7 + 5) (by omega) (by omega)
        obtain ⟨p6, r6⟩ := hmk.rest (k * 7 + 6) (by omega) (by omega)
        have f0 := hmk.free (by omega) (k * 7)
        have f1 := hmk.free (by omega) (k * 7 + 1)
        have f2 := hmk.free (by omega) (k * 7 + 2)
        have f3 := hmk.free (by omega) (k * 7 + 3)
        have f4 := hmk.free (by omega) (k * 7 + 4)
        have f5 := hmk.free (by omega) (k * 7 + 5)
        have f6 := hmk.free (by omega) (k * 7 + 6)
        clear hmk
        have y1 : (k : Int) < (n : Int) := by omega
        have u1 : decide (k < n) = true := by simp; omega
        go_wp2
        go_roundw
        case rel => exact ⟨k + 1, by omega, by go_num, by go_num, by rw [Nat.succ_mul]; exact stepN HM.out (by omega) (by omega) (by omega) (by omega) (by omega) (by omega) (by omega) (by omega)⟩
        case measure => simp [intOf]; omega
      · clear hmk
        have u1 : decide (k < n) = false := by simp; omega
        obtain rfl : k = n := by omega
        go_wp2
        go_ret
        exact ⟨by go_num, HM.out⟩
/-- The marks of a slice, as a walk finds them. -/
structure Mks (m : Int) (w : World) (a : Option Addr) (cap g n : Nat) : Prop where
  addr : 0 < n → a = some ⟨g, 0, none⟩
  room : n ≤ cap
  cells : ∀ i, i < n * 7 → w.cell? ⟨g, i, none⟩ = some (.int .i64 (m + (i : Int)))
theorem Mks.keep {m : Int} {w w' : World} {a : Option Addr} {cap g n : Nat} (r : Mks m w a cap g n) (hb : 0 < n → w'.heap[g]? = w.heap[g]?) : Mks m w' a cap g n :=
  ⟨r.addr, r.room, fun i hi => by rw [World.cell?_of_block (w := w) (a := ⟨g, i, none⟩) (hb (by omega))]; exact r.cells i hi⟩
end Go.Proofs.Ytmaejlfjdkkpdaa.seven

namespace Go.Proofs.Ytmaejlfjdkkpdaa.seven
open Go.ChangeShapes Go.WideShapes Go.ChangeAt Go.RowKit
open gen
set_option maxRecDepth 20000 in
set_option maxHeartbeats 2000000 in
theorem held (m : Int) (hm0 : 0 ≤ m) (hm1 : m ≤ 100000000) (w : World) (a : Option Addr) (cap g n : Nat) (r : Mks m w a cap g n) (hn : n ≤ 1048577) :
    Calls Try.prog 103 #[.slice a n cap, .int .i64 m] w fun e w' => e = .returned (.int .i64 (m + ((n * 7 : Nat) : Int))) ∧ w = w' := by
  have R := Lib.hid r
  have e1 := r.addr
  have rm1 := r.room
  clear r
  rcases Nat.eq_zero_or_pos n with rfl | hp
  · clear e1
    go_enter Try.func103, Try.ntmps103
    go_wp2
    go_loop [1, 5] (fun k i => i = .int .i64 0 ∧ k = .int .i64 m) (fun _ _ => 0)
    case atStart => exact ⟨rfl, rfl⟩
    case round =>
      obtain ⟨rfl, rfl⟩ := hrel
      go_wp2
      go_ret
      exact ⟨show Ending.returned (Value.int .i64 m) = _ from by simp, rfl⟩
  · obtain rfl := e1 hp
    clear e1
    go_enter Try.func103, Try.ntmps103
    go_wp2
    go_loop [1, 5] (fun kv i => ∃ k : Nat, k ≤ n ∧ i = .int .i64 k ∧ kv = .int .i64 (m + (k : Int) * 7)) (fun _ i => n - (intOf i).toNat)
    case atStart => exact ⟨0, by omega, rfl, by go_num⟩
    case round =>
      obtain ⟨k, hk, rfl, rfl⟩ := hrel
      by_cases hlt : k < n
      · obtain ⟨m1, hm⟩ : ∃ m1 : Int, m1 = m + (k : Int) * 7 := ⟨_, rfl⟩
        have c0 : w.cell? ⟨g, k * 7, none⟩ = some (.int .i64 m1) := by rw [R.out.cells (k * 7) (by omega), hm]; simp
        have c1 : w.cell? ⟨g, k * 7 + 1, none⟩ = some (.int .i64 (m1 + 1)) := by rw [R.out.cells (k * 7 + 1) (by omega), hm]; simp; omega
        have c2 : w.cell? ⟨g, k * 7 + 2, none⟩ = some (.int .i64 (m1 + 2)) := by rw [R.out.cells (k * 7 + 2) (by omega), hm]; simp; omega
        have c3 : w.cell? ⟨g, k * 7 + 3, none⟩ = some (.int .i64 (m1 + 3)) := by rw [R.out.cells (k * 7 + 3) (by omega), hm]; simp; omega
        have c4 : w.cell? ⟨g, k * 7 + 4, none⟩ = some (.int .i64 (m1 + 4)) := by rw [R.out.cells (k * 7 + 4) (by omega), hm]; simp; omega
        have c5 : w.cell? ⟨g, k * 7 + 5, none⟩ = some (.int .i64 (m1 + 5)) := by rw [R.out.cells (k * 7 + 5) (by omega), hm]; simp; omega
        have c6 : w.cell? ⟨g, k * 7 + 6, none⟩ = some (.int .i64 (m1 + 6)) := by rw [R.out.cells (k * 7 + 6) (by omega), hm]; simp; omega
        have b1 : 0 ≤ m1 := by omega
        have b2 : m1 ≤ 200000000 := by omega
        have HMM := Lib.hid hm
        rw [← hm]
        clear hm
        have y1 : (k : Int) < (n : Int) := by omega
        have u1 : decide (k < n) = true := by simp; omega
        go_wp2
        go_round
        case rel => exact ⟨k + 1, by omega, by go_num, by have := HMM.out; simp; omega⟩
        case measure => simp [intOf]; omega
      · have u1 : decide (k < n) = false := by simp; omega
        obtain rfl : k = n := by omega
        go_wp2
        go_ret
        exact ⟨by go_num, rfl⟩
end Go.Proofs.Ytmaejlfjdkkpdaa.seven

namespace Go.Proofs.Ytmaejlfjdkkpdaa.four
open Go.ChangeShapes Go.WideShapes Go.ChangeAt Go.RowKit
open gen
/-- Block g has been marked up to place j, and nothing else has turned. -/
structure Marked (m : Int) (w wr : World) (g n j : Nat) : Prop where
  os : wr.os = w.os
  tape : wr.tape = w.tape
  output : wr.output = w.output
  size : wr.heap.size = w.heap.size
  other : ∀ k, (k = g → n = 0) → wr.heap[k]? = w.heap[k]?
  done : ∀ i, i < j → wr.cell? ⟨g, i, none⟩ = some (.int .i64 (m + (i : Int)))
  rest : ∀ i, j ≤ i → i < n → ∃ v, wr.cell? ⟨g, i, none⟩ = some v
  free : 0 < n → ∀ i, wr.frozen? ⟨g, i, none⟩ = false
theorem Marked.step {m : Int} {w wr : World} {g n j : Nat} (h : Marked m w wr g n j) (hj : j < n) : Marked m w (wr.setCell ⟨g, j, none⟩ (.int .i64 (m + (j : Int)))) g n (j + 1) := by
  refine ⟨h.os, h.tape, h.output, by simp [World.setCell, h.size], fun k hk => ?_, fun i hi => ?_, fun i hi hn => ?_, fun hn i => by rw [World.frozen?_setCell]; exact h.free hn i⟩
  · rw [Below.heap_setCell _ _ _ _ (show k ≠ g from fun e => by have := hk e; omega)]; exact h.other k hk
  · by_cases e : i = j
    · subst e
      obtain ⟨v, hv⟩ := h.rest i (Nat.le_refl _) hj
      exact World.cell?_setCell_same' _ _ _ (by rw [hv]; rfl)
    · exact (World.cell?_setCell_other wr ⟨g, j, none⟩ ⟨g, i, none⟩ _ (fun q => by injection q with q1 q2; omega)).trans (h.done i (by omega))
  · obtain ⟨v, hv⟩ := h.rest i (by omega) hn
    exact ⟨v, (World.cell?_setCell_other wr ⟨g, j, none⟩ ⟨g, i, none⟩ _ (fun q => by injection q with q1 q2; omega)).trans hv⟩
theorem Marked.below {m : Int} {w wr : World} {g n j B : Nat} (h : Marked m w wr g n j) (hg : 0 < n → B ≤ g) : Below B w wr :=
  ⟨h.os, h.tape, h.output, by rw [h.size]; exact Nat.le_refl _, fun k hk => h.other k (fun e => by rcases Nat.eq_zero_or_pos n with z | p; exact z; have := hg p; omega)⟩
theorem stepN {m : Int} {w wr : World} {g N j : Nat} (h : Marked m w wr g N j) (hj : j + 4 ≤ N) {v0 v1 v2 v3 : Int} (e0 : v0 = m + (j : Int)) (e1 : v1 = m + ((j + 1 : Nat) : Int)) (e2 : v2 = m + ((j + 2 : Nat) : Int)) (e3 : v3 = m + ((j + 3 : Nat) : Int)) :
    Marked m w ((((wr.setCell ⟨g, j, none⟩ (.int .i64 v0)).setCell ⟨g, j + 1, none⟩ (.int .i64 v1)).setCell ⟨g, j + 2, none⟩ (.int .i64 v2)).setCell ⟨g, j + 3, none⟩ (.int .i64 v3)) g N (j + 4) := by
  subst e0 e1 e2 e3
  exact (((h.step (by omega)).step (by omega)).step (by omega)).step (by omega)
theorem startN (m : Int) {w : World} {a : Option Addr} {cap g : Nat} {l : List F4} (r : Row w a cap g l) : Marked m w w g (l.length * 4) 0 := by
  refine ⟨rfl, rfl, rfl, rfl, fun _ _ => rfl, fun i hi => by omega, fun i _ hn => ?_, fun h => r.free (by omega)⟩
  have hc := r.cells (i / 4) (by omega)
  have e : i = i / 4 * 4 + i % 4 := by omega
  have m : i % 4 < 4 := Nat.mod_lt _ (by omega)
  rw [e]
  generalize i % 4 = k at m
  match k, m with
  | 0, _ => exact ⟨_, hc.c0⟩
  | 1, _ => exact ⟨_, hc.c1⟩
  | 2, _ => exact ⟨_, hc.c2⟩
  | 3, _ => exact ⟨_, hc.c3⟩
def MarkPost (m : Int) (w : World) (g n : Nat) (e : Ending) (w' : World) : Prop := e = .returned (.int .i64 (m + ((n * 4 : Nat) : Int))) ∧ Marked m w w' g (n * 4) (n * 4)
set_option maxRecDepth 20000 in
set_option maxHeartbeats 2000000 in
theorem mark (m : Int) (hm0 : 0 ≤ m) (hm1 : m ≤ 100000000) (w : World) (a : Option Addr) (cap g : Nat) (l : List F4) (r : Row w a cap g l) (hn : l.length ≤ 1048577) :
    Calls Try.prog 67 #[.slice a l.length cap, .int .i64 m] w (MarkPost m w g l.length) := by
  have ST := Lib.hid (startN m r)
  have e1 := r.addr
  have m1 := r.room
  clear r
  generalize l.length = n at *
  rcases Nat.eq_zero_or_pos n with rfl | hp
  · clear e1
    go_enter Try.func67, Try.ntmps67
    go_wp2
    go_loop [1, 5] (fun k i => i = .int .i64 0 ∧ k = .int .i64 m) (fun _ _ => 0)
    case atStart => exact ⟨rfl, rfl⟩
    case round =>
      obtain ⟨rfl, rfl⟩ := hrel
      go_wp2
      go_ret
      exact ⟨show Ending.returned (Value.int .i64 m) = _ from by simp, ST.out⟩
  · obtain rfl := e1 hp
    clear e1
    go_enter Try.func67, Try.ntmps67
    go_wp2
    go_loopw [1, 5] (fun kv i wr => ∃ k : Nat, k ≤ n ∧ i = .int .i64 k ∧ kv = .int .i64 (m + (k : Int) * 4) ∧ Marked m w wr g (n * 4) (k * 4)) (fun _ i _ => n - (intOf i).toNat)
    case atStart => exact ⟨0, by omega, rfl, by go_num, ST.out⟩
    case round =>
      obtain ⟨k, hk, rfl, rfl, hmk⟩ := hrel
      have HM := Lib.hid hmk
      by_cases hlt : k < n
      · obtain ⟨p0, r0⟩ := hmk.rest (k * 4) (by omega) (by omega)
        obtain ⟨p1, r1⟩ := hmk.rest (k * 4 + 1) (by omega) (by omega)
        obtain ⟨p2, r2⟩ := hmk.rest (k * 4 + 2) (by omega) (by omega)
        obtain ⟨p3, r3⟩ := hmk.rest (k * 4 + 3) (by omega) (by omega)
        have f0 := hmk.free (by omega) (k * 4)
        have f1 := hmk.free (by omega) (k * 4 + 1)
        have f2 := hmk.free (by omega) (k * 4 + 2)
        have f3 := hmk.free (by omega) (k * 4 + 3)
        clear hmk
        have y1 : (k : Int) < (n : Int) := by omega
        have u1 : decide (k < n) = true := by simp; omega
        go_wp2
        go_roundw
        case rel => exact ⟨k + 1, by omega, by go_num, by go_num, by rw [Nat.succ_mul]; exact stepN HM.out (by omega) (by omega) (by omega) (by omega) (by omega)⟩
        case measure => simp [intOf]; omega
      · clear hmk
        have u1 : decide (k < n) = false := by simp; omega
        obtain rfl : k = n := by omega
        go_wp2
        go_ret
        exact ⟨by go_num, HM.out⟩
/-- The marks of a slice, as a walk finds them. -/
structure Mks (m : Int) (w : World) (a : Option Addr) (cap g n : Nat) : Prop where
  addr : 0 < n → a = some ⟨g, 0, none⟩
  room : n ≤ cap
  cells : ∀ i, i < n * 4 → w.cell? ⟨g, i, none⟩ = some (.int .i64 (m + (i : Int)))
theorem Mks.keep {m : Int} {w w' : World} {a : Option Addr} {cap g n : Nat} (r : Mks m w a cap g n) (hb : 0 < n → w'.heap[g]? = w.heap[g]?) : Mks m w' a cap g n :=
  ⟨r.addr, r.room, fun i hi => by rw [World.cell?_of_block (w := w) (a := ⟨g, i, none⟩) (hb (by omega))]; exact r.cells i hi⟩
end Go.Proofs.Ytmaejlfjdkkpdaa.four

namespace Go.Proofs.Ytmaejlfjdkkpdaa.four
open Go.ChangeShapes Go.WideShapes Go.ChangeAt Go.RowKit
open gen
set_option maxRecDepth 20000 in
set_option maxHeartbeats 2000000 in
theorem held (m : Int) (hm0 : 0 ≤ m) (hm1 : m ≤ 100000000) (w : World) (a : Option Addr) (cap g n : Nat) (r : Mks m w a cap g n) (hn : n ≤ 1048577) :
    Calls Try.prog 69 #[.slice a n cap, .int .i64 m] w fun e w' => e = .returned (.int .i64 (m + ((n * 4 : Nat) : Int))) ∧ w = w' := by
  have R := Lib.hid r
  have e1 := r.addr
  have rm1 := r.room
  clear r
  rcases Nat.eq_zero_or_pos n with rfl | hp
  · clear e1
    go_enter Try.func69, Try.ntmps69
    go_wp2
    go_loop [1, 5] (fun k i => i = .int .i64 0 ∧ k = .int .i64 m) (fun _ _ => 0)
    case atStart => exact ⟨rfl, rfl⟩
    case round =>
      obtain ⟨rfl, rfl⟩ := hrel
      go_wp2
      go_ret
      exact ⟨show Ending.returned (Value.int .i64 m) = _ from by simp, rfl⟩
  · obtain rfl := e1 hp
    clear e1
    go_enter Try.func69, Try.ntmps69
    go_wp2
    go_loop [1, 5] (fun kv i => ∃ k : Nat, k ≤ n ∧ i = .int .i64 k ∧ kv = .int .i64 (m + (k : Int) * 4)) (fun _ i => n - (intOf i).toNat)
    case atStart => exact ⟨0, by omega, rfl, by go_num⟩
    case round =>
      obtain ⟨k, hk, rfl, rfl⟩ := hrel
      by_cases hlt : k < n
      · obtain ⟨m1, hm⟩ : ∃ m1 : Int, m1 = m + (k : Int) * 4 := ⟨_, rfl⟩
        have c0 : w.cell? ⟨g, k * 4, none⟩ = some (.int .i64 m1) := by rw [R.out.cells (k * 4) (by omega), hm]; simp
        have c1 : w.cell? ⟨g, k * 4 + 1, none⟩ = some (.int .i64 (m1 + 1)) := by rw [R.out.cells (k * 4 + 1) (by omega), hm]; simp; omega
        have c2 : w.cell? ⟨g, k * 4 + 2, none⟩ = some (.int .i64 (m1 + 2)) := by rw [R.out.cells (k * 4 + 2) (by omega), hm]; simp; omega
        have c3 : w.cell? ⟨g, k * 4 + 3, none⟩ = some (.int .i64 (m1 + 3)) := by rw [R.out.cells (k * 4 + 3) (by omega), hm]; simp; omega
        have b1 : 0 ≤ m1 := by omega
        have b2 : m1 ≤ 200000000 := by omega
        have HMM := Lib.hid hm
        rw [← hm]
        clear hm
        have y1 : (k : Int) < (n : Int) := by omega
        have u1 : decide (k < n) = true := by simp; omega
        go_wp2
        go_round
        case rel => exact ⟨k + 1, by omega, by go_num, by have := HMM.out; simp; omega⟩
        case measure => simp [intOf]; omega
      · have u1 : decide (k < n) = false := by simp; omega
        obtain rfl : k = n := by omega
        go_wp2
        go_ret
        exact ⟨by go_num, rfl⟩
end Go.Proofs.Ytmaejlfjdkkpdaa.four

namespace Go.Proofs.Ytmaejlfjdkkpdaa.pls
open Go.ChangeShapes Go.WideShapes Go.ChangeAt Go.RowKit
open gen
open seven (F7 zz Row At)
open four (F4)
open ord (Sc iok)
/-- Nothing that lay has turned, but what S names. -/
structure Trn (S : Nat → Prop) (w w' : World) : Prop where
  os : w'.os = w.os
  tape : w'.tape = w.tape
  output : w'.output = w.output
  size : w.heap.size ≤ w'.heap.size
  other : ∀ c, c < w.heap.size → ¬ S c → w'.heap[c]? = w.heap[c]?
theorem Trn.refl (S : Nat → Prop) (w : World) : Trn S w w := ⟨rfl, rfl, rfl, Nat.le_refl _, fun _ _ _ => rfl⟩
theorem Trn.trans {S : Nat → Prop} {a b c : World} (h : Trn S a b) (k : Trn S b c) : Trn S a c :=
  ⟨k.os.trans h.os, k.tape.trans h.tape, k.output.trans h.output, Nat.le_trans h.size k.size, fun x hx hn => (k.other x (Nat.lt_of_lt_of_le hx h.size) hn).trans (h.other x hx hn)⟩
theorem Trn.mono {S S' : Nat → Prop} {a b : World} (h : Trn S a b) (k : ∀ c, S c → S' c) : Trn S' a b := ⟨h.os, h.tape, h.output, h.size, fun x hx hn => h.other x hx fun q => hn (k x q)⟩
theorem Trn.of_below {S : Nat → Prop} {a b : World} (h : Below a.heap.size a b) : Trn S a b := ⟨h.os, h.tape, h.output, h.size, fun c hc _ => h.block c hc⟩
theorem Trn.below {S : Nat → Prop} {B : Nat} {a b : World} (h : Trn S a b) (hB : B ≤ a.heap.size) (hS : ∀ c, S c → B ≤ c) : Below B a b :=
  ⟨h.os, h.tape, h.output, h.size, fun c hc => h.other c (Nat.lt_of_lt_of_le hc hB) fun q => by have := hS c q; omega⟩
theorem trn7 {m : Int} {w w' : World} {g n j : Nat} (h : seven.Marked m w w' g n j) : Trn (fun c => c = g ∧ 0 < n) w w' :=
  ⟨h.os, h.tape, h.output, Nat.le_of_eq h.size.symm, fun c _ hn => h.other c fun e => by
    rcases Nat.eq_zero_or_pos n with z | q
    · exact z
    · exact absurd ⟨e, q⟩ hn⟩
theorem trn4 {m : Int} {w w' : World} {g n j : Nat} (h : four.Marked m w w' g n j) : Trn (fun c => c = g ∧ 0 < n) w w' :=
  ⟨h.os, h.tape, h.output, Nat.le_of_eq h.size.symm, fun c _ hn => h.other c fun e => by
    rcases Nat.eq_zero_or_pos n with z | q
    · exact z
    · exact absurd ⟨e, q⟩ hn⟩
/-- The marks of plans. -/
structure MkP (m : Int) (w : World) (a : Option Addr) (cap gp : Nat) (p : List (List F7)) (gs cs : Nat → Nat) : Prop where
  addr : 0 < p.length → a = some ⟨gp, 0, none⟩
  room : p.length ≤ cap
  cells : ∀ i, i < p.length → w.cell? ⟨gp, i, none⟩ = some (.slice (some ⟨gs i, 0, none⟩) (nth p i).length (cs i))
  mks : ∀ i, i < p.length → seven.Mks (m + ((tl p i * 7 : Nat) : Int)) w (some ⟨gs i, 0, none⟩) (cs i) (gs i) (nth p i).length
def inP (p : List (List F7)) (gs : Nat → Nat) (c : Nat) : Prop := ∃ i, i < p.length ∧ c = gs i ∧ 0 < (nth p i).length
theorem mks_of {m : Int} {w w' : World} {a : Option Addr} {cap g : Nat} {l : List F7} (r : Row w a cap g l) (h : seven.Marked m w w' g (l.length * 7) (l.length * 7)) : seven.Mks m w' a cap g l.length :=
  ⟨r.addr, r.room, fun i hi => h.done i hi⟩
theorem mks4_of {m : Int} {w w' : World} {a : Option Addr} {cap g : Nat} {l : List F4} (r : four.Row w a cap g l) (h : four.Marked m w w' g (l.length * 4) (l.length * 4)) : four.Mks m w' a cap g l.length :=
  ⟨r.addr, r.room, fun i hi => h.done i hi⟩
set_option maxRecDepth 20000 in
set_option maxHeartbeats 2000000 in
theorem markPl (m : Int) (hm0 : 0 ≤ m) (hm1 : m ≤ 50000000) (w : World) (a : Option Addr) (cap gp : Nat) (p : List (List F7)) (gs cs : Nat → Nat) (r : Pls w a cap gp p gs cs) (hn : p.length ≤ 1048576) (hT : tl p p.length ≤ 1048576) :
    Calls Try.prog 68 #[.slice a p.length cap, .int .i64 m] w fun e w' => e = .returned (.int .i64 (m + ((tl p p.length * 7 : Nat) : Int))) ∧ Trn (inP p gs) w w' ∧ w'.heap.size = w.heap.size ∧ MkP m w' a cap gp p gs cs := by
  have R := Lib.hid r
  have e1 := r.addr
  have m1 := r.room
  clear r
  obtain ⟨n, hnz⟩ : ∃ n, n = p.length := ⟨_, rfl⟩
  rw [← hnz] at hn e1 m1 hT ⊢
  have HNZ := Lib.hid hnz
  clear hnz
  rcases Nat.eq_zero_or_pos n with rfl | hp
  · clear e1
    go_enter Try.func68, Try.ntmps68
    go_wp2
    go_loop [1, 5] (fun k i => i = .int .i64 0 ∧ k = .int .i64 m) (fun _ _ => 0)
    case atStart => exact ⟨rfl, rfl⟩
    case round =>
      obtain ⟨rfl, rfl⟩ := hrel
      go_wp2
      go_ret
      exact ⟨show Ending.returned (Value.int .i64 m) = _ from by simp [tl], Trn.refl _ _, rfl, ⟨R.out.addr, R.out.room, R.out.cells, fun i hi => by rw [← HNZ.out] at hi; omega⟩⟩
  · obtain rfl := e1 hp
    clear e1
    go_enter Try.func68, Try.ntmps68
    go_wp2
    go_loopw [1, 5] (fun kv i wr => ∃ k : Nat, k ≤ n ∧ i = .int .i64 k ∧ kv = .int .i64 (m + ((tl p k * 7 : Nat) : Int)) ∧ Trn (inP p gs) w wr ∧ wr.heap.size = w.heap.size ∧ (∀ c, c < w.heap.size → (∀ i, i < k → c ≠ gs i) → wr.heap[c]? = w.heap[c]?) ∧ ∀ i, i < k → seven.Mks (m + ((tl p i * 7 : Nat) : Int)) wr (some ⟨gs i, 0, none⟩) (cs i) (gs i) (nth p i).length) (fun _ i _ => n - (intOf i).toNat)
    case atStart => exact ⟨0, by omega, rfl, by simp [tl], Trn.refl _ _, rfl, fun _ _ _ => rfl, fun i hi => by omega⟩
    case round =>
      obtain ⟨k, hk, rfl, rfl, hT1, hsz, hO, hM⟩ := hrel
      have TR := Lib.hid hT1
      have HO := Lib.hid hO
      have HM := Lib.hid hM
      have SZ := Lib.hid hsz
      clear hT1 hO hM hsz
      by_cases hlt : k < n
      · have HLT := Lib.hid (show k < p.length from by rw [← HNZ.out]; exact hlt)
        have q1 := cell_keep (R.out.cells k HLT.out) (HO.out gp (R.out.plt (by have := HLT.out; omega)) (fun i hi e => R.out.ne i (by have := HLT.out; omega) e.symm))
        have rk := (R.out.rows k HLT.out).keep (w' := wr) fun _ => HO.out (gs k) (R.out.lt k HLT.out) (fun i hi e => by have := R.out.inj k i HLT.out (by have := HLT.out; omega) e; omega)
        have TM := tl_mono p (k + 1) (n - (k + 1))
        rw [show k + 1 + (n - (k + 1)) = n by omega] at TM
        have TS : tl p (k + 1) = tl p k + (nth p k).length := rfl
        have MC := Lib.hid (seven.mark (m + ((tl p k * 7 : Nat) : Int)) (by omega) (by omega) wr _ _ _ (nth p k) rk (by omega))
        have RK := Lib.hid rk
        have TSh := Lib.hid TS
        have B1 := Lib.hid (show tl p (k + 1) ≤ 1048576 from by omega)
        unfold seven.MarkPost at MC
        obtain ⟨M, hM⟩ : ∃ M : Int, M = m + ((tl p k * 7 : Nat) : Int) := ⟨_, rfl⟩
        rw [← hM] at MC ⊢
        have HMv := Lib.hid hM
        have z1 : (k : Int) < (n : Int) := by omega
        have u1 : decide (k < n) = true := by simp; omega
        clear rk TM TS hM
        generalize hln : (nth p k).length = ln at q1 MC
        have HLN := Lib.hid hln
        clear hln
        generalize hgk : gs k = gk at q1 MC
        have HGK := Lib.hid hgk
        clear hgk
        generalize cs k = ck at q1 MC
        go_wp2_with fail
        refine MC.out.mono ?_
        rintro e w1 ⟨rfl, hmk⟩
        have MK := Lib.hid hmk
        clear hmk
        go_wp2
        go_roundw
        case rel =>
          have M1 := MK.out
          rw [← HGK.out, ← HLN.out] at M1
          have T1 := trn7 M1
          refine ⟨k + 1, by omega, by go_num, by rw [HMv.out, TSh.out, HLN.out]; congr 1; omega, TR.out.trans (T1.mono fun c hc => ⟨k, HLT.out, hc.1, by have := hc.2; omega⟩), M1.size.trans SZ.out, fun c hc hno => ?_, fun i hi => ?_⟩
          · exact (T1.other c (by rw [SZ.out]; exact hc) fun q => hno k (by omega) q.1).trans (HO.out c hc fun i hi => hno i (by omega))
          · by_cases e : i = k
            · subst e
              rw [← HMv.out]
              exact mks_of RK.out M1
            · exact (HM.out i (by omega)).keep fun hp0 => T1.other _ (by rw [SZ.out]; exact R.out.lt i (by have := HLT.out; omega)) fun q => by
                have := R.out.inj i k (by have := HLT.out; omega) HLT.out q.1; omega
        case measure => simp [intOf]; omega
      · have u1 : decide (k < n) = false := by simp; omega
        obtain rfl : k = n := by omega
        go_wp2
        go_ret
        refine ⟨rfl, TR.out, SZ.out, ⟨R.out.addr, R.out.room, fun i hi => cell_keep (R.out.cells i hi) (HO.out gp (R.out.plt (by omega)) (fun j hj e => R.out.ne j (by rw [← HNZ.out]; exact hj) e.symm)), fun i hi => HM.out i (by rw [HNZ.out]; exact hi)⟩⟩
set_option maxRecDepth 20000 in
set_option maxHeartbeats 2000000 in
theorem heldPl (m : Int) (hm0 : 0 ≤ m) (hm1 : m ≤ 50000000) (w : World) (a : Option Addr) (cap gp : Nat) (p : List (List F7)) (gs cs : Nat → Nat) (r : MkP m w a cap gp p gs cs) (hn : p.length ≤ 1048576) (hT : tl p p.length ≤ 1048576) :
    Calls Try.prog 70 #[.slice a p.length cap, .int .i64 m] w fun e w' => e = .returned (.int .i64 (m + ((tl p p.length * 7 : Nat) : Int))) ∧ w = w' := by
  have R := Lib.hid r
  have e1 := r.addr
  have m1 := r.room
  clear r
  obtain ⟨n, hnz⟩ : ∃ n, n = p.length := ⟨_, rfl⟩
  rw [← hnz] at hn e1 m1 hT ⊢
  have HNZ := Lib.hid hnz
  clear hnz
  rcases Nat.eq_zero_or_pos n with rfl | hp
  · clear e1
    go_enter Try.func70, Try.ntmps70
    go_wp2
    go_loop [1, 5] (fun k i => i = .int .i64 0 ∧ k = .int .i64 m) (fun _ _ => 0)
    case atStart => exact ⟨rfl, rfl⟩
    case round =>
      obtain ⟨rfl, rfl⟩ := hrel
      go_wp2
      go_ret
      exact ⟨show Ending.returned (Value.int .i64 m) = _ from by simp [tl], rfl⟩
  · obtain rfl := e1 hp
    clear e1
    go_enter Try.func70, Try.ntmps70
    go_wp2
    go_loop [1, 5] (fun kv i => ∃ k : Nat, k ≤ n ∧ i = .int .i64 k ∧ kv = .int .i64 (m + ((tl p k * 7 : Nat) : Int))) (fun _ i => n - (intOf i).toNat)
    case atStart => exact ⟨0, by omega, rfl, by simp [tl]⟩
    case round =>
      obtain ⟨k, hk, rfl, rfl⟩ := hrel
      by_cases hlt : k < n
      · have HLT := Lib.hid (show k < p.length from by rw [← HNZ.out]; exact hlt)
        have q1 := R.out.cells k HLT.out
        have TM := tl_mono p (k + 1) (n - (k + 1))
        rw [show k + 1 + (n - (k + 1)) = n by omega] at TM
        have TS : tl p (k + 1) = tl p k + (nth p k).length := rfl
        have MC := Lib.hid (seven.held (m + ((tl p k * 7 : Nat) : Int)) (by omega) (by omega) w _ _ _ _ (R.out.mks k HLT.out) (by omega))
        have b1 : tl p (k + 1) ≤ 1048576 := by omega
        have NX := Lib.hid (show m + ((tl p k * 7 : Nat) : Int) + (((nth p k).length * 7 : Nat) : Int) = m + ((tl p (k + 1) * 7 : Nat) : Int) from by rw [TS]; omega)
        have t1 : decide (m + ((tl p k * 7 : Nat) : Int) + (((nth p k).length * 7 : Nat) : Int) < 0) = false := by simp; omega
        obtain ⟨M, hM⟩ : ∃ M : Int, M = m + ((tl p k * 7 : Nat) : Int) := ⟨_, rfl⟩
        rw [← hM] at MC NX t1 ⊢
        obtain ⟨M2, hM2⟩ : ∃ M2 : Int, M2 = M + (((nth p k).length * 7 : Nat) : Int) := ⟨_, rfl⟩
        rw [← hM2] at MC NX t1
        have z1 : (k : Int) < (n : Int) := by omega
        have u1 : decide (k < n) = true := by simp; omega
        clear TM TS hM hM2 b1
        generalize (nth p k).length = ln at q1 MC
        generalize gs k = gk at q1 MC
        generalize cs k = ck at q1 MC
        go_wp2_with fail
        refine MC.out.mono ?_
        rintro e w1 ⟨rfl, rfl⟩
        go_wp2
        go_round
        case rel => exact ⟨k + 1, by omega, by go_num, by rw [NX.out]⟩
        case measure => simp [intOf]; omega
      · have u1 : decide (k < n) = false := by simp; omega
        obtain rfl : k = n := by omega
        go_wp2
        go_ret
        exact ⟨rfl, rfl⟩
/-- The marks of an order. -/
structure MkO (w : World) (l : List F4) (p : List (List F7)) (ai : Option Addr) (ci gi : Nat) (ap : Option Addr) (cp gp : Nat) (gs cs : Nat → Nat) : Prop where
  items : four.Mks 1 w ai ci gi l.length
  plans : MkP (1 + ((l.length * 4 : Nat) : Int)) w ap cp gp p gs cs
/-- The blocks of an order's lists, headers aside. -/
def inO (l : List F4) (p : List (List F7)) (gi : Nat) (gs : Nat → Nat) (c : Nat) : Prop := (c = gi ∧ 0 < l.length) ∨ inP p gs c
def cnt (l : List F4) (p : List (List F7)) : Int := 1 + ((l.length * 4 : Nat) : Int) + ((tl p p.length * 7 : Nat) : Int)
set_option maxRecDepth 20000 in
set_option maxHeartbeats 2000000 in
theorem markO (w : World) (B : Nat) (s : Sc) (ai : Option Addr) (ci gi : Nat) (l : List F4) (ap : Option Addr) (cp gp : Nat) (p : List (List F7)) (gs cs : Nat → Nat) (h : OL w B l p ai ci gi ap cp gp gs cs) (hl : l.length ≤ 1048576) (hn : p.length ≤ 1048576) (hT : tl p p.length ≤ 1048576) :
    Calls Try.prog 32 #[.agg #[.int .i64 s.id, .int .i64 s.co, .int .i64 s.me, .int .i64 s.cu, .int .i64 s.da, .int .i64 s.nn, .int .i64 s.ra, .int .i64 s.nu, .int .i64 s.de, .slice ai l.length ci, .slice ap p.length cp, .int .i64 s.op, .int .i64 s.up], .int .i64 1] w fun e w' => e = .returned (.int .i64 (cnt l p)) ∧ Trn (inO l p gi gs) w w' ∧ MkO w' l p ai ci gi ap cp gp gs cs := by
  have b0 : Below w.heap.size w (w.alloc (.cells #[.int .i64 s.id, .int .i64 s.co, .int .i64 s.me, .int .i64 s.cu, .int .i64 s.da, .int .i64 s.nn, .int .i64 s.ra, .int .i64 s.nu, .int .i64 s.de, .slice ai l.length ci, .slice ap p.length cp, .int .i64 s.op, .int .i64 s.up] 31)) := bAl (Below.refl _ _) (Nat.le_refl _) _
  have L0 := Lib.hid (h.below b0)
  have T0 := Lib.hid (Trn.of_below (S := inO l p gi gs) b0)
  have X0 := Lib.hid (Blk.new w #[.int .i64 s.id, .int .i64 s.co, .int .i64 s.me, .int .i64 s.cu, .int .i64 s.da, .int .i64 s.nn, .int .i64 s.ra, .int .i64 s.nu, .int .i64 s.de, .slice ai l.length ci, .slice ap p.length cp, .int .i64 s.op, .int .i64 s.up] 31 13 rfl)
  have z0 : (w.alloc (.cells #[.int .i64 s.id, .int .i64 s.co, .int .i64 s.me, .int .i64 s.cu, .int .i64 s.da, .int .i64 s.nn, .int .i64 s.ra, .int .i64 s.nu, .int .i64 s.de, .slice ai l.length ci, .slice ap p.length cp, .int .i64 s.op, .int .i64 s.up] 31)).heap.size = w.heap.size + 1 := by simp
  have LT := Lib.hid (show (0 < l.length → gi < w.heap.size) ∧ (0 < p.length → gp < w.heap.size) ∧ (∀ i, i < p.length → gs i < w.heap.size) from ⟨h.gi1, h.gp1, fun i hi => h.gs1 hi⟩)
  clear h b0
  go_enter Try.func32, Try.ntmps32
  go_wp2_with fail
  generalize w.alloc (.cells #[.int .i64 s.id, .int .i64 s.co, .int .i64 s.me, .int .i64 s.cu, .int .i64 s.da, .int .i64 s.nn, .int .i64 s.ra, .int .i64 s.nu, .int .i64 s.de, .slice ai l.length ci, .slice ap p.length cp, .int .i64 s.op, .int .i64 s.up] 31) = W0 at L0 T0 X0 z0 ⊢
  refine (four.mark 1 (by omega) (by omega) W0 ai ci gi l L0.out.items (by omega)).mono ?_
  rintro e w1 ⟨rfl, hmk⟩
  have T1 := trn4 hmk
  have M1 := Lib.hid (mks4_of L0.out.items hmk)
  have P1 := Lib.hid (L0.out.plans.keep (w' := w1) (fun hp => T1.other gp (L0.out.gp1 hp) fun q => absurd q.1.symm (L0.out.ip (by have := q.2; omega) hp)) (fun i hi => T1.other _ (L0.out.gs1 hi) fun q => absurd q.1 (L0.out.is_ i hi (by have := q.2; omega))) (by rw [hmk.size]; exact Nat.le_refl _))
  have y10 : w1.cell? ⟨w.heap.size, 10, none⟩ = some (.slice ap p.length cp) := (X0.out.keep (w' := w1) (T1.other _ X0.out.lt fun q => by have := LT.out.1 (by have := q.2; omega); omega) T1.size).cell 10 (by decide)
  have T1h := Lib.hid (T0.out.trans (T1.mono fun c hc => Or.inl ⟨hc.1, by have := hc.2; omega⟩))
  have SZ := hmk.size
  clear hmk T1
  obtain ⟨M, hM⟩ : ∃ M : Int, M = 1 + ((l.length * 4 : Nat) : Int) := ⟨_, rfl⟩
  have HM := Lib.hid hM
  rw [← hM]
  have C := Lib.hid (markPl M (by omega) (by omega) w1 ap cp gp p gs cs P1.out hn hT)
  clear hM
  go_wp2_with fail
  refine C.out.mono ?_
  rintro e w2 ⟨rfl, t2, s2, mp⟩
  have T2 := Lib.hid (T1h.out.trans (t2.mono fun c hc => Or.inr hc))
  have MP := Lib.hid mp
  have M2 := Lib.hid (M1.out.keep (w' := w2) fun hp => t2.other gi (by have := LT.out.1 hp; omega) fun q => by obtain ⟨i, hi, e, _⟩ := q; exact absurd e.symm (L0.out.is_ i hi hp))
  clear t2 mp s2
  go_wp2
  go_ret
  exact ⟨show Ending.returned (Value.int .i64 (M + ((tl p p.length * 7 : Nat) : Int))) = _ from by rw [HM.out]; rfl, T2.out, ⟨M2.out, by rw [← HM.out]; exact MP.out⟩⟩
set_option maxRecDepth 20000 in
set_option maxHeartbeats 2000000 in
theorem heldO (w : World) (s : Sc) (ai : Option Addr) (ci gi : Nat) (l : List F4) (ap : Option Addr) (cp gp : Nat) (p : List (List F7)) (gs cs : Nat → Nat) (h : MkO w l p ai ci gi ap cp gp gs cs) (lt : (0 < l.length → gi < w.heap.size) ∧ (0 < p.length → gp < w.heap.size) ∧ (∀ i, i < p.length → gs i < w.heap.size)) (hl : l.length ≤ 1048576) (hn : p.length ≤ 1048576) (hT : tl p p.length ≤ 1048576) :
    Calls Try.prog 33 #[.agg #[.int .i64 s.id, .int .i64 s.co, .int .i64 s.me, .int .i64 s.cu, .int .i64 s.da, .int .i64 s.nn, .int .i64 s.ra, .int .i64 s.nu, .int .i64 s.de, .slice ai l.length ci, .slice ap p.length cp, .int .i64 s.op, .int .i64 s.up], .int .i64 1] w fun e w' => e = .returned (.int .i64 (cnt l p)) ∧ Below w.heap.size w w' := by
  have B0 := Lib.hid (show Below w.heap.size w (w.alloc (.cells #[.int .i64 s.id, .int .i64 s.co, .int .i64 s.me, .int .i64 s.cu, .int .i64 s.da, .int .i64 s.nn, .int .i64 s.ra, .int .i64 s.nu, .int .i64 s.de, .slice ai l.length ci, .slice ap p.length cp, .int .i64 s.op, .int .i64 s.up] 31)) from bAl (Below.refl _ _) (Nat.le_refl _) _)
  have b0 := B0.out
  have CI := Lib.hid (four.held 1 (by omega) (by omega) (w.alloc (.cells #[.int .i64 s.id, .int .i64 s.co, .int .i64 s.me, .int .i64 s.cu, .int .i64 s.da, .int .i64 s.nn, .int .i64 s.ra, .int .i64 s.nu, .int .i64 s.de, .slice ai l.length ci, .slice ap p.length cp, .int .i64 s.op, .int .i64 s.up] 31)) ai ci gi l.length (h.items.keep fun hp => b0.block gi (lt.1 hp)) (by omega))
  have CP := Lib.hid (heldPl (1 + ((l.length * 4 : Nat) : Int)) (by omega) (by omega) (w.alloc (.cells #[.int .i64 s.id, .int .i64 s.co, .int .i64 s.me, .int .i64 s.cu, .int .i64 s.da, .int .i64 s.nn, .int .i64 s.ra, .int .i64 s.nu, .int .i64 s.de, .slice ai l.length ci, .slice ap p.length cp, .int .i64 s.op, .int .i64 s.up] 31)) ap cp gp p gs cs ⟨h.plans.addr, h.plans.room, fun i hi => cell_keep (h.plans.cells i hi) (b0.block gp (lt.2.1 (by omega))), fun i hi => (h.plans.mks i hi).keep fun _ => b0.block _ (lt.2.2 i hi)⟩ hn hT)
  clear h b0 lt
  obtain ⟨M, hM⟩ : ∃ M : Int, M = 1 + ((l.length * 4 : Nat) : Int) := ⟨_, rfl⟩
  unfold cnt
  have t1 : decide (M < 0) = false := by simp; omega
  rw [← hM] at CI CP ⊢
  obtain ⟨M2, hM2⟩ : ∃ M2 : Int, M2 = M + ((tl p p.length * 7 : Nat) : Int) := ⟨_, rfl⟩
  rw [← hM2] at CP ⊢
  have t2 : decide (M2 < 0) = false := by simp; omega
  clear hM hM2
  go_enter Try.func33, Try.ntmps33
  go_wp2_with fail
  refine CI.out.mono ?_
  rintro e w' ⟨rfl, rfl⟩
  go_wp2_with fail
  refine CP.out.mono ?_
  rintro e w' ⟨rfl, rfl⟩
  go_wp2
  go_ret
  exact ⟨rfl, B0.out⟩
end Go.Proofs.Ytmaejlfjdkkpdaa.pls

namespace Go.Proofs.Ytmaejlfjdkkpdaa.pls
open Go.ChangeShapes Go.WideShapes Go.ChangeAt Go.RowKit
open gen
open seven (F7 zz Row Inp At)
open four (F4)
/-- The lists of an order lie in blocks from lo on, below hi. -/
structure OI (w : World) (lo hi : Nat) (l : List F4) (p : List (List F7)) (ai : Option Addr) (ci gi : Nat) (ap : Option Addr) (cp gp : Nat) (gs cs : Nat → Nat) : Prop where
  ol : OL w lo l p ai ci gi ap cp gp gs cs
  h1 : 0 < l.length → gi < hi
  h2 : 0 < p.length → gp < hi
  h3 : ∀ i, i < p.length → gs i < hi
theorem OI.of {w : World} {lo : Nat} {l : List F4} {p : List (List F7)} {ai : Option Addr} {ci gi : Nat} {ap : Option Addr} {cp gp : Nat} {gs cs : Nat → Nat} (h : OL w lo l p ai ci gi ap cp gp gs cs) : OI w lo w.heap.size l p ai ci gi ap cp gp gs cs :=
  ⟨h, h.gi1, h.gp1, fun _ hi => h.gs1 hi⟩
theorem OI.keep {w w' : World} {lo hi : Nat} {l : List F4} {p : List (List F7)} {ai : Option Addr} {ci gi : Nat} {ap : Option Addr} {cp gp : Nat} {gs cs : Nat → Nat} (h : OI w lo hi l p ai ci gi ap cp gp gs cs) (k : ∀ c, lo ≤ c → c < hi → w'.heap[c]? = w.heap[c]?) (hs : w.heap.size ≤ w'.heap.size) : OI w' lo hi l p ai ci gi ap cp gp gs cs :=
  ⟨⟨h.ol.items.keep fun q => k gi (h.ol.gi0 q) (h.h1 q), h.ol.plans.keep (fun q => k gp (h.ol.gp0 q) (h.h2 q)) (fun i hi' => k _ (h.ol.gs0 i hi') (h.h3 i hi')) hs, h.ol.gi0, h.ol.gp0, h.ol.gs0, h.ol.ip, h.ol.is_⟩, h.h1, h.h2, h.h3⟩
theorem OI.ins {w : World} {lo hi : Nat} {l : List F4} {p : List (List F7)} {ai : Option Addr} {ci gi : Nat} {ap : Option Addr} {cp gp : Nat} {gs cs : Nat → Nat} (h : OI w lo hi l p ai ci gi ap cp gp gs cs) : ∀ c, inO l p gi gs c → lo ≤ c ∧ c < hi := by
  rintro c (⟨rfl, q⟩ | ⟨i, hi', rfl, _⟩)
  · exact ⟨h.ol.gi0 q, h.h1 q⟩
  · exact ⟨h.ol.gs0 i hi', h.h3 i hi'⟩
/-- The marks of an order whose lists lie between two places. -/
structure MI (w : World) (lo hi : Nat) (l : List F4) (p : List (List F7)) (ai : Option Addr) (ci gi : Nat) (ap : Option Addr) (cp gp : Nat) (gs cs : Nat → Nat) : Prop where
  mm : MkO w l p ai ci gi ap cp gp gs cs
  b1 : 0 < l.length → lo ≤ gi ∧ gi < hi
  b2 : 0 < p.length → lo ≤ gp ∧ gp < hi
  b3 : ∀ i, i < p.length → lo ≤ gs i ∧ gs i < hi
theorem MI.of {w w' : World} {lo hi : Nat} {l : List F4} {p : List (List F7)} {ai : Option Addr} {ci gi : Nat} {ap : Option Addr} {cp gp : Nat} {gs cs : Nat → Nat} (h : OI w lo hi l p ai ci gi ap cp gp gs cs) (m : MkO w' l p ai ci gi ap cp gp gs cs) : MI w' lo hi l p ai ci gi ap cp gp gs cs :=
  ⟨m, fun q => ⟨h.ol.gi0 q, h.h1 q⟩, fun q => ⟨h.ol.gp0 q, h.h2 q⟩, fun i q => ⟨h.ol.gs0 i q, h.h3 i q⟩⟩
theorem MI.keep {w w' : World} {lo hi : Nat} {l : List F4} {p : List (List F7)} {ai : Option Addr} {ci gi : Nat} {ap : Option Addr} {cp gp : Nat} {gs cs : Nat → Nat} (h : MI w lo hi l p ai ci gi ap cp gp gs cs) (k : ∀ c, lo ≤ c → c < hi → w'.heap[c]? = w.heap[c]?) : MI w' lo hi l p ai ci gi ap cp gp gs cs :=
  ⟨⟨h.mm.items.keep fun q => k gi (h.b1 q).1 (h.b1 q).2, ⟨h.mm.plans.addr, h.mm.plans.room, fun i hi' => cell_keep (h.mm.plans.cells i hi') (k gp (h.b2 (by omega)).1 (h.b2 (by omega)).2), fun i hi' => (h.mm.plans.mks i hi').keep fun _ => k _ (h.b3 i hi').1 (h.b3 i hi').2⟩⟩, h.b1, h.b2, h.b3⟩
theorem MI.lt {w : World} {lo hi : Nat} {l : List F4} {p : List (List F7)} {ai : Option Addr} {ci gi : Nat} {ap : Option Addr} {cp gp : Nat} {gs cs : Nat → Nat} (h : MI w lo hi l p ai ci gi ap cp gp gs cs) (hs : hi ≤ w.heap.size) : (0 < l.length → gi < w.heap.size) ∧ (0 < p.length → gp < w.heap.size) ∧ (∀ i, i < p.length → gs i < w.heap.size) :=
  ⟨fun q => Nat.lt_of_lt_of_le (h.b1 q).2 hs, fun q => Nat.lt_of_lt_of_le (h.b2 q).2 hs, fun i q => Nat.lt_of_lt_of_le (h.b3 i q).2 hs⟩
end Go.Proofs.Ytmaejlfjdkkpdaa.pls
