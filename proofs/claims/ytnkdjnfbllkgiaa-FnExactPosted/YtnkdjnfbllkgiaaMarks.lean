/-
  Plain helpers: contracts of the functions that mark a slice of numbers and find the marks again. Conditions: none.
-/
import Derived.Test.YtnkdjnfbllkgiaaInts
namespace Go.Proofs.Ytnkdjnfbllkgiaa.rows
open Go.ChangeShapes Go.WideShapes Go.ChangeAt Go.RowKit

/-- Block g has been marked up to place j, and nothing else has turned. -/
structure Marked (w wr : World) (g n j : Nat) : Prop where
  os : wr.os = w.os
  tape : wr.tape = w.tape
  output : wr.output = w.output
  size : wr.heap.size = w.heap.size
  other : ∀ k, (k = g → n = 0) → wr.heap[k]? = w.heap[k]?
  done : ∀ i, i < j → wr.cell? ⟨g, i, none⟩ = some (.int .i64 (1 + (i : Int)))
  rest : ∀ i, j ≤ i → i < n → ∃ v, wr.cell? ⟨g, i, none⟩ = some v
  free : 0 < n → ∀ i, wr.frozen? ⟨g, i, none⟩ = false

theorem Marked.step {w wr : World} {g n j : Nat} (h : Marked w wr g n j) (hj : j < n) : Marked w (wr.setCell ⟨g, j, none⟩ (.int .i64 (1 + (j : Int)))) g n (j + 1) := by
  refine ⟨h.os, h.tape, h.output, by simp [World.setCell, h.size], fun k hk => ?_, fun i hi => ?_, fun i hi hn => ?_, fun hn i => by rw [World.frozen?_setCell]; exact h.free hn i⟩
  · rw [Below.heap_setCell _ _ _ _ (show k ≠ g from fun e => by have := hk e; omega)]; exact h.other k hk
  · by_cases e : i = j
    · subst e
      obtain ⟨v, hv⟩ := h.rest i (Nat.le_refl _) hj
      exact World.cell?_setCell_same' _ _ _ (by rw [hv]; rfl)
    · exact (World.cell?_setCell_other wr ⟨g, j, none⟩ ⟨g, i, none⟩ _ (fun q => by injection q with q1 q2; omega)).trans (h.done i (by omega))
  · obtain ⟨v, hv⟩ := h.rest i (by omega) hn
    exact ⟨v, (World.cell?_setCell_other wr ⟨g, j, none⟩ ⟨g, i, none⟩ _ (fun q => by injection q with q1 q2; omega)).trans hv⟩
theorem Marked.start {w : World} {a : Option Addr} {cap g : Nat} {zs : List Int} (r : Row w a cap g zs) : Marked w w g zs.length 0 :=
  ⟨rfl, rfl, rfl, rfl, fun _ _ => rfl, fun i hi => by omega, fun i _ hn => ⟨_, r.cells i hn⟩, r.free⟩
theorem Marked.below {w wr : World} {g n j B : Nat} (h : Marked w wr g n j) (hg : 0 < n → B ≤ g) : Below B w wr :=
  ⟨h.os, h.tape, h.output, by rw [h.size]; exact Nat.le_refl _, fun k hk => h.other k (fun e => by rcases Nat.eq_zero_or_pos n with z | p; exact z; have := hg p; omega)⟩

/-- The marks of a slice, as a walk finds them. -/
structure Marks (w : World) (a : Option Addr) (cap g n : Nat) : Prop where
  addr : 0 < n → a = some ⟨g, 0, none⟩
  room : n ≤ cap
  cells : ∀ i, i < n → w.cell? ⟨g, i, none⟩ = some (.int .i64 (1 + (i : Int)))
theorem Marks.keep {w w' : World} {a : Option Addr} {cap g n : Nat} (r : Marks w a cap g n) (hb : 0 < n → w'.heap[g]? = w.heap[g]?) : Marks w' a cap g n :=
  ⟨r.addr, r.room, fun i hi => by rw [World.cell?_of_block (w := w) (a := ⟨g, i, none⟩) (hb (by omega))]; exact r.cells i hi⟩

def MarkPost (w : World) (g n : Nat) (e : Ending) (w' : World) : Prop := e = .returned (.int .i64 (1 + (n : Int))) ∧ Marked w w' g n n

set_option maxHeartbeats 400000 in
theorem mark (w : World) (a : Option Addr) (cap g : Nat) (zs : List Int) (r : Row w a cap g zs) (hn : zs.length ≤ 1048576) :
    Calls Try.prog 27 #[.slice a zs.length cap, .int .i64 1] w (MarkPost w g zs.length) := by
  have ST := Lib.hid (Marked.start r)
  have e1 := r.addr
  have m1 := r.room
  clear r
  generalize zs.length = n at *
  rcases Nat.eq_zero_or_pos n with rfl | hp
  · clear e1
    go_enter Try.func27, Try.ntmps27
    go_wp2
    go_loop [1, 5] (fun k i => i = .int .i64 0 ∧ k = .int .i64 1) (fun _ _ => 0)
    case atStart => exact ⟨rfl, rfl⟩
    case round =>
      obtain ⟨rfl, rfl⟩ := hrel
      go_wp2
      go_ret
      exact ⟨rfl, ST.out⟩
  · obtain rfl := e1 hp
    clear e1
    go_enter Try.func27, Try.ntmps27
    go_wp2
    go_loopw [1, 5] (fun kv i wr => ∃ k : Nat, k ≤ n ∧ i = .int .i64 k ∧ kv = .int .i64 (1 + (k : Int)) ∧ Marked w wr g n k) (fun _ i _ => n - (intOf i).toNat)
    case atStart => exact ⟨0, by omega, rfl, by go_num, ST.out⟩
    case round =>
      obtain ⟨k, hk, rfl, rfl, hm⟩ := hrel
      have HM := Lib.hid hm
      by_cases hlt : k < n
      · obtain ⟨v, hv⟩ := hm.rest k (Nat.le_refl _) hlt
        have hf := hm.free hp k
        clear hm
        have y1 : (k : Int) < (n : Int) := by omega
        have u1 : decide ((k : Int) < (n : Int)) = true := by simp; omega
        go_wp2
        go_roundw
        case rel => exact ⟨k + 1, by omega, by go_num, by go_num, HM.out.step hlt⟩
        case measure => simp [intOf]; omega
      · clear hm
        have u1 : decide ((k : Int) < (n : Int)) = false := by simp; omega
        obtain rfl : k = n := by omega
        go_wp2
        go_ret
        exact ⟨rfl, HM.out⟩

set_option maxHeartbeats 400000 in
theorem held (w : World) (a : Option Addr) (cap g n : Nat) (r : Marks w a cap g n) (hn : n ≤ 1048576) :
    Calls Try.prog 28 #[.slice a n cap, .int .i64 1] w fun e w' => e = .returned (.int .i64 (1 + (n : Int))) ∧ w = w' := by
  have R := Lib.hid r
  have e1 := r.addr
  have m1 := r.room
  clear r
  rcases Nat.eq_zero_or_pos n with rfl | hp
  · clear e1
    go_enter Try.func28, Try.ntmps28
    go_wp2
    go_loop [1, 5] (fun k i => i = .int .i64 0 ∧ k = .int .i64 1) (fun _ _ => 0)
    case atStart => exact ⟨rfl, rfl⟩
    case round =>
      obtain ⟨rfl, rfl⟩ := hrel
      go_wp2
      go_ret
      exact ⟨rfl, rfl⟩
  · obtain rfl := e1 hp
    clear e1
    go_enter Try.func28, Try.ntmps28
    go_wp2
    go_loop [1, 5] (fun kv i => ∃ k : Nat, k ≤ n ∧ i = .int .i64 k ∧ kv = .int .i64 (1 + (k : Int))) (fun _ i => n - (intOf i).toNat)
    case atStart => exact ⟨0, by omega, rfl, by go_num⟩
    case round =>
      obtain ⟨k, hk, rfl, rfl⟩ := hrel
      by_cases hlt : k < n
      · have hv := R.out.cells k hlt
        have y1 : (k : Int) < (n : Int) := by omega
        have u1 : decide ((k : Int) < (n : Int)) = true := by simp; omega
        go_wp2
        go_round
        case rel => exact ⟨k + 1, by omega, by go_num, by go_num⟩
        case measure => simp [intOf]; omega
      · have u1 : decide ((k : Int) < (n : Int)) = false := by simp; omega
        obtain rfl : k = n := by omega
        go_wp2
        go_ret
        exact ⟨rfl, rfl⟩
end Go.Proofs.Ytnkdjnfbllkgiaa.rows
