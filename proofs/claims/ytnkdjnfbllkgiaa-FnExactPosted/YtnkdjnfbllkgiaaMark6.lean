/-
  Plain helpers of this seat's proofs: the contract of the function that marks a slice of fives, from any number on. Conditions: none.
-/
import Derived.Test.YtnkdjnfbllkgiaaMark5
namespace Go.Proofs.Ytnkdjnfbllkgiaa.five
open Go.ChangeShapes Go.WideShapes Go.ChangeAt Go.RowKit
open led (F5 z5)
/-- Cells of block g may have been written, nothing else. -/
structure Scr (w wr : World) (g N : Nat) : Prop where
  size : wr.heap.size = w.heap.size
  other : ∀ j, j ≠ g → wr.heap[j]? = w.heap[j]?
  below : ∀ B, B ≤ g → Below B w wr
  blk : ∃ A, Blk wr g N A
theorem Scr.set {w wr : World} {g N k : Nat} (h : Scr w wr g N) (hk : k < N) (v : Value) : Scr w (wr.setCell ⟨g, k, none⟩ v) g N := by
  obtain ⟨A, hA⟩ := h.blk
  exact ⟨by simp [World.setCell]; exact h.size, fun j hj => (Below.heap_setCell _ _ _ _ hj).trans (h.other j hj), fun B hB => (h.below B hB).setCell (p := ⟨g, k, none⟩) hB _, _, hA.set hk v⟩
theorem Scr.start {w : World} {a : Option Addr} {cap g : Nat} {l : List F5} (r : Row w a cap g l) (h0 : 0 < l.length) : Scr w w g (l.length * 5) := by
  have each : ∀ i : Nat, ∃ v, i < l.length * 5 → w.cell? ⟨g, i, none⟩ = some v := fun i => by
    by_cases hi : i < l.length * 5
    · have hc := r.cells (i / 5) (by omega)
      have e : i = i / 5 * 5 + i % 5 := by omega
      have m : i % 5 < 5 := Nat.mod_lt _ (by omega)
      rw [e]
      generalize i % 5 = k at m
      match k, m with
      | 0, _ => exact ⟨_, fun _ => hc.c0⟩
      | 1, _ => exact ⟨_, fun _ => hc.c1⟩
      | 2, _ => exact ⟨_, fun _ => hc.c2⟩
      | 3, _ => exact ⟨_, fun _ => hc.c3⟩
      | 4, _ => exact ⟨_, fun _ => hc.c4⟩
    · exact ⟨undef, fun h => absurd h hi⟩
  obtain ⟨A, hA⟩ := Classical.axiomOfChoice each
  exact ⟨rfl, fun _ _ => rfl, fun B _ => Below.refl _ _, A, r.lt h0, hA, r.free h0⟩
def MarkAny (w : World) (g n : Nat) (s : Int) (e : Ending) (w' : World) : Prop := e = .returned (.int .i64 (s + ((n * 5 : Nat) : Int))) ∧ w'.heap.size = w.heap.size ∧ (∀ j, (0 < n → j ≠ g) → w'.heap[j]? = w.heap[j]?) ∧ ∀ B, (0 < n → B ≤ g) → Below B w w'
set_option maxRecDepth 20000 in
set_option maxHeartbeats 2000000 in
theorem mark2 (w : World) (a : Option Addr) (cap g : Nat) (l : List F5) (s : Int) (r : Row w a cap g l) (hn : l.length ≤ 1048577) (s1 : 0 ≤ s) (s2 : s ≤ 100000000) :
    Calls Try.prog 26 #[.slice a l.length cap, .int .i64 s] w (MarkAny w g l.length s) := by
  have ST := Lib.hid (fun h => Scr.start r h)
  have e1 := r.addr
  have m1 := r.room
  clear r
  generalize l.length = n at *
  rcases Nat.eq_zero_or_pos n with rfl | hp
  · clear e1
    go_enter Try.func26, Try.ntmps26
    go_wp2
    go_loop [1, 5] (fun k i => i = .int .i64 0 ∧ k = .int .i64 s) (fun _ _ => 0)
    case atStart => exact ⟨rfl, rfl⟩
    case round =>
      obtain ⟨rfl, rfl⟩ := hrel
      go_wp2
      go_ret
      exact ⟨by simp, rfl, fun _ _ => rfl, fun _ _ => Below.refl _ _⟩
  · obtain rfl := e1 hp
    clear e1
    have S0 := Lib.hid (ST.out hp)
    clear ST
    go_enter Try.func26, Try.ntmps26
    go_wp2
    go_loopw [1, 5] (fun kv i wr => ∃ k : Nat, k ≤ n ∧ i = .int .i64 k ∧ kv = .int .i64 (s + (k : Int) * 5) ∧ Hid (Scr w wr g (n * 5))) (fun _ i _ => n - (intOf i).toNat)
    case atStart => exact ⟨0, by omega, rfl, by go_num, S0⟩
    case round =>
      obtain ⟨k, hk, rfl, rfl, HM⟩ := hrel
      by_cases hlt : k < n
      · obtain ⟨A, hA⟩ := HM.out.blk
        have r0 := hA.cell (k * 5) (by omega)
        have r1 := hA.cell (k * 5 + 1) (by omega)
        have r2 := hA.cell (k * 5 + 2) (by omega)
        have r3 := hA.cell (k * 5 + 3) (by omega)
        have r4 := hA.cell (k * 5 + 4) (by omega)
        have f0 := hA.free (k * 5)
        have f1 := hA.free (k * 5 + 1)
        have f2 := hA.free (k * 5 + 2)
        have f3 := hA.free (k * 5 + 3)
        have f4 := hA.free (k * 5 + 4)
        clear hA
        have y1 : (k : Int) < (n : Int) := by omega
        have u1 : decide (k < n) = true := by simp; omega
        obtain ⟨m, hm⟩ : ∃ m : Int, m = s + (k : Int) * 5 := ⟨_, rfl⟩
        have b1 : 0 ≤ m := by omega
        have b2 : m ≤ 200000000 := by omega
        have HMM := Lib.hid hm
        rw [← hm]
        clear hm
        go_wp2
        go_roundw
        case rel => exact ⟨k + 1, by omega, by go_num, by have := HMM.out; simp; omega, Lib.hid (((((HM.out.set (by omega) _).set (by omega) _).set (by omega) _).set (by omega) _).set (by omega) _)⟩
        case measure => simp [intOf]; omega
      · have u1 : decide (k < n) = false := by simp; omega
        obtain rfl : k = n := by omega
        go_wp2
        go_ret
        exact ⟨by go_num, HM.out.size, fun j hj => HM.out.other j (hj hp), fun B hB => HM.out.below B (hB hp)⟩
end Go.Proofs.Ytnkdjnfbllkgiaa.five
