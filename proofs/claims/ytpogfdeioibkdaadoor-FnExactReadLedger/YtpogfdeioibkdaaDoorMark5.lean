/-
  Plain helpers of this seat's proofs: contracts of the functions that mark a slice of fives and find the marks again. Conditions: none.
-/
import Derived.Test.YtpogfdeioibkdaaDoorFive
import Derived.Test.YtpogfdeioibkdaaDoorMarks
namespace Go.Proofs.YtpogfdeioibkdaaDoor.five
open Go.ChangeShapes Go.WideShapes Go.ChangeAt Go.RowKit
open led (F5 z5)
open rows (Marked)
theorem step5 {w wr : World} {g N j : Nat} (h : Marked w wr g N j) (hj : j + 5 ≤ N) {v0 v1 v2 v3 v4 : Int} (e0 : v0 = 1 + (j : Int)) (e1 : v1 = 1 + ((j + 1 : Nat) : Int)) (e2 : v2 = 1 + ((j + 2 : Nat) : Int)) (e3 : v3 = 1 + ((j + 3 : Nat) : Int)) (e4 : v4 = 1 + ((j + 4 : Nat) : Int)) :
    Marked w (((((wr.setCell ⟨g, j, none⟩ (.int .i64 v0)).setCell ⟨g, j + 1, none⟩ (.int .i64 v1)).setCell ⟨g, j + 2, none⟩ (.int .i64 v2)).setCell ⟨g, j + 3, none⟩ (.int .i64 v3)).setCell ⟨g, j + 4, none⟩ (.int .i64 v4)) g N (j + 5) := by
  subst e0 e1 e2 e3 e4
  exact ((((h.step (by omega)).step (by omega)).step (by omega)).step (by omega)).step (by omega)
theorem start5 {w : World} {a : Option Addr} {cap g : Nat} {l : List F5} (r : Row w a cap g l) : Marked w w g (l.length * 5) 0 := by
  refine ⟨rfl, rfl, rfl, rfl, fun _ _ => rfl, fun i hi => by omega, fun i _ hn => ?_, fun h => r.free (by omega)⟩
  have hc := r.cells (i / 5) (by omega)
  have e : i = i / 5 * 5 + i % 5 := by omega
  have m : i % 5 < 5 := Nat.mod_lt _ (by omega)
  rw [e]
  generalize i % 5 = k at m
  match k, m with
  | 0, _ => exact ⟨_, hc.c0⟩
  | 1, _ => exact ⟨_, hc.c1⟩
  | 2, _ => exact ⟨_, hc.c2⟩
  | 3, _ => exact ⟨_, hc.c3⟩
  | 4, _ => exact ⟨_, hc.c4⟩
def MarkPost (w : World) (g n : Nat) (e : Ending) (w' : World) : Prop := e = .returned (.int .i64 (1 + ((n * 5 : Nat) : Int))) ∧ Marked w w' g (n * 5) (n * 5)
set_option maxRecDepth 20000 in
set_option maxHeartbeats 2000000 in
theorem mark (w : World) (a : Option Addr) (cap g : Nat) (l : List F5) (r : Row w a cap g l) (hn : l.length ≤ 1048577) :
    Calls Tryd.prog 24 #[.slice a l.length cap, .int .i64 1] w (MarkPost w g l.length) := by
  have ST := Lib.hid (start5 r)
  have e1 := r.addr
  have m1 := r.room
  clear r
  generalize l.length = n at *
  rcases Nat.eq_zero_or_pos n with rfl | hp
  · clear e1
    go_enter Tryd.func24, Tryd.ntmps24
    go_wp2
    go_loop [1, 5] (fun k i => i = .int .i64 0 ∧ k = .int .i64 1) (fun _ _ => 0)
    case atStart => exact ⟨rfl, rfl⟩
    case round =>
      obtain ⟨rfl, rfl⟩ := hrel
      go_wp2
      go_ret
      exact ⟨rfl, ST.out⟩
  · obtain rfl := e1 hp
    clear e1
    go_enter Tryd.func24, Tryd.ntmps24
    go_wp2
    go_loopw [1, 5] (fun kv i wr => ∃ k : Nat, k ≤ n ∧ i = .int .i64 k ∧ kv = .int .i64 (1 + (k : Int) * 5) ∧ Marked w wr g (n * 5) (k * 5)) (fun _ i _ => n - (intOf i).toNat)
    case atStart => exact ⟨0, by omega, rfl, by go_num, ST.out⟩
    case round =>
      obtain ⟨k, hk, rfl, rfl, hm⟩ := hrel
      have HM := Lib.hid hm
      by_cases hlt : k < n
      · obtain ⟨p0, r0⟩ := hm.rest (k * 5) (by omega) (by omega)
        obtain ⟨p1, r1⟩ := hm.rest (k * 5 + 1) (by omega) (by omega)
        obtain ⟨p2, r2⟩ := hm.rest (k * 5 + 2) (by omega) (by omega)
        obtain ⟨p3, r3⟩ := hm.rest (k * 5 + 3) (by omega) (by omega)
        obtain ⟨p4, r4⟩ := hm.rest (k * 5 + 4) (by omega) (by omega)
        have f0 := hm.free (by omega) (k * 5)
        have f1 := hm.free (by omega) (k * 5 + 1)
        have f2 := hm.free (by omega) (k * 5 + 2)
        have f3 := hm.free (by omega) (k * 5 + 3)
        have f4 := hm.free (by omega) (k * 5 + 4)
        clear hm
        have y1 : (k : Int) < (n : Int) := by omega
        have u1 : decide (k < n) = true := by simp; omega
        go_wp2
        go_roundw
        case rel => exact ⟨k + 1, by omega, by go_num, by go_num, by rw [Nat.succ_mul]; exact step5 HM.out (by omega) (by omega) (by omega) (by omega) (by omega) (by omega)⟩
        case measure => simp [intOf]; omega
      · clear hm
        have u1 : decide (k < n) = false := by simp; omega
        obtain rfl : k = n := by omega
        go_wp2
        go_ret
        exact ⟨by go_num, HM.out⟩
/-- The marks of a slice, as a walk finds them. -/
structure Mks (w : World) (a : Option Addr) (cap g n : Nat) : Prop where
  addr : 0 < n → a = some ⟨g, 0, none⟩
  room : n ≤ cap
  cells : ∀ i, i < n * 5 → w.cell? ⟨g, i, none⟩ = some (.int .i64 (1 + (i : Int)))
theorem Mks.keep {w w' : World} {a : Option Addr} {cap g n : Nat} (r : Mks w a cap g n) (hb : 0 < n → w'.heap[g]? = w.heap[g]?) : Mks w' a cap g n :=
  ⟨r.addr, r.room, fun i hi => by rw [World.cell?_of_block (w := w) (a := ⟨g, i, none⟩) (hb (by omega))]; exact r.cells i hi⟩
end Go.Proofs.YtpogfdeioibkdaaDoor.five
