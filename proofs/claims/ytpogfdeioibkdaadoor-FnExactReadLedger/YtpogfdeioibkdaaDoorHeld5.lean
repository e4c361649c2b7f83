/-
  Plain helpers of this seat's proofs: the contract of the function that finds the marks of a slice of fives again. Conditions: none.
-/
import Derived.Test.YtpogfdeioibkdaaDoorMark5
namespace Go.Proofs.YtpogfdeioibkdaaDoor.five
open Go.ChangeShapes Go.WideShapes Go.ChangeAt Go.RowKit
open led (F5 z5)
set_option maxRecDepth 20000 in
set_option maxHeartbeats 2000000 in
theorem held (w : World) (a : Option Addr) (cap g n : Nat) (r : Mks w a cap g n) (hn : n ≤ 1048577) :
    Calls Tryd.prog 25 #[.slice a n cap, .int .i64 1] w fun e w' => e = .returned (.int .i64 (1 + ((n * 5 : Nat) : Int))) ∧ w = w' := by
  have R := Lib.hid r
  have e1 := r.addr
  have m1 := r.room
  clear r
  rcases Nat.eq_zero_or_pos n with rfl | hp
  · clear e1
    go_enter Tryd.func25, Tryd.ntmps25
    go_wp2
    go_loop [1, 5] (fun k i => i = .int .i64 0 ∧ k = .int .i64 1) (fun _ _ => 0)
    case atStart => exact ⟨rfl, rfl⟩
    case round =>
      obtain ⟨rfl, rfl⟩ := hrel
      go_wp2
      go_ret
      exact ⟨rfl, rfl⟩
  · obtain rfl := e1 hp
    clear e1
    go_enter Tryd.func25, Tryd.ntmps25
    go_wp2
    go_loop [1, 5] (fun kv i => ∃ k : Nat, k ≤ n ∧ i = .int .i64 k ∧ kv = .int .i64 (1 + (k : Int) * 5)) (fun _ i => n - (intOf i).toNat)
    case atStart => exact ⟨0, by omega, rfl, by go_num⟩
    case round =>
      obtain ⟨k, hk, rfl, rfl⟩ := hrel
      by_cases hlt : k < n
      · obtain ⟨m, hm⟩ : ∃ m : Int, m = 1 + (k : Int) * 5 := ⟨_, rfl⟩
        have c0 : w.cell? ⟨g, k * 5, none⟩ = some (.int .i64 m) := by rw [R.out.cells (k * 5) (by omega), hm]; simp
        have c1 : w.cell? ⟨g, k * 5 + 1, none⟩ = some (.int .i64 (m + 1)) := by rw [R.out.cells (k * 5 + 1) (by omega), hm]; simp; omega
        have c2 : w.cell? ⟨g, k * 5 + 2, none⟩ = some (.int .i64 (m + 2)) := by rw [R.out.cells (k * 5 + 2) (by omega), hm]; simp; omega
        have c3 : w.cell? ⟨g, k * 5 + 3, none⟩ = some (.int .i64 (m + 3)) := by rw [R.out.cells (k * 5 + 3) (by omega), hm]; simp; omega
        have c4 : w.cell? ⟨g, k * 5 + 4, none⟩ = some (.int .i64 (m + 4)) := by rw [R.out.cells (k * 5 + 4) (by omega), hm]; simp; omega
        have b1 : 1 ≤ m := by omega
        have b2 : m ≤ 5242881 := by omega
        have HMM := Lib.hid hm
        rw [← hm]
        clear hm
        have y1 : (k : Int) < (n : Int) := by omega
        have u1 : decide (k < n) = true := by simp; omega
        go_wp2
        go_round
        case rel => exact ⟨k + 1, by omega, by go_num, by have := HMM.out; simp; omega⟩
        case measure => simp [intOf]; omega
      · have u1 : decide (k < n) = false := by simp; omega
        obtain rfl : k = n := by omega
        go_wp2
        go_ret
        exact ⟨by go_num, rfl⟩
end Go.Proofs.YtpogfdeioibkdaaDoor.five
