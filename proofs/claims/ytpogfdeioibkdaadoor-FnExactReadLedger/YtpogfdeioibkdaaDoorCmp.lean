/-
  Plain helpers of this seat's proofs: contracts of cmp.Compare, cmp.Or and of the landed order of posts. Conditions: none.
-/
import Derived.Test.YtpogfdeioibkdaaDoorFive
import Derived.StillTailTactics
namespace Go.Proofs.YtpogfdeioibkdaaDoor.base
open Go.ChangeShapes Go.WideShapes Go.ChangeAt Go.RowKit
open led (F5 z5)

theorem nan (a : Int) (W : World) : Calls Tryd.prog 101 #[.int .i64 a] W fun e w' => e = .returned (.bool false) ∧ W = w' := by
  have t : (a != a) = false := by simp
  go_enter Tryd.func101, Tryd.ntmps101
  go_wp2
  go_ret
  exact ⟨rfl, rfl⟩
theorem compare (a b : Int) (W : World) : Calls Tryd.prog 88 #[.int .i64 a, .int .i64 b] W fun e w' => e = .returned (.int .i64 (led.cmp2 a b)) ∧ w' = W := by
  by_cases h1 : a < b
  · have e : led.cmp2 a b = -1 := if_pos h1
    rw [e]
    clear e
    have t1 : decide (a < b) = true := by simp; omega
    go_enter Tryd.func88, Tryd.ntmps88
    go_wp2_with (go_at_call 101; refine (nan _ _).mono ?_; rintro e w' ⟨rfl, rfl⟩)
    go_ret
    exact ⟨rfl, rfl⟩
  · have t1 : decide (a < b) = false := by simp; omega
    by_cases h2 : b < a
    · have e : led.cmp2 a b = 1 := by unfold led.cmp2; rw [if_neg h1, if_pos h2]
      rw [e]
      clear e
      have t2 : decide (b < a) = true := by simp; omega
      clear h1
      go_enter Tryd.func88, Tryd.ntmps88
      go_wp2_with (go_at_call 101; refine (nan _ _).mono ?_; rintro e w' ⟨rfl, rfl⟩)
      go_ret
      exact ⟨rfl, rfl⟩
    · have e : led.cmp2 a b = 0 := by unfold led.cmp2; rw [if_neg h1, if_neg h2]
      rw [e]
      clear e
      have t2 : decide (b < a) = false := by simp; omega
      clear h1 h2
      go_enter Tryd.func88, Tryd.ntmps88
      go_wp2_with (go_at_call 101; refine (nan _ _).mono ?_; rintro e w' ⟨rfl, rfl⟩)
      go_ret
      exact ⟨rfl, rfl⟩
/-- The first one that is not 0, from place k on. -/
def fz (c : Nat → Int) : Nat → Nat → Int
  | 0, _ => 0
  | m + 1, k => if c k = 0 then fz c m (k + 1) else c k
theorem orC (b : Nat) (c : Nat → Int) (W : World) (h : ∀ j, j < 4 → W.cell? ⟨b, j, none⟩ = some (.int .i64 (c j))) : Calls Tryd.prog 87 #[.slice (some ⟨b, 0, none⟩) 4 4] W fun e w' => e = .returned (.int .i64 (fz c 4 0)) ∧ W = w' := by
  have HC := Lib.hid h
  clear h
  go_enter Tryd.func87, Tryd.ntmps87
  go_wp2
  go_loop [8] (fun i => ∃ k : Nat, k ≤ 4 ∧ i = .int .i64 k ∧ fz c (4 - k) k = fz c 4 0) (fun i => 4 - (intOf i).toNat)
  case atStart => exact ⟨0, by omega, rfl, rfl⟩
  case round =>
    obtain ⟨k, hk, rfl, hz⟩ := hrel
    have HZ := Lib.hid hz
    clear hz
    by_cases hlt : k < 4
    · have x1 := HC.out k hlt
      have ez : fz c (4 - k) k = if c k = 0 then fz c (4 - (k + 1)) (k + 1) else c k := by rw [show 4 - k = (4 - (k + 1)) + 1 by omega]; rfl
      have EZ := Lib.hid ez
      clear ez
      obtain ⟨y, hy⟩ : ∃ y, y = c k := ⟨_, rfl⟩
      rw [← hy] at x1
      have HY := Lib.hid hy
      clear hy
      have z1 : (k : Int) < 4 := by omega
      have u1 : decide ((k : Int) < 4) = true := by simp; omega
      by_cases h0 : y = 0
      · have t1 : (y != 0) = false := by simp [h0]
        have H0 := Lib.hid h0
        clear h0
        go_wp2
        go_round
        case rel => exact ⟨k + 1, by omega, by go_num, by rw [← HZ.out, EZ.out, if_pos (by rw [← HY.out]; exact H0.out)]⟩
        case measure => simp [intOf]; omega
      · have t1 : (y != 0) = true := by simp [h0]
        have H0 := Lib.hid h0
        clear h0
        go_wp2
        go_ret
        exact ⟨by rw [← HZ.out, EZ.out, if_neg (by rw [← HY.out]; exact H0.out), ← HY.out]; rfl, rfl⟩
    · obtain rfl : k = 4 := by omega
      go_wp2
      go_ret
      exact ⟨by rw [← HZ.out]; rfl, rfl⟩
end Go.Proofs.YtpogfdeioibkdaaDoor.base
