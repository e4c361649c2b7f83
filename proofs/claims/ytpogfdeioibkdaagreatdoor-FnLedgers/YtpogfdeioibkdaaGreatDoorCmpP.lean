/-
  Plain helpers of this seat's proofs: the contract of the landed order of posts. Conditions: none.
-/
import Derived.Test.YtpogfdeioibkdaaGreatDoorFive
import Derived.StillTailTactics
namespace Go.Proofs.YtpogfdeioibkdaaGreatDoor.base
open Go.ChangeShapes Go.WideShapes Go.ChangeAt Go.RowKit
open led (F5 z5)

theorem nan (a : Int) (W : World) : Calls Tryz.prog 82 #[.int .i64 a] W fun e w' => e = .returned (.bool false) ∧ W = w' := by
  have t : (a != a) = false := by simp
  go_enter Tryz.func82, Tryz.ntmps82
  go_wp2
  go_ret
  exact ⟨rfl, rfl⟩
theorem compare (a b : Int) (W : World) : Calls Tryz.prog 66 #[.int .i64 a, .int .i64 b] W fun e w' => e = .returned (.int .i64 (led.cmp2 a b)) ∧ w' = W := by
  by_cases h1 : a < b
  · have e : led.cmp2 a b = -1 := if_pos h1
    rw [e]
    clear e
    have t1 : decide (a < b) = true := by simp; omega
    go_enter Tryz.func66, Tryz.ntmps66
    go_wp2_with (go_at_call 82; refine (nan _ _).mono ?_; rintro e w' ⟨rfl, rfl⟩)
    go_ret
    exact ⟨rfl, rfl⟩
  · have t1 : decide (a < b) = false := by simp; omega
    by_cases h2 : b < a
    · have e : led.cmp2 a b = 1 := by unfold led.cmp2; rw [if_neg h1, if_pos h2]
      rw [e]
      clear e
      have t2 : decide (b < a) = true := by simp; omega
      clear h1
      go_enter Tryz.func66, Tryz.ntmps66
      go_wp2_with (go_at_call 82; refine (nan _ _).mono ?_; rintro e w' ⟨rfl, rfl⟩)
      go_ret
      exact ⟨rfl, rfl⟩
    · have e : led.cmp2 a b = 0 := by unfold led.cmp2; rw [if_neg h1, if_neg h2]
      rw [e]
      clear e
      have t2 : decide (b < a) = false := by simp; omega
      clear h1 h2
      go_enter Tryz.func66, Tryz.ntmps66
      go_wp2_with (go_at_call 82; refine (nan _ _).mono ?_; rintro e w' ⟨rfl, rfl⟩)
      go_ret
      exact ⟨rfl, rfl⟩
/-- The first one that is not 0, from place k on. -/
def fz (c : Nat → Int) : Nat → Nat → Int
  | 0, _ => 0
  | m + 1, k => if c k = 0 then fz c m (k + 1) else c k
theorem orC (b : Nat) (c : Nat → Int) (W : World) (h : ∀ j, j < 4 → W.cell? ⟨b, j, none⟩ = some (.int .i64 (c j))) : Calls Tryz.prog 65 #[.slice (some ⟨b, 0, none⟩) 4 4] W fun e w' => e = .returned (.int .i64 (fz c 4 0)) ∧ W = w' := by
  have HC := Lib.hid h
  clear h
  go_enter Tryz.func65, Tryz.ntmps65
  go_wp2
  go_loop [8] (fun i => ∃ k : Nat, k ≤ 4 ∧ i = .int .i64 k ∧ fz c (4 - k) k = fz c 4 0) (fun i => 4 - (intOf i).toNat)
  case atStart => exact ⟨0, by omega, rfl, rfl⟩
  case round =>
    obtain ⟨k, hk, rfl, hz⟩ := hrel
    have HZ := Lib.hid hz
    clear hz
    by_cases hlt : k < 4
    · have x1 := HC.out k hlt
      have ez : fz c (4 - k) k = if c k = 0 then fz c (4 - (k + 1)) (k + 1) else c k := by rw [show 4 - k = (4 - (k + 1)) + 1 by omega]; rfl
      have EZ := Lib.hid ez
      clear ez
      obtain ⟨y, hy⟩ : ∃ y, y = c k := ⟨_, rfl⟩
      rw [← hy] at x1
      have HY := Lib.hid hy
      clear hy
      have z1 : (k : Int) < 4 := by omega
      have u1 : decide ((k : Int) < 4) = true := by simp; omega
      by_cases h0 : y = 0
      · have t1 : (y != 0) = false := by simp [h0]
        have H0 := Lib.hid h0
        clear h0
        go_wp2
        go_round
        case rel => exact ⟨k + 1, by omega, by go_num, by rw [← HZ.out, EZ.out, if_pos (by rw [← HY.out]; exact H0.out)]⟩
        case measure => simp [intOf]; omega
      · have t1 : (y != 0) = true := by simp [h0]
        have H0 := Lib.hid h0
        clear h0
        go_wp2
        go_ret
        exact ⟨by rw [← HZ.out, EZ.out, if_neg (by rw [← HY.out]; exact H0.out), ← HY.out]; rfl, rfl⟩
    · obtain rfl : k = 4 := by omega
      go_wp2
      go_ret
      exact ⟨by rw [← HZ.out]; rfl, rfl⟩
end Go.Proofs.YtpogfdeioibkdaaGreatDoor.base

namespace Go.Proofs.YtpogfdeioibkdaaGreatDoor.base
open Go.ChangeShapes Go.WideShapes Go.ChangeAt Go.RowKit
open led (F5 z5)
def four (a b c d : Int) (j : Nat) : Int := if j = 0 then a else if j = 1 then b else if j = 2 then c else d
theorem fz_four (a b c d : Int) : fz (four a b c d) 4 0 = led.orr a (led.orr b (led.orr c (led.orr d 0))) := by
  unfold led.orr
  show (if four a b c d 0 = 0 then (if four a b c d 1 = 0 then (if four a b c d 2 = 0 then (if four a b c d 3 = 0 then 0 else four a b c d 3) else four a b c d 2) else four a b c d 1) else four a b c d 0) = _
  show (if a = 0 then (if b = 0 then (if c = 0 then (if d = 0 then 0 else d) else c) else b) else a) = _
  rfl
set_option maxRecDepth 40000 in
set_option maxHeartbeats 4000000 in
theorem cmpI (x y : F5) (w : World) : Calls Tryz.prog 33 #[.agg #[.int .i64 x.1, .int .i64 x.2.1, .int .i64 x.2.2.1, .int .i64 x.2.2.2.1, .int .i64 x.2.2.2.2], .agg #[.int .i64 y.1, .int .i64 y.2.1, .int .i64 y.2.2.1, .int .i64 y.2.2.2.1, .int .i64 y.2.2.2.2]] w fun e w' => e = .returned (.int .i64 (led.cmpP x y)) ∧ ∃ q os, w' = Go.Sort.grow (w.drewN q) os := by
  obtain ⟨a, b, c, d, f⟩ := x
  obtain ⟨a', b', c', d', f'⟩ := y
  unfold led.cmpP
  dsimp only
  rw [← fz_four]
  have C0 := fun W => compare a a' W
  have C1 := fun W => compare b b' W
  have C2 := fun W => compare c c' W
  have C3 := fun W => compare d d' W
  generalize led.cmp2 a a' = k0 at C0 ⊢
  generalize led.cmp2 b b' = k1 at C1 ⊢
  generalize led.cmp2 c c' = k2 at C2 ⊢
  generalize led.cmp2 d d' = k3 at C3 ⊢
  have mixed : Tryz.prog.follows .mixedOrders = true := Tryz.checked.mixed
  have q1 : five.At ((w.alloc (.cells #[.int .i64 a, .int .i64 b, .int .i64 c, .int .i64 d, .int .i64 f] 36)).alloc (.cells #[.int .i64 a', .int .i64 b', .int .i64 c', .int .i64 d', .int .i64 f'] 36)) w.heap.size 0 (a, b, c, d, f) := (five.At.boxed w (a, b, c, d, f) 36).keep (Below.heap_alloc _ _ _ (by simp))
  have q2 : five.At ((w.alloc (.cells #[.int .i64 a, .int .i64 b, .int .i64 c, .int .i64 d, .int .i64 f] 36)).alloc (.cells #[.int .i64 a', .int .i64 b', .int .i64 c', .int .i64 d', .int .i64 f'] 36)) (w.heap.size + 1) 0 (a', b', c', d', f') := by
    have := five.At.boxed (w.alloc (.cells #[.int .i64 a, .int .i64 b, .int .i64 c, .int .i64 d, .int .i64 f] 36)) (a', b', c', d', f') 36
    rw [World.size_alloc] at this
    exact this
  have G0 := Lib.hid (show five.Grew w ((w.alloc (.cells #[.int .i64 a, .int .i64 b, .int .i64 c, .int .i64 d, .int .i64 f] 36)).alloc (.cells #[.int .i64 a', .int .i64 b', .int .i64 c', .int .i64 d', .int .i64 f'] 36)) from (five.Grew.alloc _ _).trans (five.Grew.alloc _ _))
  go_enter Tryz.func33, Tryz.ntmps33
  go_wp2_with fail
  generalize ((w.alloc (.cells #[.int .i64 a, .int .i64 b, .int .i64 c, .int .i64 d, .int .i64 f] 36)).alloc (.cells #[.int .i64 a', .int .i64 b', .int .i64 c', .int .i64 d', .int .i64 f'] 36)) = W0 at q1 q2 G0 ⊢
  obtain ⟨x0, x1, x2, x3, x4⟩ := q1
  obtain ⟨y0, y1, y2, y3, y4⟩ := q2
  simp only [Nat.zero_add] at x0 x1 x2 x3 x4 y0 y1 y2 y3 y4
  clear x4 y4
  refine wp_region_still_tail 26 mixed (by kernel_rfl) ?_
  simp only [List.take_succ_cons, List.take_zero, List.drop_succ_cons, List.drop_zero]
  repeat still_step
  still_call (C0 _)
  repeat still_step
  still_call (C1 _)
  repeat still_step
  still_call (C2 _)
  repeat still_step
  still_call (C3 _)
  refine wpStill_nil ?_
  change wpList _ _ _ _ _ W0.drew
  have G1 := Lib.hid (G0.out.trans (five.Grew.drew W0))
  clear x0 x1 x2 x3 y0 y1 y2 y3 G0
  generalize W0.drew = w2 at G1 ⊢
  have cf : ∀ j, j < 4 → (w2.alloc (.cells #[.int .i64 k0, .int .i64 k1, .int .i64 k2, .int .i64 k3] 3)).cell? ⟨w2.heap.size, j, none⟩ = some (.int .i64 (four k0 k1 k2 k3 j)) := fun j hj => by
    refine five.box_cell (five.box_refl w2 _) j ?_
    match j, hj with
    | 0, _ => rfl
    | 1, _ => rfl
    | 2, _ => rfl
    | 3, _ => rfl
  have CF := Lib.hid cf
  clear cf
  go_wp2_with fail
  refine (orC w2.heap.size (four k0 k1 k2 k3) _ CF.out).mono ?_
  rintro e w' ⟨rfl, rfl⟩
  go_wp2
  go_ret
  exact ⟨rfl, G1.out.trans (five.Grew.alloc _ _)⟩
end Go.Proofs.YtpogfdeioibkdaaGreatDoor.base
