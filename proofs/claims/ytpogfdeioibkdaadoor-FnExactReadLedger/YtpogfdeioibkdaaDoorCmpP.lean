/-
  Plain helpers of this seat's proofs: the contract of the landed order of posts. Conditions: none.
-/
import Derived.Test.YtpogfdeioibkdaaDoorCmp
namespace Go.Proofs.YtpogfdeioibkdaaDoor.base
open Go.ChangeShapes Go.WideShapes Go.ChangeAt Go.RowKit
open led (F5 z5)
def four (a b c d : Int) (j : Nat) : Int := if j = 0 then a else if j = 1 then b else if j = 2 then c else d
theorem fz_four (a b c d : Int) : fz (four a b c d) 4 0 = led.orr a (led.orr b (led.orr c (led.orr d 0))) := by
  unfold led.orr
  show (if four a b c d 0 = 0 then (if four a b c d 1 = 0 then (if four a b c d 2 = 0 then (if four a b c d 3 = 0 then 0 else four a b c d 3) else four a b c d 2) else four a b c d 1) else four a b c d 0) = _
  show (if a = 0 then (if b = 0 then (if c = 0 then (if d = 0 then 0 else d) else c) else b) else a) = _
  rfl
set_option maxRecDepth 40000 in
set_option maxHeartbeats 4000000 in
theorem cmpI (x y : F5) (w : World) : Calls Tryd.prog 76 #[.agg #[.int .i64 x.1, .int .i64 x.2.1, .int .i64 x.2.2.1, .int .i64 x.2.2.2.1, .int .i64 x.2.2.2.2], .agg #[.int .i64 y.1, .int .i64 y.2.1, .int .i64 y.2.2.1, .int .i64 y.2.2.2.1, .int .i64 y.2.2.2.2]] w fun e w' => e = .returned (.int .i64 (led.cmpP x y)) ∧ ∃ q os, w' = Go.Sort.grow (w.drewN q) os := by
  obtain ⟨a, b, c, d, f⟩ := x
  obtain ⟨a', b', c', d', f'⟩ := y
  unfold led.cmpP
  dsimp only
  rw [← fz_four]
  have C0 := fun W => compare a a' W
  have C1 := fun W => compare b b' W
  have C2 := fun W => compare c c' W
  have C3 := fun W => compare d d' W
  generalize led.cmp2 a a' = k0 at C0 ⊢
  generalize led.cmp2 b b' = k1 at C1 ⊢
  generalize led.cmp2 c c' = k2 at C2 ⊢
  generalize led.cmp2 d d' = k3 at C3 ⊢
  have mixed : Tryd.prog.follows .mixedOrders = true := Tryd.checked.mixed
  have q1 : five.At ((w.alloc (.cells #[.int .i64 a, .int .i64 b, .int .i64 c, .int .i64 d, .int .i64 f] 27)).alloc (.cells #[.int .i64 a', .int .i64 b', .int .i64 c', .int .i64 d', .int .i64 f'] 27)) w.heap.size 0 (a, b, c, d, f) := (five.At.boxed w (a, b, c, d, f) 27).keep (Below.heap_alloc _ _ _ (by simp))
  have q2 : five.At ((w.alloc (.cells #[.int .i64 a, .int .i64 b, .int .i64 c, .int .i64 d, .int .i64 f] 27)).alloc (.cells #[.int .i64 a', .int .i64 b', .int .i64 c', .int .i64 d', .int .i64 f'] 27)) (w.heap.size + 1) 0 (a', b', c', d', f') := by
    have := five.At.boxed (w.alloc (.cells #[.int .i64 a, .int .i64 b, .int .i64 c, .int .i64 d, .int .i64 f] 27)) (a', b', c', d', f') 27
    rw [World.size_alloc] at this
    exact this
  have G0 := Lib.hid (show five.Grew w ((w.alloc (.cells #[.int .i64 a, .int .i64 b, .int .i64 c, .int .i64 d, .int .i64 f] 27)).alloc (.cells #[.int .i64 a', .int .i64 b', .int .i64 c', .int .i64 d', .int .i64 f'] 27)) from (five.Grew.alloc _ _).trans (five.Grew.alloc _ _))
  go_enter Tryd.func76, Tryd.ntmps76
  go_wp2_with fail
  generalize ((w.alloc (.cells #[.int .i64 a, .int .i64 b, .int .i64 c, .int .i64 d, .int .i64 f] 27)).alloc (.cells #[.int .i64 a', .int .i64 b', .int .i64 c', .int .i64 d', .int .i64 f'] 27)) = W0 at q1 q2 G0 ⊢
  obtain ⟨x0, x1, x2, x3, x4⟩ := q1
  obtain ⟨y0, y1, y2, y3, y4⟩ := q2
  simp only [Nat.zero_add] at x0 x1 x2 x3 x4 y0 y1 y2 y3 y4
  clear x4 y4
  refine wp_region_still_tail 26 mixed (by kernel_rfl) ?_
  simp only [List.take_succ_cons, List.take_zero, List.drop_succ_cons, List.drop_zero]
  repeat still_step
  still_call (C0 _)
  repeat still_step
  still_call (C1 _)
  repeat still_step
  still_call (C2 _)
  repeat still_step
  still_call (C3 _)
  refine wpStill_nil ?_
  change wpList _ _ _ _ _ W0.drew
  have G1 := Lib.hid (G0.out.trans (five.Grew.drew W0))
  clear x0 x1 x2 x3 y0 y1 y2 y3 G0
  generalize W0.drew = w2 at G1 ⊢
  have cf : ∀ j, j < 4 → (w2.alloc (.cells #[.int .i64 k0, .int .i64 k1, .int .i64 k2, .int .i64 k3] 3)).cell? ⟨w2.heap.size, j, none⟩ = some (.int .i64 (four k0 k1 k2 k3 j)) := fun j hj => by
    refine five.box_cell (five.box_refl w2 _) j ?_
    match j, hj with
    | 0, _ => rfl
    | 1, _ => rfl
    | 2, _ => rfl
    | 3, _ => rfl
  have CF := Lib.hid cf
  clear cf
  go_wp2_with fail
  refine (orC w2.heap.size (four k0 k1 k2 k3) _ CF.out).mono ?_
  rintro e w' ⟨rfl, rfl⟩
  go_wp2
  go_ret
  exact ⟨rfl, G1.out.trans (five.Grew.alloc _ _)⟩
end Go.Proofs.YtpogfdeioibkdaaDoor.base
