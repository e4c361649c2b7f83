/-
  Plain helpers of this seat's proofs: the contract of the landed RatesOk. Conditions: none.
-/
import Derived.Test.YtnkdjnfbllkgiabRok
namespace Go.Proofs.Ytnkdjnfbllkgiab.base
open Go.ChangeShapes Go.WideShapes Go.ChangeAt Go.RowKit
open led (F5 z5)
open five (Row At)

set_option maxRecDepth 20000 in
set_option maxHeartbeats 2000000 in
theorem rsI (w : World) (a : Option Addr) (cap g : Nat) (l : List F5) (r : Row w a cap g l) (hn : l.length ≤ 1048577) : Calls Try.prog 17 #[.slice a l.length cap] w (fun e w' => e = .returned (.bool (led.lv l)) ∧ Below w.heap.size w w') := by
  have R := Lib.hid r
  have e1 := r.addr
  have m1 := r.room
  clear r
  obtain ⟨n, hnz⟩ : ∃ n, n = l.length := ⟨_, rfl⟩
  rw [← hnz] at hn e1 m1 ⊢
  have HNZ := Lib.hid hnz
  clear hnz
  by_cases h60 : 60 < n
  · have NO := Lib.hid (led.lv_f (l := l) fun h => by have := h.1; rw [← HNZ.out] at this; omega)
    have u0 : decide ((60 : Int) < (n : Int)) = true := by simp; omega
    have u0' : decide (60 < n) = true := by simp; omega
    clear e1
    go_enter Try.func17, Try.ntmps17
    go_wp2
    go_ret
    exact ⟨by rw [NO.out]; rfl, Below.refl _ _⟩
  have u0 : decide ((60 : Int) < (n : Int)) = false := by simp; omega
  have u0' : decide (60 < n) = false := by simp; omega
  rcases Nat.eq_zero_or_pos n with rfl | hp
  · clear e1
    have YES := Lib.hid (led.lv_t (l := l) ⟨by rw [← HNZ.out]; omega, fun i hi => absurd hi (by rw [← HNZ.out]; omega)⟩)
    go_enter Try.func17, Try.ntmps17
    go_wp2
    go_loop [10] (fun i => i = .int .i64 0) (fun _ => 0)
    case atStart => exact rfl
    case round =>
      obtain rfl := hrel
      go_wp2
      go_ret
      exact ⟨by rw [YES.out]; rfl, Below.refl _ _⟩
  · obtain rfl := e1 hp
    clear e1
    go_enter Try.func17, Try.ntmps17
    go_wp2
    go_loopw [10] (fun i wr => Below w.heap.size w wr ∧ ∃ k : Nat, k ≤ n ∧ i = .int .i64 k ∧ ∀ j, j < k → led.Fine l j) (fun i _ => n - (intOf i).toNat)
    case atStart => exact ⟨Below.refl _ _, 0, by omega, rfl, fun j h => by omega⟩
    case round =>
      obtain ⟨hB, k, hk, rfl, hf⟩ := hrel
      have BB := Lib.hid hB
      have FF := Lib.hid hf
      clear hf
      by_cases hlt : k < n
      · have gl := R.out.lt (by rw [← HNZ.out]; exact hp)
        have q1 := (R.out.cells k (by rw [← HNZ.out]; exact hlt)).keep (hB.block g gl)
        obtain ⟨x, hx⟩ : ∃ x, x = l.getD k z5 := ⟨_, rfl⟩
        have HX := Lib.hid hx
        rw [← hx] at q1
        clear hx
        have mixed : Try.prog.follows .mixedOrders = true := Try.checked.mixed
        obtain ⟨x1, x2, x3, x4, x5⟩ := q1
        have q2 : At (wr.alloc (.cells #[.int .i64 x.1, .int .i64 x.2.1, .int .i64 x.2.2.1, .int .i64 x.2.2.2.1, .int .i64 x.2.2.2.2] 25)) wr.heap.size 0 x := five.At.boxed wr x _
        have b1 := fun n os => (q2.grown n os).c0
        have b2 := fun n os => (q2.grown n os).c1
        have b3 := fun n os => (q2.grown n os).c2
        have b4 := fun n os => (q2.grown n os).c3
        have b5 := fun n os => (q2.grown n os).c4
        simp only [Nat.zero_add] at b1 b2 b3 b4 b5
        clear q2
        have C : ∀ w', Calls Try.prog 13 #[.agg #[.int .i64 x.1, .int .i64 x.2.1, .int .i64 x.2.2.1, .int .i64 x.2.2.2.1, .int .i64 x.2.2.2.2]] w' fun e w'' => e = .returned (.bool (led.rok x)) ∧ ∃ q os, w'' = Go.Sort.grow (w'.drewN q) os := fun w' => rokI x w'
        obtain ⟨p, hp1⟩ : ∃ p, p = led.rok x := ⟨_, rfl⟩
        rw [← hp1] at C
        have HP := Lib.hid hp1
        clear hp1
        have z1 : (k : Int) < (n : Int) := by omega
        have u1 : decide (k < n) = true := by simp; omega
        cases p with
        | false =>
          have NO := Lib.hid (led.lv_f (l := l) fun h => by have := (h.2 k (by rw [← HNZ.out]; exact hlt)).ok; rw [← HX.out, ← HP.out] at this; cases this)
          clear hB
          go_wp2_with fail
          refine wp_region_quiet_grown mixed (by kernel_rfl) ?_
          repeat (go_big_quiet_step (first | (go_at_call 13; exact Calls.grown_of (C _))))
          refine wpQuiet_nil ?_
          intro w1 hw'
          have G1 := Lib.hid (show five.Grew (wr.alloc (.cells #[.int .i64 x.1, .int .i64 x.2.1, .int .i64 x.2.2.1, .int .i64 x.2.2.2.1, .int .i64 x.2.2.2.2] 25)) w1 from by obtain ⟨p, h⟩ := hw'; exact ⟨p.n, p.os, h⟩)
          clear hw'
          go_wp2
          go_ret
          exact ⟨by rw [NO.out]; rfl, five.Grew.step BB.out (Nat.le_refl _) ((five.Grew.alloc wr _).trans G1.out)⟩
        | true =>
          rcases Nat.eq_zero_or_pos k with rfl | hk0
          · clear hB
            go_wp2_with fail
            refine wp_region_quiet_grown mixed (by kernel_rfl) ?_
            repeat (go_big_quiet_step (first | (go_at_call 13; exact Calls.grown_of (C _))))
            refine wpQuiet_nil ?_
            intro w1 hw'
            have G1 := Lib.hid (show five.Grew (wr.alloc (.cells #[.int .i64 x.1, .int .i64 x.2.1, .int .i64 x.2.2.1, .int .i64 x.2.2.2.1, .int .i64 x.2.2.2.2] 25)) w1 from by obtain ⟨p, h⟩ := hw'; exact ⟨p.n, p.os, h⟩)
            clear hw'
            go_wp2
            go_roundw
            case rel => exact ⟨five.Grew.step BB.out (Nat.le_refl _) ((five.Grew.alloc wr _).trans G1.out), 1, by omega, by go_num, fun j hj => by
              obtain rfl : j = 0 := by omega
              exact ⟨by rw [← HX.out]; exact HP.out.symm, fun h => by omega⟩⟩
            case measure => simp [intOf]; omega
          · have q1 := (R.out.cells (k - 1) (by rw [← HNZ.out]; omega)).keep (hB.block g gl)
            obtain ⟨y, hy⟩ : ∃ y, y = l.getD (k - 1) z5 := ⟨_, rfl⟩
            have HY := Lib.hid hy
            rw [← hy] at q1
            clear hy
            obtain ⟨j, hj⟩ : ∃ j, j = k - 1 := ⟨_, rfl⟩
            rw [← hj] at q1
            have HJ := Lib.hid hj
            have y1 := fun n os => ((q1.keep (Below.heap_alloc wr (.cells #[.int .i64 x.1, .int .i64 x.2.1, .int .i64 x.2.2.1, .int .i64 x.2.2.2.1, .int .i64 x.2.2.2.2] 25) g q1.lt)).grown n os).c0
            clear q1
            have z2 : (0 : Int) ≤ (k : Int) - 1 := by omega
            have z3 : (k : Int) - 1 < (n : Int) := by omega
            have z4 : ((k : Int) - 1).toNat = j := by omega
            have t0 : decide ((0 : Int) < (k : Int)) = true := by simp; omega
            have t0' : decide (0 < k) = true := by simp; omega
            clear hj
            cases d1 : decide (x.1 < y.1) with
            | true =>
              have NO := Lib.hid (led.lv_f (l := l) fun h => by have := (h.2 k (by rw [← HNZ.out]; exact hlt)).up hk0; rw [← HX.out, ← HY.out] at this; simp at d1; omega)
              clear hB
              go_wp2_with fail
              refine wp_region_quiet_grown mixed (by kernel_rfl) ?_
              repeat (go_big_quiet_step (first | (go_at_call 13; exact Calls.grown_of (C _))))
              refine wpQuiet_nil ?_
              intro w1 hw'
              have G1 := Lib.hid (show five.Grew (wr.alloc (.cells #[.int .i64 x.1, .int .i64 x.2.1, .int .i64 x.2.2.1, .int .i64 x.2.2.2.1, .int .i64 x.2.2.2.2] 25)) w1 from by obtain ⟨p, h⟩ := hw'; exact ⟨p.n, p.os, h⟩)
              clear hw'
              go_wp2
              go_ret
              exact ⟨by rw [NO.out]; rfl, five.Grew.step BB.out (Nat.le_refl _) ((five.Grew.alloc wr _).trans G1.out)⟩
            | false =>
              clear hB
              have LE := Lib.hid (show y.1 ≤ x.1 from by simp at d1; omega)
              go_wp2_with fail
              refine wp_region_quiet_grown mixed (by kernel_rfl) ?_
              repeat (go_big_quiet_step (first | (go_at_call 13; exact Calls.grown_of (C _))))
              refine wpQuiet_nil ?_
              intro w1 hw'
              have G1 := Lib.hid (show five.Grew (wr.alloc (.cells #[.int .i64 x.1, .int .i64 x.2.1, .int .i64 x.2.2.1, .int .i64 x.2.2.2.1, .int .i64 x.2.2.2.2] 25)) w1 from by obtain ⟨p, h⟩ := hw'; exact ⟨p.n, p.os, h⟩)
              clear hw'
              go_wp2
              go_roundw
              case rel => exact ⟨five.Grew.step BB.out (Nat.le_refl _) ((five.Grew.alloc wr _).trans G1.out), k + 1, by omega, by go_num, fun j hj => by
                by_cases e : j = k
                · subst e; exact ⟨by rw [← HX.out]; exact HP.out.symm, fun _ => by rw [← HX.out, ← HY.out]; exact LE.out⟩
                · exact FF.out j (by omega)⟩
              case measure => simp [intOf]; omega
      · have u1 : decide (k < n) = false := by simp; omega
        obtain rfl : k = n := by omega
        have E := Lib.hid (led.lv_t (l := l) ⟨by rw [← HNZ.out]; omega, fun i hi => FF.out i (by rw [HNZ.out]; exact hi)⟩)
        clear hB
        go_wp2
        go_ret
        exact ⟨by rw [E.out]; rfl, BB.out⟩
end Go.Proofs.Ytnkdjnfbllkgiab.base
