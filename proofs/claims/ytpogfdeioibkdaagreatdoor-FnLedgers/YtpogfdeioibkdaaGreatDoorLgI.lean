/-
  Plain helpers of this seat's proofs: the contract of the landed LedgerOk. Conditions: none.
-/
import Derived.Test.YtpogfdeioibkdaaGreatDoorPst
import Derived.Test.YtpogfdeioibkdaaGreatDoorCmpP
namespace Go.Proofs.YtpogfdeioibkdaaGreatDoor.base
open Go.ChangeShapes Go.WideShapes Go.ChangeAt Go.RowKit
open led (F5 z5)
open five (Row At)

set_option maxRecDepth 40000 in
set_option maxHeartbeats 4000000 in
theorem lgI (w : World) (a : Option Addr) (cap g : Nat) (l : List F5) (r : Row w a cap g l) (hn : l.length ≤ 1048577) : Calls Tryz.prog 14 #[.slice a l.length cap] w (fun e w' => e = .returned (.bool (led.lv l)) ∧ Below w.heap.size w w') := by
  have R := Lib.hid r
  have e1 := r.addr
  have m1 := r.room
  clear r
  obtain ⟨n, hnz⟩ : ∃ n, n = l.length := ⟨_, rfl⟩
  rw [← hnz] at hn e1 m1 ⊢
  have HNZ := Lib.hid hnz
  clear hnz
  by_cases h60 : 400 < n
  · have NO := Lib.hid (led.lv_f (l := l) fun h => by have := h.1; rw [← HNZ.out] at this; omega)
    have u0 : decide ((400 : Int) < (n : Int)) = true := by simp; omega
    have u0' : decide (400 < n) = true := by simp; omega
    clear e1
    go_enter Tryz.func14, Tryz.ntmps14
    go_wp2
    go_ret
    exact ⟨by rw [NO.out]; rfl, Below.refl _ _⟩
  have u0 : decide ((400 : Int) < (n : Int)) = false := by simp; omega
  have u0' : decide (400 < n) = false := by simp; omega
  rcases Nat.eq_zero_or_pos n with rfl | hp
  · clear e1
    have YES := Lib.hid (led.lv_t (l := l) ⟨by rw [← HNZ.out]; omega, fun i hi => absurd hi (by rw [← HNZ.out]; omega)⟩)
    go_enter Tryz.func14, Tryz.ntmps14
    go_wp2
    go_loop [10] (fun i => i = .int .i64 0) (fun _ => 0)
    case atStart => exact rfl
    case round =>
      obtain rfl := hrel
      go_wp2
      go_ret
      exact ⟨by rw [YES.out]; rfl, Below.refl _ _⟩
  · obtain rfl := e1 hp
    clear e1
    go_enter Tryz.func14, Tryz.ntmps14
    go_wp2
    go_loopw [10] (fun i wr => Below w.heap.size w wr ∧ ∃ k : Nat, k ≤ n ∧ i = .int .i64 k ∧ ∀ j, j < k → led.Fine l j) (fun i _ => n - (intOf i).toNat)
    case atStart => exact ⟨Below.refl _ _, 0, by omega, rfl, fun j h => by omega⟩
    case round =>
      obtain ⟨hB, k, hk, rfl, hf⟩ := hrel
      have BB := Lib.hid hB
      have FF := Lib.hid hf
      clear hf
      by_cases hlt : k < n
      · have HLT := Lib.hid (show k < l.length from by rw [← HNZ.out]; exact hlt)
        have gl := R.out.lt (by rw [← HNZ.out]; exact hp)
        have GL := Lib.hid gl
        have q1 := (R.out.cells k HLT.out).keep (hB.block g gl)
        obtain ⟨x, hx⟩ : ∃ x, x = l.getD k z5 := ⟨_, rfl⟩
        have HX := Lib.hid hx
        rw [← hx] at q1
        clear hx gl
        have mixed : Tryz.prog.follows .mixedOrders = true := Tryz.checked.mixed
        obtain ⟨x1, x2, x3, x4, x5⟩ := q1
        have z1 : (k : Int) < (n : Int) := by omega
        have u1 : decide (k < n) = true := by simp; omega
        have CP : ∀ w', Calls Tryz.prog 31 #[.agg #[.int .i64 x.1, .int .i64 x.2.1, .int .i64 x.2.2.1, .int .i64 x.2.2.2.1, .int .i64 x.2.2.2.2]] w' fun e w'' => e = .returned (.bool (led.plok x)) ∧ ∃ q os, w'' = Go.Sort.grow (w'.drewN q) os := fun w' => placeI x w'
        have CB := fun w' => balI x.2.2.2.2 w'
        cases ha : led.plok x with
        | false =>
          rw [ha] at CP
          have NO := Lib.hid (led.lv_f (l := l) fun h => by have := (h.2 k HLT.out).pl; rw [← HX.out, ha] at this; simp at this)
          clear hB ha
          go_wp2_with fail
          refine (CP _).mono ?_
          rintro e w1 ⟨rfl, g1⟩
          have k0 := five.box_step (five.box_refl wr _) (five.Grew.below g1)
          have G1 := Lib.hid ((five.Grew.alloc wr _).trans g1)
          have B1 := Lib.hid (five.Grew.step BB.out (Nat.le_refl _) G1.out)
          have m4 := five.box_cell k0 4 rfl
          have K0 := Lib.hid k0
          clear g1 k0
          go_wp2
          go_ret
          exact ⟨by rw [NO.out]; rfl, B1.out⟩
        | true =>
          rw [ha] at CP
          have PL := Lib.hid ha
          clear ha
          by_cases hz : x.2.2.2.2 = 0
          · have NO := Lib.hid (led.lv_f (l := l) fun h => by have := (h.2 k HLT.out).nz; rw [← HX.out] at this; exact this hz)
            have tz : (x.2.2.2.2 == 0) = true := by simp [hz]
            clear hB hz
            go_wp2_with fail
            refine (CP _).mono ?_
            rintro e w1 ⟨rfl, g1⟩
            have k0 := five.box_step (five.box_refl wr _) (five.Grew.below g1)
            have G1 := Lib.hid ((five.Grew.alloc wr _).trans g1)
            have B1 := Lib.hid (five.Grew.step BB.out (Nat.le_refl _) G1.out)
            have m4 := five.box_cell k0 4 rfl
            have K0 := Lib.hid k0
            clear g1 k0
            go_wp2
            go_ret
            exact ⟨by rw [NO.out]; rfl, B1.out⟩
          · have tz : (x.2.2.2.2 == 0) = false := by simp [hz]
            have HZ := Lib.hid hz
            clear hz
            cases hf : led.inR x.2.2.2.2 (-1000000000000000) 1000000000000000 with
            | false =>
              rw [hf] at CB
              have NO := Lib.hid (led.lv_f (l := l) fun h => by have := (h.2 k HLT.out).far; rw [← HX.out] at this; unfold led.nn at this; rw [hf] at this; cases this)
              clear hB hf
              go_wp2_with fail
              refine (CP _).mono ?_
              rintro e w1 ⟨rfl, g1⟩
              have k0 := five.box_step (five.box_refl wr _) (five.Grew.below g1)
              have G1 := Lib.hid ((five.Grew.alloc wr _).trans g1)
              have B1 := Lib.hid (five.Grew.step BB.out (Nat.le_refl _) G1.out)
              have m4 := five.box_cell k0 4 rfl
              have K0 := Lib.hid k0
              clear g1 k0
              go_wp2_with fail
              refine (CB _).mono ?_
              rintro e w' ⟨rfl, rfl⟩
              go_wp2
              go_ret
              exact ⟨by rw [NO.out]; rfl, B1.out⟩
            | true =>
              rw [hf] at CB
              have HF := Lib.hid hf
              clear hf
              rcases Nat.eq_zero_or_pos k with rfl | hk0
              · clear hB
                go_wp2_with fail
                refine (CP _).mono ?_
                rintro e w1 ⟨rfl, g1⟩
                have k0 := five.box_step (five.box_refl wr _) (five.Grew.below g1)
                have G1 := Lib.hid ((five.Grew.alloc wr _).trans g1)
                have B1 := Lib.hid (five.Grew.step BB.out (Nat.le_refl _) G1.out)
                have m4 := five.box_cell k0 4 rfl
                have K0 := Lib.hid k0
                clear g1 k0
                go_wp2_with fail
                refine (CB _).mono ?_
                rintro e w' ⟨rfl, rfl⟩
                go_wp2_with fail
                refine wp_region_quiet_grown mixed (by kernel_rfl) ?_
                repeat (go_big_quiet_step (first | (go_at_call 33; with_reducible exact Calls.grown_of (CM _))))
                refine wpQuiet_nil ?_
                intro w2 hw'
                have G2 := Lib.hid (show five.Grew w1 w2 from by obtain ⟨p, h⟩ := hw'; exact ⟨p.n, p.os, h⟩)
                clear hw'
                go_wp2
                go_roundw
                case rel => exact ⟨five.Grew.step B1.out (Nat.le_refl _) G2.out, 1, by omega, by go_num, fun j hj => by
                  obtain rfl : j = 0 := by omega
                  exact ⟨by rw [← HX.out]; exact PL.out, by rw [← HX.out]; exact HZ.out, by rw [← HX.out]; exact HF.out, fun h => by omega⟩⟩
                case measure => simp [intOf]; omega
              · have q1 := (R.out.cells (k - 1) (by rw [← HNZ.out]; omega)).keep (hB.block g GL.out)
                obtain ⟨y, hy⟩ : ∃ y, y = l.getD (k - 1) z5 := ⟨_, rfl⟩
                have HY := Lib.hid hy
                rw [← hy] at q1
                clear hy
                have IY := Lib.hid (show led.In y from led.plok_in (by rw [HY.out]; exact (FF.out (k - 1) (by omega)).pl))
                obtain ⟨j, hj⟩ : ∃ j, j = k - 1 := ⟨_, rfl⟩
                rw [← hj] at q1
                have QY := Lib.hid q1
                clear q1
                have z2 : (0 : Int) ≤ (k : Int) - 1 := by omega
                have z3 : (k : Int) - 1 < (n : Int) := by omega
                have z4 : ((k : Int) - 1).toNat = j := by omega
                have t0 : decide ((0 : Int) < (k : Int)) = true := by simp; omega
                have t0' : decide (0 < k) = true := by simp; omega
                clear hj
                have CM := fun w' => cmpI y x w'
                obtain ⟨c, hc⟩ : ∃ c, c = led.cmpP y x := ⟨_, rfl⟩
                rw [← hc] at CM
                have HC := Lib.hid (show c < 0 ↔ led.K y < led.K x from by rw [hc]; exact led.cmpP_K IY.out (led.plok_in PL.out))
                clear hc
                cases d1 : decide (0 ≤ c) with
                | true =>
                  have NO := Lib.hid (led.lv_f (l := l) fun h => by have := (h.2 k HLT.out).up hk0; rw [← HX.out, ← HY.out, ← HC.out] at this; simp at d1; omega)
                  clear hB
                  go_wp2_with fail
                  refine (CP _).mono ?_
                  rintro e w1 ⟨rfl, g1⟩
                  have k0 := five.box_step (five.box_refl wr _) (five.Grew.below g1)
                  have G1 := Lib.hid ((five.Grew.alloc wr _).trans g1)
                  have B1 := Lib.hid (five.Grew.step BB.out (Nat.le_refl _) G1.out)
                  have m4 := five.box_cell k0 4 rfl
                  have K0 := Lib.hid k0
                  clear g1 k0
                  have yy := QY.out.keep (G1.out.below.block g QY.out.lt)
                  have y1 := fun n os => (yy.grown n os).c0
                  have y2 := fun n os => (yy.grown n os).c1
                  have y3 := fun n os => (yy.grown n os).c2
                  have y4 := fun n os => (yy.grown n os).c3
                  have y5 := fun n os => (yy.grown n os).c4
                  have bb : At w1 wr.heap.size 0 x := ⟨five.box_cell K0.out 0 rfl, five.box_cell K0.out 1 rfl, five.box_cell K0.out 2 rfl, five.box_cell K0.out 3 rfl, five.box_cell K0.out 4 rfl⟩
                  have b1 := fun n os => (bb.grown n os).c0
                  have b2 := fun n os => (bb.grown n os).c1
                  have b3 := fun n os => (bb.grown n os).c2
                  have b4 := fun n os => (bb.grown n os).c3
                  have b5 := fun n os => (bb.grown n os).c4
                  simp only [Nat.zero_add] at b1 b2 b3 b4 b5
                  clear yy bb x1 x2 x3 x4 x5
                  go_wp2_with fail
                  refine (CB _).mono ?_
                  rintro e w' ⟨rfl, rfl⟩
                  go_wp2_with fail
                  refine wp_region_quiet_grown mixed (by kernel_rfl) ?_
                  repeat (go_big_quiet_step (first | (go_at_call 33; with_reducible exact Calls.grown_of (CM _))))
                  refine wpQuiet_nil ?_
                  intro w2 hw'
                  have G2 := Lib.hid (show five.Grew w1 w2 from by obtain ⟨p, h⟩ := hw'; exact ⟨p.n, p.os, h⟩)
                  clear hw'
                  go_wp2
                  go_ret
                  exact ⟨by rw [NO.out]; rfl, five.Grew.step B1.out (Nat.le_refl _) G2.out⟩
                | false =>
                  have LT := Lib.hid (show led.K y < led.K x from HC.out.1 (by simp at d1; omega))
                  clear hB
                  go_wp2_with fail
                  refine (CP _).mono ?_
                  rintro e w1 ⟨rfl, g1⟩
                  have k0 := five.box_step (five.box_refl wr _) (five.Grew.below g1)
                  have G1 := Lib.hid ((five.Grew.alloc wr _).trans g1)
                  have B1 := Lib.hid (five.Grew.step BB.out (Nat.le_refl _) G1.out)
                  have m4 := five.box_cell k0 4 rfl
                  have K0 := Lib.hid k0
                  clear g1 k0
                  have yy := QY.out.keep (G1.out.below.block g QY.out.lt)
                  have y1 := fun n os => (yy.grown n os).c0
                  have y2 := fun n os => (yy.grown n os).c1
                  have y3 := fun n os => (yy.grown n os).c2
                  have y4 := fun n os => (yy.grown n os).c3
                  have y5 := fun n os => (yy.grown n os).c4
                  have bb : At w1 wr.heap.size 0 x := ⟨five.box_cell K0.out 0 rfl, five.box_cell K0.out 1 rfl, five.box_cell K0.out 2 rfl, five.box_cell K0.out 3 rfl, five.box_cell K0.out 4 rfl⟩
                  have b1 := fun n os => (bb.grown n os).c0
                  have b2 := fun n os => (bb.grown n os).c1
                  have b3 := fun n os => (bb.grown n os).c2
                  have b4 := fun n os => (bb.grown n os).c3
                  have b5 := fun n os => (bb.grown n os).c4
                  simp only [Nat.zero_add] at b1 b2 b3 b4 b5
                  clear yy bb x1 x2 x3 x4 x5
                  go_wp2_with fail
                  refine (CB _).mono ?_
                  rintro e w' ⟨rfl, rfl⟩
                  go_wp2_with fail
                  refine wp_region_quiet_grown mixed (by kernel_rfl) ?_
                  repeat (go_big_quiet_step (first | (go_at_call 33; with_reducible exact Calls.grown_of (CM _))))
                  refine wpQuiet_nil ?_
                  intro w2 hw'
                  have G2 := Lib.hid (show five.Grew w1 w2 from by obtain ⟨p, h⟩ := hw'; exact ⟨p.n, p.os, h⟩)
                  clear hw'
                  go_wp2
                  go_roundw
                  case rel => exact ⟨five.Grew.step B1.out (Nat.le_refl _) G2.out, k + 1, by omega, by go_num, fun j hj => by
                    by_cases e : j = k
                    · subst e; exact ⟨by rw [← HX.out]; exact PL.out, by rw [← HX.out]; exact HZ.out, by rw [← HX.out]; exact HF.out, fun _ => by rw [← HX.out, ← HY.out]; exact LT.out⟩
                    · exact FF.out j (by omega)⟩
                  case measure => simp [intOf]; omega
      · have u1 : decide (k < n) = false := by simp; omega
        obtain rfl : k = n := by omega
        have E := Lib.hid (led.lv_t (l := l) ⟨by rw [← HNZ.out]; omega, fun i hi => FF.out i (by rw [HNZ.out]; exact hi)⟩)
        clear hB
        go_wp2
        go_ret
        exact ⟨by rw [E.out]; rfl, BB.out⟩
end Go.Proofs.YtpogfdeioibkdaaGreatDoor.base
