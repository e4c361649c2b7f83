/-
  Plain helpers of this seat's proofs: the contract of the model's LedgerOk. Conditions: none.
-/
import Derived.Test.YtpogfdeioibkdaaGreatDoorPst
namespace Go.Proofs.YtpogfdeioibkdaaGreatDoor.base
open Go.ChangeShapes Go.WideShapes Go.ChangeAt Go.RowKit
open led (F5 z5)
open five (Row At)

set_option maxRecDepth 40000 in
set_option maxHeartbeats 4000000 in
theorem lgS (w : World) (a : Option Addr) (cap g : Nat) (l : List F5) (r : Row w a cap g l) (hn : l.length ≤ 1048577) : Calls Tryz.prog 12 #[.slice a l.length cap] w (fun e w' => e = .returned (.bool (led.lv l)) ∧ Below w.heap.size w w') := by
  have R := Lib.hid r
  have e1 := r.addr
  have m1 := r.room
  clear r
  obtain ⟨n, hnz⟩ : ∃ n, n = l.length := ⟨_, rfl⟩
  rw [← hnz] at hn e1 m1 ⊢
  have HNZ := Lib.hid hnz
  clear hnz
  rcases Nat.eq_zero_or_pos n with rfl | hp
  · clear e1
    have YES := Lib.hid (led.lv_t (l := l) ⟨by rw [← HNZ.out]; omega, fun i hi => absurd hi (by rw [← HNZ.out]; omega)⟩)
    rw [YES.out]
    go_enter Tryz.func12, Tryz.ntmps12
    go_wp2
    go_loop [3] (fun i => i = .int .i64 0) (fun _ => 0)
    case atStart => exact rfl
    case round =>
      obtain rfl := hrel
      go_wp2
      go_ret
      exact ⟨rfl, Below.refl _ _⟩
  · obtain rfl := e1 hp
    clear e1
    go_enter Tryz.func12, Tryz.ntmps12
    go_wp2
    go_loopw [3] (fun i wr => Below w.heap.size w wr ∧ ∃ k : Nat, k ≤ n ∧ i = .int .i64 k ∧ ∀ j, j < k → led.Fine l j) (fun i _ => n - (intOf i).toNat)
    case atStart => exact ⟨Below.refl _ _, 0, by omega, rfl, fun j h => by omega⟩
    case round =>
      obtain ⟨hB, k, hk, rfl, hf⟩ := hrel
      have BB := Lib.hid hB
      have FF := Lib.hid hf
      clear hf
      by_cases hlt : k < n
      · have HLT := Lib.hid (show k < l.length from by rw [← HNZ.out]; exact hlt)
        have gl := R.out.lt (by rw [← HNZ.out]; exact hp)
        have GL := Lib.hid gl
        have q1 := (R.out.cells k HLT.out).keep (hB.block g gl)
        obtain ⟨x, hx⟩ : ∃ x, x = l.getD k z5 := ⟨_, rfl⟩
        have HX := Lib.hid hx
        rw [← hx] at q1
        clear hx gl
        have mixed : Tryz.prog.follows .mixedOrders = true := Tryz.checked.mixed
        have x1 := fun n os => (q1.grown n os).c0
        have x2 := fun n os => (q1.grown n os).c1
        have x3 := fun n os => (q1.grown n os).c2
        have x4 := fun n os => (q1.grown n os).c3
        have x5 := fun n os => (q1.grown n os).c4
        clear q1
        have z1 : (k : Int) < (n : Int) := by omega
        have u1 : decide (k < n) = true := by simp; omega
        have CA : ∀ w', Calls Tryz.prog 27 #[.agg #[.int .i64 x.1, .int .i64 x.2.1, .int .i64 x.2.2.1]] w' fun e w'' => e = .returned (.bool (led.acct x.1 x.2.1 x.2.2.1)) ∧ ∃ q os, w'' = Go.Sort.grow (w'.drewN q) os := fun w' => acctS x.1 x.2.1 x.2.2.1 w'
        have CC := fun w' => same_grow (curS x.2.2.2.1 w')
        have CF := fun w' => same_grow (farS x.2.2.2.2 w')
        cases ha : led.acct x.1 x.2.1 x.2.2.1 with
        | false =>
          rw [ha] at CA
          have NO := Lib.hid (led.lv_f (l := l) fun h => by have := (h.2 k HLT.out).pl; rw [← HX.out] at this; unfold led.plok at this; rw [ha] at this; simp at this)
          clear hB ha CC CF
          go_wp2_with fail
          refine wp_region_quiet_grown mixed (by kernel_rfl) ?_
          repeat (go_big_quiet_step (first | (go_at_call 27; with_reducible exact Calls.grown_of (CA _)) | (go_at_call 28; with_reducible exact Calls.grown_of (CC _)) | (go_at_call 29; with_reducible exact Calls.grown_of (CF _)) | (go_at_call 30; with_reducible exact Calls.grown_of (KY _)) | (go_at_call 30; with_reducible exact Calls.grown_of (KX _))))
          refine wpQuiet_nil ?_
          intro w1 hw'
          have G1 := Lib.hid (show five.Grew wr w1 from by obtain ⟨p, h⟩ := hw'; exact ⟨p.n, p.os, h⟩)
          clear hw'
          go_wp2
          go_ret
          exact ⟨by rw [NO.out]; rfl, five.Grew.step BB.out (Nat.le_refl _) G1.out⟩
        | true =>
          rw [ha] at CA
          cases hc : led.inR x.2.2.2.1 0 5 with
          | false =>
            rw [hc] at CC
            have NO := Lib.hid (led.lv_f (l := l) fun h => by have := (h.2 k HLT.out).pl; rw [← HX.out] at this; unfold led.plok at this; rw [hc] at this; simp at this)
            clear hB ha hc CF
            go_wp2_with fail
            refine wp_region_quiet_grown mixed (by kernel_rfl) ?_
            repeat (go_big_quiet_step (first | (go_at_call 27; with_reducible exact Calls.grown_of (CA _)) | (go_at_call 28; with_reducible exact Calls.grown_of (CC _)) | (go_at_call 29; with_reducible exact Calls.grown_of (CF _)) | (go_at_call 30; with_reducible exact Calls.grown_of (KY _)) | (go_at_call 30; with_reducible exact Calls.grown_of (KX _))))
            refine wpQuiet_nil ?_
            intro w1 hw'
            have G1 := Lib.hid (show five.Grew wr w1 from by obtain ⟨p, h⟩ := hw'; exact ⟨p.n, p.os, h⟩)
            clear hw'
            go_wp2
            go_ret
            exact ⟨by rw [NO.out]; rfl, five.Grew.step BB.out (Nat.le_refl _) G1.out⟩
          | true =>
            rw [hc] at CC
            have PL := Lib.hid (show led.plok x = true from by unfold led.plok; rw [ha, hc]; rfl)
            clear ha hc
            by_cases hz : x.2.2.2.2 = 0
            · have NO := Lib.hid (led.lv_f (l := l) fun h => by have := (h.2 k HLT.out).nz; rw [← HX.out] at this; exact this hz)
              have tz : (x.2.2.2.2 == 0) = true := by simp [hz]
              clear hB CF hz
              go_wp2_with fail
              refine wp_region_quiet_grown mixed (by kernel_rfl) ?_
              repeat (go_big_quiet_step (first | (go_at_call 27; with_reducible exact Calls.grown_of (CA _)) | (go_at_call 28; with_reducible exact Calls.grown_of (CC _)) | (go_at_call 29; with_reducible exact Calls.grown_of (CF _)) | (go_at_call 30; with_reducible exact Calls.grown_of (KY _)) | (go_at_call 30; with_reducible exact Calls.grown_of (KX _))))
              refine wpQuiet_nil ?_
              intro w1 hw'
              have G1 := Lib.hid (show five.Grew wr w1 from by obtain ⟨p, h⟩ := hw'; exact ⟨p.n, p.os, h⟩)
              clear hw'
              go_wp2
              go_ret
              exact ⟨by rw [NO.out]; rfl, five.Grew.step BB.out (Nat.le_refl _) G1.out⟩
            · have tz : (x.2.2.2.2 == 0) = false := by simp [hz]
              have HZ := Lib.hid hz
              clear hz
              cases hf : led.inR x.2.2.2.2 (-1000000000000000) 1000000000000000 with
              | false =>
                rw [hf] at CF
                have NO := Lib.hid (led.lv_f (l := l) fun h => by have := (h.2 k HLT.out).far; rw [← HX.out] at this; unfold led.nn at this; rw [hf] at this; cases this)
                clear hB hf
                go_wp2_with fail
                refine wp_region_quiet_grown mixed (by kernel_rfl) ?_
                repeat (go_big_quiet_step (first | (go_at_call 27; with_reducible exact Calls.grown_of (CA _)) | (go_at_call 28; with_reducible exact Calls.grown_of (CC _)) | (go_at_call 29; with_reducible exact Calls.grown_of (CF _)) | (go_at_call 30; with_reducible exact Calls.grown_of (KY _)) | (go_at_call 30; with_reducible exact Calls.grown_of (KX _))))
                refine wpQuiet_nil ?_
                intro w1 hw'
                have G1 := Lib.hid (show five.Grew wr w1 from by obtain ⟨p, h⟩ := hw'; exact ⟨p.n, p.os, h⟩)
                clear hw'
                go_wp2
                go_ret
                exact ⟨by rw [NO.out]; rfl, five.Grew.step BB.out (Nat.le_refl _) G1.out⟩
              | true =>
                rw [hf] at CF
                have HF := Lib.hid hf
                clear hf
                rcases Nat.eq_zero_or_pos k with rfl | hk0
                · clear hB
                  go_wp2_with fail
                  refine wp_region_quiet_grown mixed (by kernel_rfl) ?_
                  repeat (go_big_quiet_step (first | (go_at_call 27; with_reducible exact Calls.grown_of (CA _)) | (go_at_call 28; with_reducible exact Calls.grown_of (CC _)) | (go_at_call 29; with_reducible exact Calls.grown_of (CF _)) | (go_at_call 30; with_reducible exact Calls.grown_of (KY _)) | (go_at_call 30; with_reducible exact Calls.grown_of (KX _))))
                  refine wpQuiet_nil ?_
                  intro w1 hw'
                  have G1 := Lib.hid (show five.Grew wr w1 from by obtain ⟨p, h⟩ := hw'; exact ⟨p.n, p.os, h⟩)
                  clear hw'
                  go_wp2
                  go_roundw
                  case rel => exact ⟨five.Grew.step BB.out (Nat.le_refl _) G1.out, 1, by omega, by go_num, fun j hj => by
                    obtain rfl : j = 0 := by omega
                    exact ⟨by rw [← HX.out]; exact PL.out, by rw [← HX.out]; exact HZ.out, by rw [← HX.out]; exact HF.out, fun h => by omega⟩⟩
                  case measure => simp [intOf]; omega
                · have q1 := (R.out.cells (k - 1) (by rw [← HNZ.out]; omega)).keep (hB.block g GL.out)
                  obtain ⟨y, hy⟩ : ∃ y, y = l.getD (k - 1) z5 := ⟨_, rfl⟩
                  have HY := Lib.hid hy
                  rw [← hy] at q1
                  clear hy
                  have IY := Lib.hid (show led.In y from led.plok_in (by rw [HY.out]; exact (FF.out (k - 1) (by omega)).pl))
                  obtain ⟨j, hj⟩ : ∃ j, j = k - 1 := ⟨_, rfl⟩
                  rw [← hj] at q1
                  have y1 := fun n os => (q1.grown n os).c0
                  have y2 := fun n os => (q1.grown n os).c1
                  have y3 := fun n os => (q1.grown n os).c2
                  have y4 := fun n os => (q1.grown n os).c3
                  have y5 := fun n os => (q1.grown n os).c4
                  clear q1
                  have z2 : (0 : Int) ≤ (k : Int) - 1 := by omega
                  have z3 : (k : Int) - 1 < (n : Int) := by omega
                  have z4 : ((k : Int) - 1).toNat = j := by omega
                  have t0 : decide ((0 : Int) < (k : Int)) = true := by simp; omega
                  have t0' : decide (0 < k) = true := by simp; omega
                  clear hj
                  have KX := fun w' => keyS x (led.plok_in PL.out) w'
                  have KY := fun w' => keyS y IY.out w'
                  obtain ⟨kx, hkx⟩ : ∃ kx, kx = led.K x := ⟨_, rfl⟩
                  obtain ⟨ky, hky⟩ : ∃ ky, ky = led.K y := ⟨_, rfl⟩
                  rw [← hkx] at KX
                  rw [← hky] at KY
                  have EX := Lib.hid hkx
                  have EY := Lib.hid hky
                  clear hkx hky
                  cases d1 : decide (kx ≤ ky) with
                  | true =>
                    have NO := Lib.hid (led.lv_f (l := l) fun h => by have := (h.2 k HLT.out).up hk0; rw [← HX.out, ← HY.out, ← EX.out, ← EY.out] at this; simp at d1; omega)
                    clear hB
                    go_wp2_with fail
                    refine wp_region_quiet_grown mixed (by kernel_rfl) ?_
                    repeat (go_big_quiet_step (first | (go_at_call 27; with_reducible exact Calls.grown_of (CA _)) | (go_at_call 28; with_reducible exact Calls.grown_of (CC _)) | (go_at_call 29; with_reducible exact Calls.grown_of (CF _)) | (go_at_call 30; with_reducible exact Calls.grown_of (KY _)) | (go_at_call 30; with_reducible exact Calls.grown_of (KX _))))
                    refine wpQuiet_nil ?_
                    intro w1 hw'
                    have G1 := Lib.hid (show five.Grew wr w1 from by obtain ⟨p, h⟩ := hw'; exact ⟨p.n, p.os, h⟩)
                    clear hw'
                    go_wp2
                    go_ret
                    exact ⟨by rw [NO.out]; rfl, five.Grew.step BB.out (Nat.le_refl _) G1.out⟩
                  | false =>
                    have LT := Lib.hid (show led.K y < led.K x from by rw [← EX.out, ← EY.out]; simp at d1; omega)
                    clear hB
                    go_wp2_with fail
                    refine wp_region_quiet_grown mixed (by kernel_rfl) ?_
                    repeat (go_big_quiet_step (first | (go_at_call 27; with_reducible exact Calls.grown_of (CA _)) | (go_at_call 28; with_reducible exact Calls.grown_of (CC _)) | (go_at_call 29; with_reducible exact Calls.grown_of (CF _)) | (go_at_call 30; with_reducible exact Calls.grown_of (KY _)) | (go_at_call 30; with_reducible exact Calls.grown_of (KX _))))
                    refine wpQuiet_nil ?_
                    intro w1 hw'
                    have G1 := Lib.hid (show five.Grew wr w1 from by obtain ⟨p, h⟩ := hw'; exact ⟨p.n, p.os, h⟩)
                    clear hw'
                    go_wp2
                    go_roundw
                    case rel => exact ⟨five.Grew.step BB.out (Nat.le_refl _) G1.out, k + 1, by omega, by go_num, fun j hj => by
                      by_cases e : j = k
                      · subst e; exact ⟨by rw [← HX.out]; exact PL.out, by rw [← HX.out]; exact HZ.out, by rw [← HX.out]; exact HF.out, fun _ => by rw [← HX.out, ← HY.out]; exact LT.out⟩
                      · exact FF.out j (by omega)⟩
                    case measure => simp [intOf]; omega
      · have u1 : decide (k < n) = false := by simp; omega
        obtain rfl : k = n := by omega
        have E := Lib.hid (show led.lv l = decide ((k : Int) ≤ 400) from by
          cases t : decide ((k : Int) ≤ 400)
          · exact led.lv_f fun h => by have := h.1; rw [← HNZ.out] at this; simp at t; omega
          · exact led.lv_t ⟨by rw [← HNZ.out]; simp at t; omega, fun i hi => FF.out i (by rw [HNZ.out]; exact hi)⟩)
        clear hB
        go_wp2
        go_ret
        exact ⟨by rw [E.out]; rfl, BB.out⟩
end Go.Proofs.YtpogfdeioibkdaaGreatDoor.base
