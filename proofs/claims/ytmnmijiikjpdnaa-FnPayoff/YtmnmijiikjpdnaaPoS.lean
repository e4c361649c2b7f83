/-
  Plain helpers of this seat's proofs: the contract of the model's PayoffOf. Conditions: none.
-/
import Derived.Test.YtmnmijiikjpdnaaOm
import Derived.Test.YtmnmijiikjpdnaaPkS
namespace Go.Proofs.Ytmnmijiikjpdnaa.base
open Go.ChangeShapes Go.WideShapes Go.ChangeAt Go.RowKit
open seven (F7 zz Row At)
open pl (inR prOk pok)
open gen
set_option maxRecDepth 40000 in
set_option maxHeartbeats 4000000 in
theorem poS (d : Int) (w : World) (cap g : Nat) (l : List F7) (r : Row w (some ⟨g, 0, none⟩) cap g l) (hn : l.length ≤ 1048577) : Calls Try.prog 39 #[.slice (some ⟨g, 0, none⟩) l.length cap, .int .i64 d] w fun e w' => e = .returned (.int .i64 (pof l d)) ∧ Below w.heap.size w w' := by
  obtain ⟨M, hM⟩ : ∃ M, M = pof l d := ⟨_, rfl⟩
  rw [← hM]
  have HM := Lib.hid hM
  clear hM
  have GL := Lib.hid (fun h : 0 < l.length => r.lt h)
  have C := Lib.hid (pkS w (some ⟨g, 0, none⟩) cap g l r hn)
  have R := Lib.hid r
  have CD := Lib.hid (fun w1 => dayS d w1)
  have m1 := r.room
  clear r
  obtain ⟨n, hnz⟩ : ∃ n, n = l.length := ⟨_, rfl⟩
  rw [← hnz] at hn C m1 ⊢
  have HNZ := Lib.hid hnz
  clear hnz
  go_enter Try.func39, Try.ntmps39
  go_wp2_with fail
  refine C.out.mono ?_
  rintro e w1 ⟨rfl, b1⟩
  have BN := Lib.hid b1
  have R1 := Lib.hid (R.out.keep (w' := w1) fun h => b1.block g (GL.out h))
  have GL1 := Lib.hid (fun h : 0 < l.length => Nat.lt_of_lt_of_le (GL.out h) b1.size)
  clear b1 R C
  cases hv : pl.pv l with
  | false =>
    have MM := Lib.hid (HM.out.trans (pof_f hv))
    clear hv
    go_wp2
    go_ret
    exact ⟨by rw [MM.out]; rfl, BN.out⟩
  | true =>
    have HV := Lib.hid hv
    have PVH := Lib.hid (pl.pv_iff.1 hv)
    clear hv
    cases hd : inR d 0 100000 with
    | false =>
      rw [hd] at CD
      have MM := Lib.hid (HM.out.trans (pof_g HV.out hd))
      clear hd
      go_wp2_with fail
      refine (CD.out _).mono ?_
      rintro e w' ⟨rfl, rfl⟩
      go_wp2
      go_ret
      exact ⟨by rw [MM.out]; rfl, BN.out⟩
    | true =>
      rw [hd] at CD
      have MM := Lib.hid (HM.out.trans (pof_t HV.out hd))
      have DD := pl.inR_iff.1 hd
      obtain ⟨dd0, dd1⟩ := DD
      clear hd
      have hn24 : n ≤ 24 := by rw [HNZ.out]; exact PVH.out.1
      have PB := Lib.hid (fun k hk => pfTo_b (d := d) (fun i hi => PVH.out.pin (i := i) hi) k hk)
      go_wp2_with fail
      refine (CD.out _).mono ?_
      rintro e w' ⟨rfl, rfl⟩
      go_wp2
      go_loopw [5, 6] (fun sv iv wr => Below w1.heap.size w1 wr ∧ ∃ k : Nat, k ≤ n ∧ iv = .int .i64 k ∧ sv = .int .i64 (pfTo l d k)) (fun _ iv _ => n - (intOf iv).toNat)
      case atStart => exact ⟨Below.refl _ _, 0, by omega, rfl, rfl⟩
      case round =>
        obtain ⟨hB, k, hk, rfl, rfl⟩ := hrel
        have BB := Lib.hid hB
        clear hB
        have sB := PB.out k (by rw [← HNZ.out]; exact hk)
        obtain ⟨s0, s1⟩ := sB
        replace s1 : pfTo l d k ≤ 100000000000000 := by omega
        by_cases hlt : k < n
        · have HLT := Lib.hid (show k < l.length from by rw [← HNZ.out]; exact hlt)
          have gl : g < w1.heap.size := GL1.out (by rw [← HNZ.out]; omega)
          have RR := Lib.hid (R1.out.keep (w' := wr) fun h => BB.out.block g gl)
          have q1 := RR.out.cells k HLT.out
          obtain ⟨x, hx⟩ : ∃ x, x = l.getD k zz := ⟨_, rfl⟩
          have PX := PVH.out.pin HLT.out
          have PF := Lib.hid (show pfTo l d (k + 1) = pfTo l d k + op (wvX d x) from by rw [pfTo, ← hx])
          rw [← hx] at q1 PX
          obtain ⟨S, hS⟩ : ∃ S, S = pfTo l d k := ⟨_, rfl⟩
          rw [← hS] at PF s0 s1 ⊢
          obtain ⟨e0, e1, p0, p1, i0, i1, f0, f1, a0, a1, c0, c1, h0, h1⟩ := PX
          clear hx hS
          have mixed : Try.prog.follows .mixedOrders = true := Try.checked.mixed
          have z1 : (k : Int) < (n : Int) := by omega
          have u1 : decide (k < n) = true := by simp; omega
          have gwr : g < wr.heap.size := Nat.lt_of_lt_of_le gl BB.out.size
          have x2 := fun n os => (q1.grown n os).c1
          have x4 := fun n os => (q1.grown n os).c3
          have x5 := fun n os => (q1.grown n os).c4
          have x7 := fun n os => (q1.grown n os).c6
          have Q1 := Lib.hid q1
          clear q1
          go_wp2_with fail
          refine wp_region_quiet_grown mixed (by kernel_rfl) ?_
          repeat (go_big_quiet_step (fail))
          refine wpQuiet_nil ?_
          intro w3 hw'
          have G1 := Lib.hid (show Grew wr w3 from by obtain ⟨p, h⟩ := hw'; exact ⟨p.n, p.os, h⟩)
          clear hw'
          have q3 := Q1.out.keep (w' := w3) (G1.out.below.block g gwr)
          have y1 := q3.c0
          have B3 := Lib.hid (Grew.step BB.out (Nat.le_refl _) G1.out)
          cases t1 : decide (x.1 ≤ d) with
          | false =>
            have OE := Lib.hid (show op (wvX d x) = x.2.2.2.1 - x.2.2.2.2.2.2 + (x.2.1 - x.2.2.2.2.1) from by
              have : pl.woff d x = x.2.2.1 - x.2.2.2.2.2.1 := by unfold pl.woff; rw [if_pos (by simp at t1; omega)]
              unfold op wvX; rw [this]; dsimp only; omega)
            go_wp2
            go_roundw
            case rel => exact ⟨B3.out, k + 1, by omega, by go_num, by rw [PF.out, OE.out]; congr 1; omega⟩
            case measure => simp [intOf]; omega
          | true =>
            have OE := Lib.hid (show op (wvX d x) = x.2.2.2.1 - x.2.2.2.2.2.2 + (x.2.1 - x.2.2.2.2.1) + (x.2.2.1 - x.2.2.2.2.2.1) from by
              have : pl.woff d x = 0 := by unfold pl.woff; rw [if_neg (by simp at t1; omega)]
              unfold op wvX; rw [this]; dsimp only; omega)
            have x3 := fun n os => (q3.grown n os).c2
            have x6 := fun n os => (q3.grown n os).c5
            go_wp2_with fail
            refine wp_region_quiet_grown mixed (by kernel_rfl) ?_
            repeat (go_big_quiet_step (fail))
            refine wpQuiet_nil ?_
            intro w4 hw'
            have G4 := Lib.hid (show Grew w3 w4 from by obtain ⟨p, h⟩ := hw'; exact ⟨p.n, p.os, h⟩)
            clear hw'
            go_wp2
            go_roundw
            case rel => exact ⟨Grew.step B3.out (Nat.le_refl _) G4.out, k + 1, by omega, by go_num, by rw [PF.out, OE.out]; congr 1; omega⟩
            case measure => simp [intOf]; omega
        · have u1 : decide (k < n) = false := by simp; omega
          obtain rfl : k = n := by omega
          go_wp2
          go_ret
          exact ⟨by rw [MM.out, HNZ.out]; rfl, BN.out.trans (BB.out.mono BN.out.size)⟩
end Go.Proofs.Ytmnmijiikjpdnaa.base
