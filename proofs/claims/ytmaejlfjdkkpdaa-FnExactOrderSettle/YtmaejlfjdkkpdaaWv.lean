/-
  Plain helpers of this seat's proofs: the contract of the landed waiving of interest. Conditions: none.
-/
import Derived.Test.YtmaejlfjdkkpdaaOm
namespace Go.Proofs.Ytmaejlfjdkkpdaa.base
open Go.ChangeShapes Go.WideShapes Go.ChangeAt Go.RowKit
open seven (F7 zz Row At)
open pl (inR prOk pok)
open gen
set_option maxRecDepth 40000 in
set_option maxHeartbeats 4000000 in
theorem wvC (d : Int) (w : World) (cap g : Nat) (l : List F7) (r : Row w (some ⟨g, 0, none⟩) cap g l) (hv : pl.PV l) : Calls Try.prog 120 #[.slice (some ⟨g, 0, none⟩) l.length cap, .int .i64 d] w fun e w' => ∃ c2 g2, e = .returned (.tuple #[.slice (some ⟨g2, 0, none⟩) l.length c2, .int .i64 (pl.fs (wv d) 0 l l.length)]) ∧ Row w' (some ⟨g2, 0, none⟩) c2 g2 (wvL l d) ∧ w.heap.size ≤ g2 ∧ g2 < w'.heap.size ∧ Below w.heap.size w w' := by
  have PVH := Lib.hid hv
  have CP := Lib.hid (seven.cpI w g cap l r (by have := hv.1; omega))
  have LS := Lib.hid (fun k hk => wv_sum (d := d) (fun i hi => hv.pin (i := i) hi) k hk)
  clear r hv
  obtain ⟨n, hnz⟩ : ∃ n, n = l.length := ⟨_, rfl⟩
  rw [← hnz] at CP ⊢
  have HNZ := Lib.hid hnz
  clear hnz
  have hn24 : n ≤ 24 := by rw [HNZ.out]; exact PVH.out.1
  go_enter Try.func120, Try.ntmps120
  go_wp2_with fail
  refine CP.out.mono ?_
  rintro e w2 ⟨v, rfl, c2, g2, hv2, r2, l2, k2, b2⟩
  rw [← HNZ.out] at hv2
  subst hv2
  have B2 := Lib.hid b2
  have R2 := Lib.hid r2
  have G2 := Lib.hid l2
  have m2 := r2.room
  rw [← HNZ.out] at m2
  clear r2 b2 l2 CP
  go_wp2
  go_loopw [7, 14] (fun sv iv wr => Below w.heap.size w wr ∧ g2 < wr.heap.size ∧ ∃ k : Nat, k ≤ n ∧ iv = .int .i64 k ∧ sv = .int .i64 (pl.fs (wv d) 0 l k) ∧ Row wr (some ⟨g2, 0, none⟩) c2 g2 (pl.fw (wv d) 0 l k)) (fun _ iv _ => n - (intOf iv).toNat)
  case atStart => exact ⟨B2.out, k2, 0, by omega, rfl, by rw [pl.fs_zero], by rw [pl.fw_zero]; exact R2.out⟩
  case round =>
    obtain ⟨hB, hg2, k, hk, rfl, rfl, hR⟩ := hrel
    have BB := Lib.hid hB
    have RR := Lib.hid hR
    clear hB
    have sB := LS.out k (by rw [← HNZ.out]; exact hk)
    obtain ⟨s0, s1⟩ := sB
    replace s1 : pl.fs (wv d) 0 l k ≤ 24000000000000 := by omega
    by_cases hlt : k < n
    · have HLT := Lib.hid (show k < l.length from by rw [← HNZ.out]; exact hlt)
      have FS := Lib.hid (pl.fs_succ (wv d) 0 HLT.out)
      have FW := Lib.hid (pl.fw_succ (wv d) 0 HLT.out)
      have FG := Lib.hid (pl.fw_get (wv d) 0 HLT.out)
      have FL := Lib.hid (show k < (pl.fw (wv d) 0 l k).length from by rw [pl.fw_len]; exact HLT.out)
      have q1 := hR.cells k FL.out
      rw [FG.out] at q1
      obtain ⟨x, hx⟩ : ∃ x, x = l.getD k zz := ⟨_, rfl⟩
      have PX := PVH.out.pin HLT.out
      rw [← hx] at q1 FS FW FG PX
      obtain ⟨S, hS⟩ : ∃ S, S = pl.fs (wv d) 0 l k := ⟨_, rfl⟩
      rw [← hS] at FS FW s0 s1 ⊢
      obtain ⟨L, hL⟩ : ∃ L, L = pl.fw (wv d) 0 l k := ⟨_, rfl⟩
      rw [← hL] at FW FG RR FL
      have i0 := PX.i0
      have i1 := PX.i1
      have j0 := PX.j0
      have j1 := PX.j1
      clear hx hS hL hR PX
      have mixed : Try.prog.follows .mixedOrders = true := Try.checked.mixed
      have z1 : (k : Int) < (n : Int) := by omega
      have u1 : decide (k < n) = true := by simp; omega
      cases t1 : decide (d < x.1) with
      | false =>
        have WO := Lib.hid (show pl.woff d x = 0 from by unfold pl.woff; rw [if_neg (by simpa using t1)])
        obtain ⟨x1, x2, x3, x4, x5, x6, x7⟩ := q1
        go_wp2
        go_roundw
        case rel =>
          refine ⟨BB.out, hg2, k + 1, by omega, by go_num, by rw [FS.out]; unfold wv; rw [WO.out]; simp, ?_⟩
          rw [FW.out]
          have e : (wv d S x).1 = x := by unfold wv; rw [WO.out]; simp
          rw [e, ← FG.out, set_self FL.out]
          exact RR.out
        case measure => simp [intOf]; omega
      | true =>
        have WO := Lib.hid (show pl.woff d x = x.2.2.1 - x.2.2.2.2.2.1 from by unfold pl.woff; rw [if_pos (by simpa using t1)])
        obtain ⟨v1, v2, v3, v4, v5, v6, v7⟩ := q1.keep (w' := wr) rfl
        have x1 := fun n os => (q1.grown n os).c0
        have x3 := fun n os => (q1.grown n os).c2
        have x6 := fun n os => (q1.grown n os).c5
        clear q1
        go_wp2_with fail
        refine wp_region_quiet_grown mixed (by kernel_rfl) ?_
        repeat (go_big_quiet_step (fail))
        refine wpQuiet_nil ?_
        intro w3 hw'
        have G1 := Lib.hid (show Grew wr w3 from by obtain ⟨p, h⟩ := hw'; exact ⟨p.n, p.os, h⟩)
        clear hw'
        have R3 := Lib.hid (RR.out.keep (w' := w3) fun _ => G1.out.below.block g2 hg2)
        have y3 := (R3.out.cells k FL.out).c2
        have y6 := (R3.out.cells k FL.out).c5
        rw [FG.out] at y3 y6
        have fz3 := R3.out.free (Nat.lt_of_le_of_lt (Nat.zero_le _) FL.out) (k * 7 + 2)
        go_wp2
        go_roundw
        case rel =>
          refine ⟨((Grew.step BB.out (Nat.le_refl _) G1.out).setCell (p := ⟨g2, k * 7 + 2, none⟩) G2.out _), by have := G1.out.below.size; simp [World.setCell]; omega, k + 1, by omega, by go_num, by rw [FS.out]; unfold wv; rw [WO.out], ?_⟩
          rw [FW.out]
          have e : (wv d S x).1 = (x.1, x.2.1, x.2.2.2.2.2.1, x.2.2.2.1, x.2.2.2.2.1, x.2.2.2.2.2.1, x.2.2.2.2.2.2) := by unfold wv; rw [WO.out]; simp; omega
          rw [e]
          exact seven.rowSet2 R3.out FL.out FG.out _
        case measure => simp [intOf]; omega
    · have u1 : decide (k < n) = false := by simp; omega
      obtain rfl : k = n := by omega
      have E1 := Lib.hid (show pl.fw (wv d) 0 l k = wvL l d from by rw [HNZ.out]; exact wvL_fw l d)
      clear hR
      go_wp2
      go_ret2
      exact ⟨c2, g2, rfl, by rw [← E1.out]; exact RR.out, G2.out, hg2, BB.out⟩
end Go.Proofs.Ytmaejlfjdkkpdaa.base
