/-
  Plain helpers of this seat's proofs: the contract of the model's CutPlan. Conditions: none.
-/
import Derived.Test.YtmnmijiikjpdnaaFm
import Derived.Test.YtmnmijiikjpdnaaRw7
import Derived.Test.YtmnmijiikjpdnaaOut
import Derived.StillTailTactics
namespace Go.Proofs.Ytmnmijiikjpdnaa.base
open Go.ChangeShapes Go.WideShapes Go.ChangeAt Go.RowKit
open seven (F7 zz Row At)
open pl (inR prOk pok)
open gen
set_option maxRecDepth 40000 in
set_option maxHeartbeats 4000000 in
theorem ctS (m : Int) (w : World) (cap g : Nat) (l : List F7) (r : Row w (some ⟨g, 0, none⟩) cap g l) (hn : l.length ≤ 1048577) : Calls Try.prog 22 #[.slice (some ⟨g, 0, none⟩) l.length cap, .int .i64 m] w (Out w (bkL pl.cut l m) (bkN pl.cut l m)) := by
  obtain ⟨P, hP⟩ : ∃ P, P = bkL pl.cut l m := ⟨_, rfl⟩
  obtain ⟨M, hM⟩ : ∃ M, M = bkN pl.cut l m := ⟨_, rfl⟩
  rw [← hP, ← hM]
  have HP := Lib.hid hP
  have HM := Lib.hid hM
  clear hP hM
  have GL := Lib.hid (fun h : 0 < l.length => r.lt h)
  have C := Lib.hid (fmS m w cap g l r hn)
  have R := Lib.hid r
  have CP := Lib.hid (fun w1 (h : Row w1 (some ⟨g, 0, none⟩) cap g l) => seven.cpS w1 g cap l h hn)
  clear r
  obtain ⟨n, hnz⟩ : ∃ n, n = l.length := ⟨_, rfl⟩
  rw [← hnz] at hn C CP ⊢
  have HNZ := Lib.hid hnz
  clear hnz
  go_enter Try.func22, Try.ntmps22
  go_wp2_with fail
  refine C.out.mono ?_
  rintro e w1 ⟨rfl, b1⟩
  have BN := Lib.hid b1
  have R1 := Lib.hid (R.out.keep (w' := w1) fun h => b1.block g (GL.out h))
  clear b1 R C
  cases hv : pyOk l m with
  | false =>
    have NOL := Lib.hid (HP.out.trans (bk_no hv).1)
    have NON := Lib.hid (HM.out.trans (bk_no hv).2)
    clear hv
    go_wp2
    go_ret2
    exact out_no NOL.out NON.out BN.out
  | true =>
    have YP := Lib.hid (HP.out.trans (bk_yes hv).1)
    have YM := Lib.hid (HM.out.trans (bk_yes hv).2)
    have hb : pl.PV l ∧ 0 ≤ m ∧ m ≤ 1000000000000 := by
      unfold pyOk at hv
      rw [Bool.and_eq_true, pl.inR_iff] at hv
      exact ⟨pl.pv_iff.1 hv.1, hv.2⟩
    obtain ⟨hpv, m0, m1⟩ := hb
    have PVH := Lib.hid hpv
    clear hv hpv
    have hn24 : n ≤ 24 := by rw [HNZ.out]; exact PVH.out.1
    have SB := Lib.hid (fun k hk => bs_b (f := pl.cut) (fun x m hx hm => cut_b hx hm) (l := l) (fun i hi => PVH.out.pin (i := i) hi) m0 (k := k) hk)
    go_wp2_with fail
    refine (CP.out w1 R1.out).mono ?_
    rintro e w2 ⟨v, rfl, c2, g2, hv2, r2, l2, k2, b2⟩
    rw [← HNZ.out] at hv2
    subst hv2
    have B2 := Lib.hid (BN.out.trans (b2.mono BN.out.size))
    have R2 := Lib.hid r2
    have G2 := Lib.hid (show w.heap.size ≤ g2 from Nat.le_trans BN.out.size l2)
    clear r2 b2 l2
    go_wp2
    go_loopw [1, 7] (fun sv iv wr => Below w.heap.size w wr ∧ g2 < wr.heap.size ∧ ∃ k : Nat, k ≤ n ∧ iv = .int .i64 ((k : Int) - 1) ∧ sv = .int .i64 (pl.bs pl.cut m l k) ∧ Row wr (some ⟨g2, 0, none⟩) c2 g2 (pl.bw pl.cut m l k)) (fun _ iv _ => (intOf iv + 1).toNat)
    case atStart => exact ⟨B2.out, k2, n, by omega, by go_num, by rw [HNZ.out, pl.bs_all], by rw [HNZ.out, pl.bw_all]; exact R2.out⟩
    case round =>
      obtain ⟨hB, hg2, k, hk, rfl, rfl, hR⟩ := hrel
      have BB := Lib.hid hB
      have RR := Lib.hid hR
      have m2 := R2.out.room
      rw [← HNZ.out] at m2
      clear hB
      cases k with
      | zero =>
        have YP' := Lib.hid (show P = pl.bw pl.cut m l 0 from YP.out)
        have YM' := Lib.hid (show M = pl.bs pl.cut m l 0 from YM.out)
        clear hR
        go_wp2
        go_ret2
        rw [← YM'.out]
        exact out_yes (by rw [YP'.out, pl.bw_len, HNZ.out]) (by rw [YP'.out]; exact RR.out) G2.out hg2 BB.out
      | succ j =>
        have ej : (((j + 1 : Nat) : Int) - 1) = (j : Int) := by omega
        rw [ej]
        clear ej
        have sB := SB.out (j + 1) (by rw [← HNZ.out]; exact hk)
        obtain ⟨s0, s1⟩ := sB
        have HLT := Lib.hid (show j < l.length from by rw [← HNZ.out]; exact hk)
        have FS := Lib.hid (pl.bs_succ pl.cut m HLT.out)
        have FW := Lib.hid (pl.bw_succ pl.cut m HLT.out)
        have FG := Lib.hid (pl.bw_get pl.cut m HLT.out)
        have FL := Lib.hid (show j < (pl.bw pl.cut m l (j + 1)).length from by rw [pl.bw_len]; exact HLT.out)
        have q1 := hR.cells j FL.out
        have fz := hR.free (Nat.lt_of_le_of_lt (Nat.zero_le _) FL.out)
        rw [FG.out] at q1
        obtain ⟨x, hx⟩ : ∃ x, x = l.getD j zz := ⟨_, rfl⟩
        have PX := PVH.out.pin HLT.out
        rw [← hx] at q1 FS FW FG PX
        obtain ⟨S, hS⟩ : ∃ S, S = pl.bs pl.cut m l (j + 1) := ⟨_, rfl⟩
        rw [← hS] at FS FW s0 s1 ⊢
        obtain ⟨L, hL⟩ : ∃ L, L = pl.bw pl.cut m l (j + 1) := ⟨_, rfl⟩
        rw [← hL] at FW FG RR FL
        have p0 := PX.p0; have p1 := PX.p1; have a0 := PX.q0; have a1 := PX.q1
        clear hx hS hL hR PX
        have z0 : (0 : Int) ≤ (j : Int) := by omega
        have z1 : (j : Int) < (n : Int) := by omega
        have mixed : Try.prog.follows .mixedOrders = true := Try.checked.mixed
        obtain ⟨x1, x2, x3, x4, x5, x6, x7⟩ := q1
        have f1 := fz (j * 7 + 1)
        go_wp2_with fail
        go_still_tail 12, (by kernel_rfl)
        have E := Lib.hid (show (if x.2.1 - x.2.2.2.2.1 < S then x.2.1 - x.2.2.2.2.1 else S) = min S (x.2.1 - x.2.2.2.2.1) from by split <;> omega)
        go_wp2
        go_roundw
        case rel =>
          rw [E.out]
          refine ⟨(BB.out.setCell (p := ⟨g2, j * 7 + 1, none⟩) G2.out _).drew, by show g2 < (wr.setCell _ _).heap.size; simp [World.setCell]; exact hg2, j, by omega, rfl, by rw [FS.out]; rfl, ?_⟩
          rw [FW.out]
          exact (seven.rowSet1 RR.out FL.out FG.out (x.2.1 - min S (x.2.1 - x.2.2.2.2.1))).keep fun _ => rfl
        case measure => simp [intOf]
end Go.Proofs.Ytmnmijiikjpdnaa.base
