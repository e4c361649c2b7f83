/-
  Plain helpers of this seat's proofs: the contract of the model's LateFees. Conditions: none.
-/
import Derived.Test.YtmaejlfjdkkpdaaOut
namespace Go.Proofs.Ytmaejlfjdkkpdaa.base
open Go.ChangeShapes Go.WideShapes Go.ChangeAt Go.RowKit
open seven (F7 zz Row At)
open pl (inR prOk pok)
open gen
set_option maxRecDepth 40000 in
set_option maxHeartbeats 4000000 in
theorem ltS (d f p : Int) (w : World) (cap g : Nat) (l : List F7) (r : Row w (some ⟨g, 0, none⟩) cap g l) (hn : l.length ≤ 1048577) : Calls Try.prog 74 #[.slice (some ⟨g, 0, none⟩) l.length cap, .int .i64 d, .int .i64 f, .int .i64 p] w (Out w (ltOk l d f p) (ltL l d f p) (ltN l d f p)) := by
  obtain ⟨P, hP⟩ : ∃ P, P = ltL l d f p := ⟨_, rfl⟩
  obtain ⟨M, hM⟩ : ∃ M, M = ltN l d f p := ⟨_, rfl⟩
  rw [← hP, ← hM]
  have HP := Lib.hid hP
  have HM := Lib.hid hM
  clear hP hM
  have GL := Lib.hid (fun h : 0 < l.length => r.lt h)
  have C := Lib.hid (pkS w (some ⟨g, 0, none⟩) cap g l r hn)
  have R := Lib.hid r
  have CP := Lib.hid (fun w1 (h : Row w1 (some ⟨g, 0, none⟩) cap g l) => seven.cpS w1 g cap l h hn)
  clear r
  obtain ⟨n, hnz⟩ : ∃ n, n = l.length := ⟨_, rfl⟩
  rw [← hnz] at hn C CP ⊢
  have HNZ := Lib.hid hnz
  clear hnz
  have CD := Lib.hid (fun w1 => dayS d w1)
  have CF := Lib.hid (fun w1 => inB f 0 100000 w1)
  have CG := Lib.hid (fun w1 => inB p 0 60 w1)
  go_enter Try.func74, Try.ntmps74
  go_wp2_with fail
  refine C.out.mono ?_
  rintro e w1 ⟨rfl, b1⟩
  have BN := Lib.hid b1
  have R1 := Lib.hid (R.out.keep (w' := w1) fun h => b1.block g (GL.out h))
  clear b1 R C
  cases hv : pl.pv l with
  | false =>
    have NOK := Lib.hid (show ltOk l d f p = false from (by unfold ltOk; rw [hv]; rfl))
    have NOL := Lib.hid (HP.out.trans (lt_no (by unfold ltOk; rw [hv]; rfl)).1)
    have NON := Lib.hid (HM.out.trans (lt_no (by unfold ltOk; rw [hv]; rfl)).2)
    clear hv
    go_wp2
    go_ret2
    exact out_no NOK.out NOL.out NON.out BN.out
  | true =>
    have HV := Lib.hid hv
    have PVH := Lib.hid (pl.pv_iff.1 hv)
    clear hv
    cases hd : inR d 0 100000 with
    | false =>
      rw [hd] at CD
      have NOK := Lib.hid (show ltOk l d f p = false from (by unfold ltOk; rw [HV.out, hd]; simp))
      have NOL := Lib.hid (HP.out.trans (lt_no (by unfold ltOk; rw [HV.out, hd]; simp)).1)
      have NON := Lib.hid (HM.out.trans (lt_no (by unfold ltOk; rw [HV.out, hd]; simp)).2)
      clear hd
      go_wp2_with fail
      refine (CD.out _).mono ?_
      rintro e w' ⟨rfl, rfl⟩
      go_wp2
      go_ret2
      exact out_no NOK.out NOL.out NON.out BN.out
    | true =>
      rw [hd] at CD
      have HD := Lib.hid hd
      clear hd
      cases hf : inR f 0 100000 with
      | false =>
        rw [hf] at CF
        have NOK := Lib.hid (show ltOk l d f p = false from (by unfold ltOk; rw [HV.out, HD.out, hf]; simp))
        have NOL := Lib.hid (HP.out.trans (lt_no (by unfold ltOk; rw [HV.out, HD.out, hf]; simp)).1)
        have NON := Lib.hid (HM.out.trans (lt_no (by unfold ltOk; rw [HV.out, HD.out, hf]; simp)).2)
        clear hf
        go_wp2_with fail
        refine (CD.out _).mono ?_
        rintro e w' ⟨rfl, rfl⟩
        go_wp2_with fail
        refine (CF.out _).mono ?_
        rintro e w' ⟨rfl, rfl⟩
        go_wp2
        go_ret2
        exact out_no NOK.out NOL.out NON.out BN.out
      | true =>
        rw [hf] at CF
        have HF := Lib.hid hf
        clear hf
        cases hg : inR p 0 60 with
        | false =>
          rw [hg] at CG
          have NOK := Lib.hid (show ltOk l d f p = false from (by unfold ltOk; rw [HV.out, HD.out, HF.out, hg]; simp))
          have NOL := Lib.hid (HP.out.trans (lt_no (by unfold ltOk; rw [HV.out, HD.out, HF.out, hg]; simp)).1)
          have NON := Lib.hid (HM.out.trans (lt_no (by unfold ltOk; rw [HV.out, HD.out, HF.out, hg]; simp)).2)
          clear hg
          go_wp2_with fail
          refine (CD.out _).mono ?_
          rintro e w' ⟨rfl, rfl⟩
          go_wp2_with fail
          refine (CF.out _).mono ?_
          rintro e w' ⟨rfl, rfl⟩
          go_wp2_with fail
          refine (CG.out _).mono ?_
          rintro e w' ⟨rfl, rfl⟩
          go_wp2
          go_ret2
          exact out_no NOK.out NOL.out NON.out BN.out
        | true =>
          rw [hg] at CG
          have HG := Lib.hid hg
          clear hg
          have HT := Lib.hid (show (inR d 0 100000 && inR f 0 100000 && inR p 0 60) = true from by rw [HD.out, HF.out, HG.out]; rfl)
          go_wp2_with fail
          refine (CD.out _).mono ?_
          rintro e w' ⟨rfl, rfl⟩
          go_wp2_with fail
          refine (CF.out _).mono ?_
          rintro e w' ⟨rfl, rfl⟩
          go_wp2_with fail
          refine (CG.out _).mono ?_
          rintro e w' ⟨rfl, rfl⟩
          have hb := HT.out
          rw [Bool.and_eq_true, Bool.and_eq_true, pl.inR_iff, pl.inR_iff, pl.inR_iff] at hb
          obtain ⟨⟨⟨d0, d1⟩, f0, f1⟩, p0, p1⟩ := hb
          have OK := Lib.hid (show ltOk l d f p = true from by unfold ltOk; rw [HV.out, HT.out]; rfl)
          have hn24 : n ≤ 24 := by rw [HNZ.out]; exact PVH.out.1
          have LS := Lib.hid (fun k hk => late_sum (d := d) (f := f) (g := p) (l := l) f0 f1 k hk)
          go_wp2_with fail
          refine (CP.out w1 R1.out).mono ?_
          rintro e w2 ⟨v, rfl, c2, g2, hv2, r2, l2, k2, b2⟩
          rw [← HNZ.out] at hv2
          subst hv2
          have B2 := Lib.hid (BN.out.trans (b2.mono BN.out.size))
          have R2 := Lib.hid r2
          have G2 := Lib.hid (show w.heap.size ≤ g2 from Nat.le_trans BN.out.size l2)
          clear r2 b2 l2
          go_wp2
          go_loopw [11, 12] (fun sv iv wr => Below w.heap.size w wr ∧ g2 < wr.heap.size ∧ ∃ k : Nat, k ≤ n ∧ iv = .int .i64 k ∧ sv = .int .i64 (pl.fs (pl.late d f p) 0 l k) ∧ Row wr (some ⟨g2, 0, none⟩) c2 g2 (pl.fw (pl.late d f p) 0 l k)) (fun _ iv _ => n - (intOf iv).toNat)
          case atStart => exact ⟨B2.out, k2, 0, by omega, rfl, by rw [pl.fs_zero], by rw [pl.fw_zero]; exact R2.out⟩
          case round =>
            obtain ⟨hB, hg2, k, hk, rfl, rfl, hR⟩ := hrel
            have BB := Lib.hid hB
            have RR := Lib.hid hR
            have m2 := R2.out.room
            rw [← HNZ.out] at m2
            clear hB
            have sB := LS.out k (by rw [← HNZ.out]; exact hk)
            obtain ⟨s0, s1⟩ := sB
            replace s1 : pl.fs (pl.late d f p) 0 l k ≤ 2400000 := by omega
            by_cases hlt : k < n
            · have HLT := Lib.hid (show k < l.length from by rw [← HNZ.out]; exact hlt)
              have FS := Lib.hid (pl.fs_succ (pl.late d f p) 0 HLT.out)
              have FW := Lib.hid (pl.fw_succ (pl.late d f p) 0 HLT.out)
              have FG := Lib.hid (pl.fw_get (pl.late d f p) 0 HLT.out)
              have FL := Lib.hid (show k < (pl.fw (pl.late d f p) 0 l k).length from by rw [pl.fw_len]; exact HLT.out)
              have q1 := hR.cells k FL.out
              have fz := hR.free (Nat.lt_of_le_of_lt (Nat.zero_le _) FL.out) (k * 7 + 3)
              rw [FG.out] at q1
              obtain ⟨x, hx⟩ : ∃ x, x = l.getD k zz := ⟨_, rfl⟩
              have PX := PVH.out.pin HLT.out
              rw [← hx] at q1 FS FW FG PX
              obtain ⟨S, hS⟩ : ∃ S, S = pl.fs (pl.late d f p) 0 l k := ⟨_, rfl⟩
              rw [← hS] at FS FW s0 s1 ⊢
              obtain ⟨L, hL⟩ : ∃ L, L = pl.fw (pl.late d f p) 0 l k := ⟨_, rfl⟩
              rw [← hL] at FW FG RR FL
              have dx0 := PX.d0
              have dx1 := PX.d1
              clear hx hS hL hR PX
              have mixed : Try.prog.follows .mixedOrders = true := Try.checked.mixed
              have z1 : (k : Int) < (n : Int) := by omega
              have u1 : decide (k < n) = true := by simp; omega
              obtain ⟨x1, x2, x3, x4, x5, x6, x7⟩ := q1
              cases t1 : decide (x.1 + p < d) with
              | false =>
                have LT := Lib.hid (isLate_of (d := d) (g := p) (x := x) (b := false) (by rw [t1]; simp))
                go_wp2
                go_roundw
                case rel =>
                  refine ⟨BB.out.alloc BB.out.size _, by simp; omega, k + 1, by omega, by go_num, by rw [FS.out, late_f LT.out], ?_⟩
                  rw [FW.out, late_f LT.out, ← FG.out, set_self FL.out]
                  exact RR.out.keep fun _ => Below.heap_alloc _ _ _ hg2
                case measure => simp [intOf]; omega
              | true =>
                cases t2 : (x.2.2.2.1 == 0) with
                | false =>
                  have LT := Lib.hid (isLate_of (d := d) (g := p) (x := x) (b := false) (by rw [t1, t2]; simp))
                  go_wp2
                  go_roundw
                  case rel =>
                    refine ⟨BB.out.alloc BB.out.size _, by simp; omega, k + 1, by omega, by go_num, by rw [FS.out, late_f LT.out], ?_⟩
                    rw [FW.out, late_f LT.out, ← FG.out, set_self FL.out]
                    exact RR.out.keep fun _ => Below.heap_alloc _ _ _ hg2
                  case measure => simp [intOf]; omega
                | true =>
                  cases t3 : decide (x.2.2.2.2.1 < x.2.1) with
                  | true =>
                    have LT := Lib.hid (isLate_of (d := d) (g := p) (x := x) (b := true) (by rw [t1, t2, t3]; simp))
                    have R3 := Lib.hid (RR.out.keep (w' := wr.alloc (.cells #[.int .i64 x.1, .int .i64 x.2.1, .int .i64 x.2.2.1, .int .i64 x.2.2.2.1, .int .i64 x.2.2.2.2.1, .int .i64 x.2.2.2.2.2.1, .int .i64 x.2.2.2.2.2.2] 37)) fun _ => Below.heap_alloc _ _ _ hg2)
                    have y3 := (R3.out.cells k FL.out).c3
                    have fz3 := R3.out.free (Nat.lt_of_le_of_lt (Nat.zero_le _) FL.out) (k * 7 + 3)
                    go_wp2
                    go_roundw
                    case rel =>
                      refine ⟨(BB.out.setCell (p := ⟨g2, k * 7 + 3, none⟩) G2.out _).alloc (by simp [World.setCell]; exact BB.out.size) _, by simp [World.setCell]; omega, k + 1, by omega, by go_num, by rw [FS.out, late_t LT.out]; try go_num, ?_⟩
                      rw [FW.out, late_t LT.out]
                      exact (seven.rowSet3 RR.out FL.out FG.out _).keep fun _ => Below.heap_alloc _ _ _ (by simp [World.setCell]; exact hg2)
                    case measure => simp [intOf]; omega
                  | false =>
                    cases t4 : decide (x.2.2.2.2.2.1 < x.2.2.1) with
                    | true =>
                      have LT := Lib.hid (isLate_of (d := d) (g := p) (x := x) (b := true) (by rw [t1, t2, t3, t4]; simp))
                      have R3 := Lib.hid (RR.out.keep (w' := wr.alloc (.cells #[.int .i64 x.1, .int .i64 x.2.1, .int .i64 x.2.2.1, .int .i64 x.2.2.2.1, .int .i64 x.2.2.2.2.1, .int .i64 x.2.2.2.2.2.1, .int .i64 x.2.2.2.2.2.2] 37)) fun _ => Below.heap_alloc _ _ _ hg2)
                      have y3 := (R3.out.cells k FL.out).c3
                      have fz3 := R3.out.free (Nat.lt_of_le_of_lt (Nat.zero_le _) FL.out) (k * 7 + 3)
                      go_wp2
                      go_roundw
                      case rel =>
                        refine ⟨(BB.out.setCell (p := ⟨g2, k * 7 + 3, none⟩) G2.out _).alloc (by simp [World.setCell]; exact BB.out.size) _, by simp [World.setCell]; omega, k + 1, by omega, by go_num, by rw [FS.out, late_t LT.out]; try go_num, ?_⟩
                        rw [FW.out, late_t LT.out]
                        exact (seven.rowSet3 RR.out FL.out FG.out _).keep fun _ => Below.heap_alloc _ _ _ (by simp [World.setCell]; exact hg2)
                      case measure => simp [intOf]; omega
                    | false =>
                      have LT := Lib.hid (isLate_of (d := d) (g := p) (x := x) (b := false) (by rw [t1, t2, t3, t4]; simp))
                      go_wp2
                      go_roundw
                      case rel =>
                        refine ⟨BB.out.alloc BB.out.size _, by simp; omega, k + 1, by omega, by go_num, by rw [FS.out, late_f LT.out], ?_⟩
                        rw [FW.out, late_f LT.out, ← FG.out, set_self FL.out]
                        exact RR.out.keep fun _ => Below.heap_alloc _ _ _ hg2
                      case measure => simp [intOf]; omega
            · have u1 : decide (k < n) = false := by simp; omega
              obtain rfl : k = n := by omega
              have E1 := Lib.hid (show P = pl.fw (pl.late d f p) 0 l k from by rw [HP.out, (lt_yes OK.out).1, ← HNZ.out])
              have E2 := Lib.hid (show M = pl.fs (pl.late d f p) 0 l k from by rw [HM.out, (lt_yes OK.out).2, ← HNZ.out])
              clear hR
              go_wp2
              go_ret2
              rw [← E2.out]
              exact out_yes (by rw [E1.out, pl.fw_len, HNZ.out]) (by rw [E1.out]; exact RR.out) G2.out hg2 BB.out
end Go.Proofs.Ytmaejlfjdkkpdaa.base
