/-
  Plain helpers of this seat's proofs: the contract of the model's OrderPay. Conditions: none.
-/
import Derived.Test.YtmaejlfjdkkpdaaOut
import Derived.Test.YtmaejlfjdkkpdaaOpPI
import Derived.Test.YtmaejlfjdkkpdaaOkS
import Derived.Test.YtmaejlfjdkkpdaaCs6
import Derived.Test.YtmaejlfjdkkpdaaPyS
namespace Go.Proofs.Ytmaejlfjdkkpdaa.base
open Go.ChangeShapes Go.WideShapes Go.ChangeAt Go.RowKit
open seven (F7 zz Row At)
open pl (inR prOk pok)
open gen
set_option maxRecDepth 40000 in
set_option maxHeartbeats 4000000 in
theorem ltS (d f p : Int) (w : World) (cap g : Nat) (l : List F7) (r : Row w (some ⟨g, 0, none⟩) cap g l) (hn : l.length ≤ 1048577) : Calls Try.prog 74 #[.slice (some ⟨g, 0, none⟩) l.length cap, .int .i64 d, .int .i64 f, .int .i64 p] w (Out w (ltOk l d f p) (ltL l d f p) (ltN l d f p)) := by
  obtain ⟨P, hP⟩ : ∃ P, P = ltL l d f p := ⟨_, rfl⟩
  obtain ⟨M, hM⟩ : ∃ M, M = ltN l d f p := ⟨_, rfl⟩
  rw [← hP, ← hM]
  have HP := Lib.hid hP
  have HM := Lib.hid hM
  clear hP hM
  have GL := Lib.hid (fun h : 0 < l.length => r.lt h)
  have C := Lib.hid (pkS w (some ⟨g, 0, none⟩) cap g l r hn)
  have R := Lib.hid r
  have CP := Lib.hid (fun w1 (h : Row w1 (some ⟨g, 0, none⟩) cap g l) => seven.cpS w1 g cap l h hn)
  clear r
  obtain ⟨n, hnz⟩ : ∃ n, n = l.length := ⟨_, rfl⟩
  rw [← hnz] at hn C CP ⊢
  have HNZ := Lib.hid hnz
  clear hnz
  have CD := Lib.hid (fun w1 => dayS d w1)
  have CF := Lib.hid (fun w1 => inB f 0 100000 w1)
  have CG := Lib.hid (fun w1 => inB p 0 60 w1)
  go_enter Try.func74, Try.ntmps74
  go_wp2_with fail
  refine C.out.mono ?_
  rintro e w1 ⟨rfl, b1⟩
  have BN := Lib.hid b1
  have R1 := Lib.hid (R.out.keep (w' := w1) fun h => b1.block g (GL.out h))
  clear b1 R C
  cases hv : pl.pv l with
  | false =>
    have NOK := Lib.hid (show ltOk l d f p = false from (by unfold ltOk; rw [hv]; rfl))
    have NOL := Lib.hid (HP.out.trans (lt_no (by unfold ltOk; rw [hv]; rfl)).1)
    have NON := Lib.hid (HM.out.trans (lt_no (by unfold ltOk; rw [hv]; rfl)).2)
    clear hv
    go_wp2
    go_ret2
    exact out_no NOK.out NOL.out NON.out BN.out
  | true =>
    have HV := Lib.hid hv
    have PVH := Lib.hid (pl.pv_iff.1 hv)
    clear hv
    cases hd : inR d 0 100000 with
    | false =>
      rw [hd] at CD
      have NOK := Lib.hid (show ltOk l d f p = false from (by unfold ltOk; rw [HV.out, hd]; simp))
      have NOL := Lib.hid (HP.out.trans (lt_no (by unfold ltOk; rw [HV.out, hd]; simp)).1)
      have NON := Lib.hid (HM.out.trans (lt_no (by unfold ltOk; rw [HV.out, hd]; simp)).2)
      clear hd
      go_wp2_with fail
      refine (CD.out _).mono ?_
      rintro e w' ⟨rfl, rfl⟩
      go_wp2
      go_ret2
      exact out_no NOK.out NOL.out NON.out BN.out
    | true =>
      rw [hd] at CD
      have HD := Lib.hid hd
      clear hd
      cases hf : inR f 0 100000 with
      | false =>
        rw [hf] at CF
        have NOK := Lib.hid (show ltOk l d f p = false from (by unfold ltOk; rw [HV.out, HD.out, hf]; simp))
        have NOL := Lib.hid (HP.out.trans (lt_no (by unfold ltOk; rw [HV.out, HD.out, hf]; simp)).1)
        have NON := Lib.hid (HM.out.trans (lt_no (by unfold ltOk; rw [HV.out, HD.out, hf]; simp)).2)
        clear hf
        go_wp2_with fail
        refine (CD.out _).mono ?_
        rintro e w' ⟨rfl, rfl⟩
        go_wp2_with fail
        refine (CF.out _).mono ?_
        rintro e w' ⟨rfl, rfl⟩
        go_wp2
        go_ret2
        exact out_no NOK.out NOL.out NON.out BN.out
      | true =>
        rw [hf] at CF
        have HF := Lib.hid hf
        clear hf
        cases hg : inR p 0 60 with
        | false =>
          rw [hg] at CG
          have NOK := Lib.hid (show ltOk l d f p = false from (by unfold ltOk; rw [HV.out, HD.out, HF.out, hg]; simp))
          have NOL := Lib.hid (HP.out.trans (lt_no (by unfold ltOk; rw [HV.out, HD.out, HF.out, hg]; simp)).1)
          have NON := Lib.hid (HM.out.trans (lt_no (by unfold ltOk; rw [HV.out, HD.out, HF.out, hg]; simp)).2)
          clear hg
          go_wp2_with fail
          refine (CD.out _).mono ?_
          rintro e w' ⟨rfl, rfl⟩
          go_wp2_with fail
          refine (CF.out _).mono ?_
          rintro e w' ⟨rfl, rfl⟩
          go_wp2_with fail
          refine (CG.out _).mono ?_
          rintro e w' ⟨rfl, rfl⟩
          go_wp2
          go_ret2
          exact out_no NOK.out NOL.out NON.out BN.out
        | true =>
          rw [hg] at CG
          have HG := Lib.hid hg
          clear hg
          have HT := Lib.hid (show (inR d 0 100000 && inR f 0 100000 && inR p 0 60) = true from by rw [HD.out, HF.out, HG.out]; rfl)
          go_wp2_with fail
          refine (CD.out _).mono ?_
          rintro e w' ⟨rfl, rfl⟩
          go_wp2_with fail
          refine (CF.out _).mono ?_
          rintro e w' ⟨rfl, rfl⟩
          go_wp2_with fail
          refine (CG.out _).mono ?_
          rintro e w' ⟨rfl, rfl⟩
          have hb := HT.out
          rw [Bool.and_eq_true, Bool.and_eq_true, pl.inR_iff, pl.inR_iff, pl.inR_iff] at hb
          obtain ⟨⟨⟨d0, d1⟩, f0, f1⟩, p0, p1⟩ := hb
          have OK := Lib.hid (show ltOk l d f p = true from by unfold ltOk; rw [HV.out, HT.out]; rfl)
          have hn24 : n ≤ 24 := by rw [HNZ.out]; exact PVH.out.1
          have LS := Lib.hid (fun k hk => late_sum (d := d) (f := f) (g := p) (l := l) f0 f1 k hk)
          go_wp2_with fail
          refine (CP.out w1 R1.out).mono ?_
          rintro e w2 ⟨v, rfl, c2, g2, hv2, r2, l2, k2, b2⟩
          rw [← HNZ.out] at hv2
          subst hv2
          have B2 := Lib.hid (BN.out.trans (b2.mono BN.out.size))
          have R2 := Lib.hid r2
          have G2 := Lib.hid (show w.heap.size ≤ g2 from Nat.le_trans BN.out.size l2)
          clear r2 b2 l2
          go_wp2
          go_loopw [11, 12] (fun sv iv wr => Below w.heap.size w wr ∧ g2 < wr.heap.size ∧ ∃ k : Nat, k ≤ n ∧ iv = .int .i64 k ∧ sv = .int .i64 (pl.fs (pl.late d f p) 0 l k) ∧ Row wr (some ⟨g2, 0, none⟩) c2 g2 (pl.fw (pl.late d f p) 0 l k)) (fun _ iv _ => n - (intOf iv).toNat)
          case atStart => exact ⟨B2.out, k2, 0, by omega, rfl, by rw [pl.fs_zero], by rw [pl.fw_zero]; exact R2.out⟩
          case round =>
            obtain ⟨hB, hg2, k, hk, rfl, rfl, hR⟩ := hrel
            have BB := Lib.hid hB
            have RR := Lib.hid hR
            have m2 := R2.out.room
            rw [← HNZ.out] at m2
            clear hB
            have sB := LS.out k (by rw [← HNZ.out]; exact hk)
            obtain ⟨s0, s1⟩ := sB
            replace s1 : pl.fs (pl.late d f p) 0 l k ≤ 2400000 := by omega
            by_cases hlt : k < n
            · have HLT := Lib.hid (show k < l.length from by rw [← HNZ.out]; exact hlt)
              have FS := Lib.hid (pl.fs_succ (pl.late d f p) 0 HLT.out)
              have FW := Lib.hid (pl.fw_succ (pl.late d f p) 0 HLT.out)
              have FG := Lib.hid (pl.fw_get (pl.late d f p) 0 HLT.out)
              have FL := Lib.hid (show k < (pl.fw (pl.late d f p) 0 l k).length from by rw [pl.fw_len]; exact HLT.out)
              have q1 := hR.cells k FL.out
              have fz := hR.free (Nat.lt_of_le_of_lt (Nat.zero_le _) FL.out) (k * 7 + 3)
              rw [FG.out] at q1
              obtain ⟨x, hx⟩ : ∃ x, x = l.getD k zz := ⟨_, rfl⟩
              have PX := PVH.out.pin HLT.out
              rw [← hx] at q1 FS FW FG PX
              obtain ⟨S, hS⟩ : ∃ S, S = pl.fs (pl.late d f p) 0 l k := ⟨_, rfl⟩
              rw [← hS] at FS FW s0 s1 ⊢
              obtain ⟨L, hL⟩ : ∃ L, L = pl.fw (pl.late d f p) 0 l k := ⟨_, rfl⟩
              rw [← hL] at FW FG RR FL
              have dx0 := PX.d0
              have dx1 := PX.d1
              clear hx hS hL hR PX
              have mixed : Try.prog.follows .mixedOrders = true := Try.checked.mixed
              have z1 : (k : Int) < (n : Int) := by omega
              have u1 : decide (k < n) = true := by simp; omega
              obtain ⟨x1, x2, x3, x4, x5, x6, x7⟩ := q1
              cases t1 : decide (x.1 + p < d) with
              | false =>
                have LT := Lib.hid (isLate_of (d := d) (g := p) (x := x) (b := false) (by rw [t1]; simp))
                go_wp2
                go_roundw
                case rel =>
                  refine ⟨BB.out.alloc BB.out.size _, by simp; omega, k + 1, by omega, by go_num, by rw [FS.out, late_f LT.out], ?_⟩
                  rw [FW.out, late_f LT.out, ← FG.out, set_self FL.out]
                  exact RR.out.keep fun _ => Below.heap_alloc _ _ _ hg2
                case measure => simp [intOf]; omega
              | true =>
                cases t2 : (x.2.2.2.1 == 0) with
                | false =>
                  have LT := Lib.hid (isLate_of (d := d) (g := p) (x := x) (b := false) (by rw [t1, t2]; simp))
                  go_wp2
                  go_roundw
                  case rel =>
                    refine ⟨BB.out.alloc BB.out.size _, by simp; omega, k + 1, by omega, by go_num, by rw [FS.out, late_f LT.out], ?_⟩
                    rw [FW.out, late_f LT.out, ← FG.out, set_self FL.out]
                    exact RR.out.keep fun _ => Below.heap_alloc _ _ _ hg2
                  case measure => simp [intOf]; omega
                | true =>
                  cases t3 : decide (x.2.2.2.2.1 < x.2.1) with
                  | true =>
                    have LT := Lib.hid (isLate_of (d := d) (g := p) (x := x) (b := true) (by rw [t1, t2, t3]; simp))
                    have R3 := Lib.hid (RR.out.keep (w' := wr.alloc (.cells #[.int .i64 x.1, .int .i64 x.2.1, .int .i64 x.2.2.1, .int .i64 x.2.2.2.1, .int .i64 x.2.2.2.2.1, .int .i64 x.2.2.2.2.2.1, .int .i64 x.2.2.2.2.2.2] 37)) fun _ => Below.heap_alloc _ _ _ hg2)
                    have y3 := (R3.out.cells k FL.out).c3
                    have fz3 := R3.out.free (Nat.lt_of_le_of_lt (Nat.zero_le _) FL.out) (k * 7 + 3)
                    go_wp2
                    go_roundw
                    case rel =>
                      refine ⟨(BB.out.setCell (p := ⟨g2, k * 7 + 3, none⟩) G2.out _).alloc (by simp [World.setCell]; exact BB.out.size) _, by simp [World.setCell]; omega, k + 1, by omega, by go_num, by rw [FS.out, late_t LT.out]; try go_num, ?_⟩
                      rw [FW.out, late_t LT.out]
                      exact (seven.rowSet3 RR.out FL.out FG.out _).keep fun _ => Below.heap_alloc _ _ _ (by simp [World.setCell]; exact hg2)
                    case measure => simp [intOf]; omega
                  | false =>
                    cases t4 : decide (x.2.2.2.2.2.1 < x.2.2.1) with
                    | true =>
                      have LT := Lib.hid (isLate_of (d := d) (g := p) (x := x) (b := true) (by rw [t1, t2, t3, t4]; simp))
                      have R3 := Lib.hid (RR.out.keep (w' := wr.alloc (.cells #[.int .i64 x.1, .int .i64 x.2.1, .int .i64 x.2.2.1, .int .i64 x.2.2.2.1, .int .i64 x.2.2.2.2.1, .int .i64 x.2.2.2.2.2.1, .int .i64 x.2.2.2.2.2.2] 37)) fun _ => Below.heap_alloc _ _ _ hg2)
                      have y3 := (R3.out.cells k FL.out).c3
                      have fz3 := R3.out.free (Nat.lt_of_le_of_lt (Nat.zero_le _) FL.out) (k * 7 + 3)
                      go_wp2
                      go_roundw
                      case rel =>
                        refine ⟨(BB.out.setCell (p := ⟨g2, k * 7 + 3, none⟩) G2.out _).alloc (by simp [World.setCell]; exact BB.out.size) _, by simp [World.setCell]; omega, k + 1, by omega, by go_num, by rw [FS.out, late_t LT.out]; try go_num, ?_⟩
                        rw [FW.out, late_t LT.out]
                        exact (seven.rowSet3 RR.out FL.out FG.out _).keep fun _ => Below.heap_alloc _ _ _ (by simp [World.setCell]; exact hg2)
                      case measure => simp [intOf]; omega
                    | false =>
                      have LT := Lib.hid (isLate_of (d := d) (g := p) (x := x) (b := false) (by rw [t1, t2, t3, t4]; simp))
                      go_wp2
                      go_roundw
                      case rel =>
                        refine ⟨BB.out.alloc BB.out.size _, by simp; omega, k + 1, by omega, by go_num, by rw [FS.out, late_f LT.out], ?_⟩
                        rw [FW.out, late_f LT.out, ← FG.out, set_self FL.out]
                        exact RR.out.keep fun _ => Below.heap_alloc _ _ _ hg2
                      case measure => simp [intOf]; omega
            · have u1 : decide (k < n) = false := by simp; omega
              obtain rfl : k = n := by omega
              have E1 := Lib.hid (show P = pl.fw (pl.late d f p) 0 l k from by rw [HP.out, (lt_yes OK.out).1, ← HNZ.out])
              have E2 := Lib.hid (show M = pl.fs (pl.late d f p) 0 l k from by rw [HM.out, (lt_yes OK.out).2, ← HNZ.out])
              clear hR
              go_wp2
              go_ret2
              rw [← E2.out]
              exact out_yes (by rw [E1.out, pl.fw_len, HNZ.out]) (by rw [E1.out]; exact RR.out) G2.out hg2 BB.out
end Go.Proofs.Ytmaejlfjdkkpdaa.base

namespace Go.Proofs.Ytmaejlfjdkkpdaa.ob
open Go.ChangeShapes Go.WideShapes Go.ChangeAt Go.RowKit
open gen
open seven (F7 zz Row At)
open four (F4)
open pl (inR)
open pls (nth Pls OL NewO)
open ord (Sc iok)
set_option maxRecDepth 100000 in
set_option maxHeartbeats 8000000 in
theorem opS (m : Int) (w : World) (B : Nat) (s : Sc) (ci gi : Nat) (l : List F4) (cp gp : Nat) (p : List (List F7)) (gs cs : Nat → Nat) (h : OL w B l p (some ⟨gi, 0, none⟩) ci gi (some ⟨gp, 0, none⟩) cp gp gs cs) (hl : l.length ≤ 1048576) (hn : p.length ≤ 1048576) (hm : ∀ i, i < p.length → (nth p i).length ≤ 1048576) {S0 S1 S2 S3 C : Int} {s' : Sc} {l' : List F4} {p' : List (List F7)} (hr : payR s l p m S0 S1 S2 S3 C s' l' p') :
    Calls Try.prog 30 #[.agg #[.int .i64 s.id, .int .i64 s.co, .int .i64 s.me, .int .i64 s.cu, .int .i64 s.da, .int .i64 s.nn, .int .i64 s.ra, .int .i64 s.nu, .int .i64 s.de, .slice (some ⟨gi, 0, none⟩) l.length ci, .slice (some ⟨gp, 0, none⟩) p.length cp, .int .i64 s.op, .int .i64 s.up], .int .i64 m] w fun e w' => ∃ v, e = .returned (.tuple #[v, .agg #[.int .i64 0, .int .i64 0, .int .i64 0, .int .i64 0, .int .i64 S3, .int .i64 S2, .int .i64 S1], .int .i64 S0, .int .i64 C]) ∧ Res w s' l' p' v w' := by
  have b0 : Below w.heap.size w (((w.alloc (.cells #[.int .i64 s.id, .int .i64 s.co, .int .i64 s.me, .int .i64 s.cu, .int .i64 s.da, .int .i64 s.nn, .int .i64 s.ra, .int .i64 s.nu, .int .i64 s.de, .slice (some ⟨gi, 0, none⟩) l.length ci, .slice (some ⟨gp, 0, none⟩) p.length cp, .int .i64 s.op, .int .i64 s.up] 31)).alloc (.cells #[.int .i64 0, .int .i64 0, .int .i64 0, .int .i64 0, .int .i64 0, .int .i64 0, .int .i64 0, .int .i64 0, .int .i64 0, .slice none 0 0, .slice none 0 0, .int .i64 0, .int .i64 0] 31)).alloc (.cells #[.int .i64 0, .int .i64 0, .int .i64 0, .int .i64 0, .int .i64 0, .int .i64 0, .int .i64 0] 37)) := bAl (bAl (bAl (Below.refl _ _) (Nat.le_refl _) _) (Nat.le_refl _) _) (Nat.le_refl _) _
  have B0 := Lib.hid b0
  have O0 := Lib.hid (((OB.new w s (some ⟨gi, 0, none⟩) l.length ci (some ⟨gp, 0, none⟩) p.length cp 31).keep (w' := (w.alloc (.cells #[.int .i64 s.id, .int .i64 s.co, .int .i64 s.me, .int .i64 s.cu, .int .i64 s.da, .int .i64 s.nn, .int .i64 s.ra, .int .i64 s.nu, .int .i64 s.de, .slice (some ⟨gi, 0, none⟩) l.length ci, .slice (some ⟨gp, 0, none⟩) p.length cp, .int .i64 s.op, .int .i64 s.up] 31)).alloc (.cells #[.int .i64 0, .int .i64 0, .int .i64 0, .int .i64 0, .int .i64 0, .int .i64 0, .int .i64 0, .int .i64 0, .int .i64 0, .slice none 0 0, .slice none 0 0, .int .i64 0, .int .i64 0] 31)) (Below.heap_alloc _ _ _ (by simp))).keep (w' := ((w.alloc (.cells #[.int .i64 s.id, .int .i64 s.co, .int .i64 s.me, .int .i64 s.cu, .int .i64 s.da, .int .i64 s.nn, .int .i64 s.ra, .int .i64 s.nu, .int .i64 s.de, .slice (some ⟨gi, 0, none⟩) l.length ci, .slice (some ⟨gp, 0, none⟩) p.length cp, .int .i64 s.op, .int .i64 s.up] 31)).alloc (.cells #[.int .i64 0, .int .i64 0, .int .i64 0, .int .i64 0, .int .i64 0, .int .i64 0, .int .i64 0, .int .i64 0, .int .i64 0, .slice none 0 0, .slice none 0 0, .int .i64 0, .int .i64 0] 31)).alloc (.cells #[.int .i64 0, .int .i64 0, .int .i64 0, .int .i64 0, .int .i64 0, .int .i64 0, .int .i64 0] 37)) (Below.heap_alloc _ _ _ (by simp only [sz_al]; omega)))
  have X0 := Blk.new (w.alloc (.cells #[.int .i64 s.id, .int .i64 s.co, .int .i64 s.me, .int .i64 s.cu, .int .i64 s.da, .int .i64 s.nn, .int .i64 s.ra, .int .i64 s.nu, .int .i64 s.de, .slice (some ⟨gi, 0, none⟩) l.length ci, .slice (some ⟨gp, 0, none⟩) p.length cp, .int .i64 s.op, .int .i64 s.up] 31)) #[.int .i64 0, .int .i64 0, .int .i64 0, .int .i64 0, .int .i64 0, .int .i64 0, .int .i64 0, .int .i64 0, .int .i64 0, .slice none 0 0, .slice none 0 0, .int .i64 0, .int .i64 0] 31 13 rfl
  have X0 := X0.al (.cells #[.int .i64 0, .int .i64 0, .int .i64 0, .int .i64 0, .int .i64 0, .int .i64 0, .int .i64 0] 37)
  have U0 := base.Bx.zero ((w.alloc (.cells #[.int .i64 s.id, .int .i64 s.co, .int .i64 s.me, .int .i64 s.cu, .int .i64 s.da, .int .i64 s.nn, .int .i64 s.ra, .int .i64 s.nu, .int .i64 s.de, .slice (some ⟨gi, 0, none⟩) l.length ci, .slice (some ⟨gp, 0, none⟩) p.length cp, .int .i64 s.op, .int .i64 s.up] 31)).alloc (.cells #[.int .i64 0, .int .i64 0, .int .i64 0, .int .i64 0, .int .i64 0, .int .i64 0, .int .i64 0, .int .i64 0, .int .i64 0, .slice none 0 0, .slice none 0 0, .int .i64 0, .int .i64 0] 31))
  have z0 : (((w.alloc (.cells #[.int .i64 s.id, .int .i64 s.co, .int .i64 s.me, .int .i64 s.cu, .int .i64 s.da, .int .i64 s.nn, .int .i64 s.ra, .int .i64 s.nu, .int .i64 s.de, .slice (some ⟨gi, 0, none⟩) l.length ci, .slice (some ⟨gp, 0, none⟩) p.length cp, .int .i64 s.op, .int .i64 s.up] 31)).alloc (.cells #[.int .i64 0, .int .i64 0, .int .i64 0, .int .i64 0, .int .i64 0, .int .i64 0, .int .i64 0, .int .i64 0, .int .i64 0, .slice none 0 0, .slice none 0 0, .int .i64 0, .int .i64 0] 31)).alloc (.cells #[.int .i64 0, .int .i64 0, .int .i64 0, .int .i64 0, .int .i64 0, .int .i64 0, .int .i64 0] 37)).heap.size = w.heap.size + 1 + 1 + 1 := by simp only [sz_al]
  simp only [sz_al] at X0 U0
  have X0 := Lib.hid X0
  have U0 := Lib.hid U0
  have hm' : ∀ i, i < p.length → (nth p i).length ≤ 1048577 := fun i hi => Nat.le_trans (hm i hi) (by omega)
  have CK := okS (((w.alloc (.cells #[.int .i64 s.id, .int .i64 s.co, .int .i64 s.me, .int .i64 s.cu, .int .i64 s.da, .int .i64 s.nn, .int .i64 s.ra, .int .i64 s.nu, .int .i64 s.de, .slice (some ⟨gi, 0, none⟩) l.length ci, .slice (some ⟨gp, 0, none⟩) p.length cp, .int .i64 s.op, .int .i64 s.up] 31)).alloc (.cells #[.int .i64 0, .int .i64 0, .int .i64 0, .int .i64 0, .int .i64 0, .int .i64 0, .int .i64 0, .int .i64 0, .int .i64 0, .slice none 0 0, .slice none 0 0, .int .i64 0, .int .i64 0] 31)).alloc (.cells #[.int .i64 0, .int .i64 0, .int .i64 0, .int .i64 0, .int .i64 0, .int .i64 0, .int .i64 0] 37)) B s _ ci gi l _ cp gp p gs cs (h.below b0) (by omega) (by omega) hm'
  have L := Lib.hid h
  have HM := Lib.hid hm'
  clear h hm hm' b0
  rcases hr with ⟨hk, rfl, rfl, rfl, rfl, rfl, rfl, rfl, rfl⟩ | ⟨hk, ht, rfl, rfl, rfl, rfl, rfl, rfl, rfl, rfl⟩ | ⟨hk, ht, hS, rfl, rfl, rfl, rfl⟩
  · rw [hk] at CK
    go_enter Try.func30, Try.ntmps30
    go_wp2_with fail
    generalize ((w.alloc (.cells #[.int .i64 s.id, .int .i64 s.co, .int .i64 s.me, .int .i64 s.cu, .int .i64 s.da, .int .i64 s.nn, .int .i64 s.ra, .int .i64 s.nu, .int .i64 s.de, .slice (some ⟨gi, 0, none⟩) l.length ci, .slice (some ⟨gp, 0, none⟩) p.length cp, .int .i64 s.op, .int .i64 s.up] 31)).alloc (.cells #[.int .i64 0, .int .i64 0, .int .i64 0, .int .i64 0, .int .i64 0, .int .i64 0, .int .i64 0, .int .i64 0, .int .i64 0, .slice none 0 0, .slice none 0 0, .int .i64 0, .int .i64 0] 31)).alloc (.cells #[.int .i64 0, .int .i64 0, .int .i64 0, .int .i64 0, .int .i64 0, .int .i64 0, .int .i64 0] 37) = W2 at B0 O0 X0 U0 z0 CK ⊢
    refine CK.mono ?_
    rintro e w1 ⟨rfl, b1⟩
    have B1 := Lib.hid (B0.out.trans (b1.mono B0.out.size))
    have O1 := Lib.hid (O0.out.keep (b1.block w.heap.size (by omega)))
    have X1 := Lib.hid (X0.out.below b1 X0.out.lt)
    have U1 := Lib.hid (U0.out.keep (b1.block (w.heap.size + 1 + 1) (by omega)))
    have z1 := b1.size
    clear b1 O0 X0 U0 B0
    have x0 : w1.cell? ⟨w.heap.size + 1, 0, none⟩ = some (.int .i64 0) := X1.out.cell 0 (by decide)
    have x1 : w1.cell? ⟨w.heap.size + 1, 1, none⟩ = some (.int .i64 0) := X1.out.cell 1 (by decide)
    have x2 : w1.cell? ⟨w.heap.size + 1, 2, none⟩ = some (.int .i64 0) := X1.out.cell 2 (by decide)
    have x3 : w1.cell? ⟨w.heap.size + 1, 3, none⟩ = some (.int .i64 0) := X1.out.cell 3 (by decide)
    have x4 : w1.cell? ⟨w.heap.size + 1, 4, none⟩ = some (.int .i64 0) := X1.out.cell 4 (by decide)
    have x5 : w1.cell? ⟨w.heap.size + 1, 5, none⟩ = some (.int .i64 0) := X1.out.cell 5 (by decide)
    have x6 : w1.cell? ⟨w.heap.size + 1, 6, none⟩ = some (.int .i64 0) := X1.out.cell 6 (by decide)
    have x7 : w1.cell? ⟨w.heap.size + 1, 7, none⟩ = some (.int .i64 0) := X1.out.cell 7 (by decide)
    have x8 : w1.cell? ⟨w.heap.size + 1, 8, none⟩ = some (.int .i64 0) := X1.out.cell 8 (by decide)
    have x9 : w1.cell? ⟨w.heap.size + 1, 9, none⟩ = some (.slice none 0 0) := X1.out.cell 9 (by decide)
    have x10 : w1.cell? ⟨w.heap.size + 1, 10, none⟩ = some (.slice none 0 0) := X1.out.cell 10 (by decide)
    have x11 : w1.cell? ⟨w.heap.size + 1, 11, none⟩ = some (.int .i64 0) := X1.out.cell 11 (by decide)
    have x12 : w1.cell? ⟨w.heap.size + 1, 12, none⟩ = some (.int .i64 0) := X1.out.cell 12 (by decide)
    have f0 := X1.out.free 0
    have f1 := X1.out.free 1
    have f2 := X1.out.free 2
    have f3 := X1.out.free 3
    have f4 := X1.out.free 4
    have f5 := X1.out.free 5
    have f6 := X1.out.free 6
    have f7 := X1.out.free 7
    have f8 := X1.out.free 8
    have f9 := X1.out.free 9
    have f10 := X1.out.free 10
    have f11 := X1.out.free 11
    have f12 := X1.out.free 12
    have u0 : w1.cell? ⟨w.heap.size + 1 + 1, 0, none⟩ = some (.int .i64 0) := U1.out.at_.c0
    have u1 : w1.cell? ⟨w.heap.size + 1 + 1, 1, none⟩ = some (.int .i64 0) := U1.out.at_.c1
    have u2 : w1.cell? ⟨w.heap.size + 1 + 1, 2, none⟩ = some (.int .i64 0) := U1.out.at_.c2
    have u3 : w1.cell? ⟨w.heap.size + 1 + 1, 3, none⟩ = some (.int .i64 0) := U1.out.at_.c3
    have u4 : w1.cell? ⟨w.heap.size + 1 + 1, 4, none⟩ = some (.int .i64 0) := U1.out.at_.c4
    have u5 : w1.cell? ⟨w.heap.size + 1 + 1, 5, none⟩ = some (.int .i64 0) := U1.out.at_.c5
    have u6 : w1.cell? ⟨w.heap.size + 1 + 1, 6, none⟩ = some (.int .i64 0) := U1.out.at_.c6
    have g0 := U1.out.free 0
    have g1 := U1.out.free 1
    have g2 := U1.out.free 2
    have g3 := U1.out.free 3
    have g4 := U1.out.free 4
    have g5 := U1.out.free 5
    have g6 := U1.out.free 6
    have YF := Lib.hid (((((((((((((X1.out.set (k := 0) (by decide) (.int .i64 0)).set (k := 1) (by decide) (.int .i64 0)).set (k := 2) (by decide) (.int .i64 0)).set (k := 3) (by decide) (.int .i64 0)).set (k := 4) (by decide) (.int .i64 0)).set (k := 5) (by decide) (.int .i64 0)).set (k := 6) (by decide) (.int .i64 0)).set (k := 7) (by decide) (.int .i64 0)).set (k := 8) (by decide) (.int .i64 0)).set (k := 9) (by decide) (.slice none 0 0)).set (k := 10) (by decide) (.slice none 0 0)).set (k := 11) (by decide) (.int .i64 0)).set (k := 12) (by decide) (.int .i64 0))
    have BF0 := Lib.hid (show Below w.heap.size w (((((((((((((w1.setCell ⟨w.heap.size + 1, 0, none⟩ (.int .i64 0)).setCell ⟨w.heap.size + 1, 1, none⟩ (.int .i64 0)).setCell ⟨w.heap.size + 1, 2, none⟩ (.int .i64 0)).setCell ⟨w.heap.size + 1, 3, none⟩ (.int .i64 0)).setCell ⟨w.heap.size + 1, 4, none⟩ (.int .i64 0)).setCell ⟨w.heap.size + 1, 5, none⟩ (.int .i64 0)).setCell ⟨w.heap.size + 1, 6, none⟩ (.int .i64 0)).setCell ⟨w.heap.size + 1, 7, none⟩ (.int .i64 0)).setCell ⟨w.heap.size + 1, 8, none⟩ (.int .i64 0)).setCell ⟨w.heap.size + 1, 9, none⟩ (.slice none 0 0)).setCell ⟨w.heap.size + 1, 10, none⟩ (.slice none 0 0)).setCell ⟨w.heap.size + 1, 11, none⟩ (.int .i64 0)).setCell ⟨w.heap.size + 1, 12, none⟩ (.int .i64 0)) from (((((((((((((B1.out.setCell (p := ⟨w.heap.size + 1, 0, none⟩) (show w.heap.size ≤ w.heap.size + 1 by omega) (.int .i64 0)).setCell (p := ⟨w.heap.size + 1, 1, none⟩) (show w.heap.size ≤ w.heap.size + 1 by omega) (.int .i64 0)).setCell (p := ⟨w.heap.size + 1, 2, none⟩) (show w.heap.size ≤ w.heap.size + 1 by omega) (.int .i64 0)).setCell (p := ⟨w.heap.size + 1, 3, none⟩) (show w.heap.size ≤ w.heap.size + 1 by omega) (.int .i64 0)).setCell (p := ⟨w.heap.size + 1, 4, none⟩) (show w.heap.size ≤ w.heap.size + 1 by omega) (.int .i64 0)).setCell (p := ⟨w.heap.size + 1, 5, none⟩) (show w.heap.size ≤ w.heap.size + 1 by omega) (.int .i64 0)).setCell (p := ⟨w.heap.size + 1, 6, none⟩) (show w.heap.size ≤ w.heap.size + 1 by omega) (.int .i64 0)).setCell (p := ⟨w.heap.size + 1, 7, none⟩) (show w.heap.size ≤ w.heap.size + 1 by omega) (.int .i64 0)).setCell (p := ⟨w.heap.size + 1, 8, none⟩) (show w.heap.size ≤ w.heap.size + 1 by omega) (.int .i64 0)).setCell (p := ⟨w.heap.size + 1, 9, none⟩) (show w.heap.size ≤ w.heap.size + 1 by omega) (.slice none 0 0)).setCell (p := ⟨w.heap.size + 1, 10, none⟩) (show w.heap.size ≤ w.heap.size + 1 by omega) (.slice none 0 0)).setCell (p := ⟨w.heap.size + 1, 11, none⟩) (show w.heap.size ≤ w.heap.size + 1 by omega) (.int .i64 0)).setCell (p := ⟨w.heap.size + 1, 12, none⟩) (show w.heap.size ≤ w.heap.size + 1 by omega) (.int .i64 0)))
    have UF := Lib.hid (U1.out.keep (w' := ((((((((((((w1.setCell ⟨w.heap.size + 1, 0, none⟩ (.int .i64 0)).setCell ⟨w.heap.size + 1, 1, none⟩ (.int .i64 0)).setCell ⟨w.heap.size + 1, 2, none⟩ (.int .i64 0)).setCell ⟨w.heap.size + 1, 3, none⟩ (.int .i64 0)).setCell ⟨w.heap.size + 1, 4, none⟩ (.int .i64 0)).setCell ⟨w.heap.size + 1, 5, none⟩ (.int .i64 0)).setCell ⟨w.heap.size + 1, 6, none⟩ (.int .i64 0)).setCell ⟨w.heap.size + 1, 7, none⟩ (.int .i64 0)).setCell ⟨w.heap.size + 1, 8, none⟩ (.int .i64 0)).setCell ⟨w.heap.size + 1, 9, none⟩ (.slice none 0 0)).setCell ⟨w.heap.size + 1, 10, none⟩ (.slice none 0 0)).setCell ⟨w.heap.size + 1, 11, none⟩ (.int .i64 0)).setCell ⟨w.heap.size + 1, 12, none⟩ (.int .i64 0)) ((((((((((((((Below.heap_setCell _ _ _ _ (show w.heap.size + 1 + 1 ≠ w.heap.size + 1 by omega)).trans (Below.heap_setCell _ _ _ _ (show w.heap.size + 1 + 1 ≠ w.heap.size + 1 by omega))).trans (Below.heap_setCell _ _ _ _ (show w.heap.size + 1 + 1 ≠ w.heap.size + 1 by omega))).trans (Below.heap_setCell _ _ _ _ (show w.heap.size + 1 + 1 ≠ w.heap.size + 1 by omega))).trans (Below.heap_setCell _ _ _ _ (show w.heap.size + 1 + 1 ≠ w.heap.size + 1 by omega))).trans (Below.heap_setCell _ _ _ _ (show w.heap.size + 1 + 1 ≠ w.heap.size + 1 by omega))).trans (Below.heap_setCell _ _ _ _ (show w.heap.size + 1 + 1 ≠ w.heap.size + 1 by omega))).trans (Below.heap_setCell _ _ _ _ (show w.heap.size + 1 + 1 ≠ w.heap.size + 1 by omega))).trans (Below.heap_setCell _ _ _ _ (show w.heap.size + 1 + 1 ≠ w.heap.size + 1 by omega))).trans (Below.heap_setCell _ _ _ _ (show w.heap.size + 1 + 1 ≠ w.heap.size + 1 by omega))).trans (Below.heap_setCell _ _ _ _ (show w.heap.size + 1 + 1 ≠ w.heap.size + 1 by omega))).trans (Below.heap_setCell _ _ _ _ (show w.heap.size + 1 + 1 ≠ w.heap.size + 1 by omega))).trans (Below.heap_setCell _ _ _ _ (show w.heap.size + 1 + 1 ≠ w.heap.size + 1 by omega)))))
    have Y := Lib.hid (YF.out.keep (w' := base.st7 (((((((((((((w1.setCell ⟨w.heap.size + 1, 0, none⟩ (.int .i64 0)).setCell ⟨w.heap.size + 1, 1, none⟩ (.int .i64 0)).setCell ⟨w.heap.size + 1, 2, none⟩ (.int .i64 0)).setCell ⟨w.heap.size + 1, 3, none⟩ (.int .i64 0)).setCell ⟨w.heap.size + 1, 4, none⟩ (.int .i64 0)).setCell ⟨w.heap.size + 1, 5, none⟩ (.int .i64 0)).setCell ⟨w.heap.size + 1, 6, none⟩ (.int .i64 0)).setCell ⟨w.heap.size + 1, 7, none⟩ (.int .i64 0)).setCell ⟨w.heap.size + 1, 8, none⟩ (.int .i64 0)).setCell ⟨w.heap.size + 1, 9, none⟩ (.slice none 0 0)).setCell ⟨w.heap.size + 1, 10, none⟩ (.slice none 0 0)).setCell ⟨w.heap.size + 1, 11, none⟩ (.int .i64 0)).setCell ⟨w.heap.size + 1, 12, none⟩ (.int .i64 0)) (w.heap.size + 1 + 1) zz) (base.st7_other' _ _ _ _ (by omega)) (Nat.le_of_eq (base.st7_size' _ _ _).symm))
    have S := Lib.hid (base.st7_at (W := ((((((((((((w1.setCell ⟨w.heap.size + 1, 0, none⟩ (.int .i64 0)).setCell ⟨w.heap.size + 1, 1, none⟩ (.int .i64 0)).setCell ⟨w.heap.size + 1, 2, none⟩ (.int .i64 0)).setCell ⟨w.heap.size + 1, 3, none⟩ (.int .i64 0)).setCell ⟨w.heap.size + 1, 4, none⟩ (.int .i64 0)).setCell ⟨w.heap.size + 1, 5, none⟩ (.int .i64 0)).setCell ⟨w.heap.size + 1, 6, none⟩ (.int .i64 0)).setCell ⟨w.heap.size + 1, 7, none⟩ (.int .i64 0)).setCell ⟨w.heap.size + 1, 8, none⟩ (.int .i64 0)).setCell ⟨w.heap.size + 1, 9, none⟩ (.slice none 0 0)).setCell ⟨w.heap.size + 1, 10, none⟩ (.slice none 0 0)).setCell ⟨w.heap.size + 1, 11, none⟩ (.int .i64 0)).setCell ⟨w.heap.size + 1, 12, none⟩ (.int .i64 0)) UF.out.at_ zz)
    have BF := Lib.hid (base.st7_below BF0.out (show w.heap.size ≤ w.heap.size + 1 + 1 by omega) zz)
    clear YF BF0 UF
    go_wp2
    change bodyPost _ _ _ _ _ (base.st7 (((((((((((((w1.setCell ⟨w.heap.size + 1, 0, none⟩ (.int .i64 0)).setCell ⟨w.heap.size + 1, 1, none⟩ (.int .i64 0)).setCell ⟨w.heap.size + 1, 2, none⟩ (.int .i64 0)).setCell ⟨w.heap.size + 1, 3, none⟩ (.int .i64 0)).setCell ⟨w.heap.size + 1, 4, none⟩ (.int .i64 0)).setCell ⟨w.heap.size + 1, 5, none⟩ (.int .i64 0)).setCell ⟨w.heap.size + 1, 6, none⟩ (.int .i64 0)).setCell ⟨w.heap.size + 1, 7, none⟩ (.int .i64 0)).setCell ⟨w.heap.size + 1, 8, none⟩ (.int .i64 0)).setCell ⟨w.heap.size + 1, 9, none⟩ (.slice none 0 0)).setCell ⟨w.heap.size + 1, 10, none⟩ (.slice none 0 0)).setCell ⟨w.heap.size + 1, 11, none⟩ (.int .i64 0)).setCell ⟨w.heap.size + 1, 12, none⟩ (.int .i64 0)) (w.heap.size + 1 + 1) zz)
    generalize base.st7 (((((((((((((w1.setCell ⟨w.heap.size + 1, 0, none⟩ (.int .i64 0)).setCell ⟨w.heap.size + 1, 1, none⟩ (.int .i64 0)).setCell ⟨w.heap.size + 1, 2, none⟩ (.int .i64 0)).setCell ⟨w.heap.size + 1, 3, none⟩ (.int .i64 0)).setCell ⟨w.heap.size + 1, 4, none⟩ (.int .i64 0)).setCell ⟨w.heap.size + 1, 5, none⟩ (.int .i64 0)).setCell ⟨w.heap.size + 1, 6, none⟩ (.int .i64 0)).setCell ⟨w.heap.size + 1, 7, none⟩ (.int .i64 0)).setCell ⟨w.heap.size + 1, 8, none⟩ (.int .i64 0)).setCell ⟨w.heap.size + 1, 9, none⟩ (.slice none 0 0)).setCell ⟨w.heap.size + 1, 10, none⟩ (.slice none 0 0)).setCell ⟨w.heap.size + 1, 11, none⟩ (.int .i64 0)).setCell ⟨w.heap.size + 1, 12, none⟩ (.int .i64 0)) (w.heap.size + 1 + 1) zz = W9 at Y BF S ⊢
    have y0 : W9.cell? ⟨w.heap.size + 1, 0, none⟩ = some (.int .i64 0) := Y.out.cell 0 (by decide)
    have y1 : W9.cell? ⟨w.heap.size + 1, 1, none⟩ = some (.int .i64 0) := Y.out.cell 1 (by decide)
    have y2 : W9.cell? ⟨w.heap.size + 1, 2, none⟩ = some (.int .i64 0) := Y.out.cell 2 (by decide)
    have y3 : W9.cell? ⟨w.heap.size + 1, 3, none⟩ = some (.int .i64 0) := Y.out.cell 3 (by decide)
    have y4 : W9.cell? ⟨w.heap.size + 1, 4, none⟩ = some (.int .i64 0) := Y.out.cell 4 (by decide)
    have y5 : W9.cell? ⟨w.heap.size + 1, 5, none⟩ = some (.int .i64 0) := Y.out.cell 5 (by decide)
    have y6 : W9.cell? ⟨w.heap.size + 1, 6, none⟩ = some (.int .i64 0) := Y.out.cell 6 (by decide)
    have y7 : W9.cell? ⟨w.heap.size + 1, 7, none⟩ = some (.int .i64 0) := Y.out.cell 7 (by decide)
    have y8 : W9.cell? ⟨w.heap.size + 1, 8, none⟩ = some (.int .i64 0) := Y.out.cell 8 (by decide)
    have y9 : W9.cell? ⟨w.heap.size + 1, 9, none⟩ = some (.slice none 0 0) := Y.out.cell 9 (by decide)
    have y10 : W9.cell? ⟨w.heap.size + 1, 10, none⟩ = some (.slice none 0 0) := Y.out.cell 10 (by decide)
    have y11 : W9.cell? ⟨w.heap.size + 1, 11, none⟩ = some (.int .i64 0) := Y.out.cell 11 (by decide)
    have y12 : W9.cell? ⟨w.heap.size + 1, 12, none⟩ = some (.int .i64 0) := Y.out.cell 12 (by decide)
    obtain ⟨c0, c1, c2, c3, c4, c5, c6⟩ := S.out
    simp only [zz, Nat.zero_add] at c0 c1 c2 c3 c4 c5 c6
    exact bodyPost_ret (v := .tuple #[.agg #[.int .i64 0, .int .i64 0, .int .i64 0, .int .i64 0, .int .i64 0, .int .i64 0, .int .i64 0, .int .i64 0, .int .i64 0, .slice none 0 0, .slice none 0 0, .int .i64 0, .int .i64 0], .agg #[.int .i64 0, .int .i64 0, .int .i64 0, .int .i64 0, .int .i64 0, .int .i64 0, .int .i64 0], .int .i64 0, .int .i64 1]) (by simp [results, Try.results30, go_sem, y0, y1, y2, y3, y4, y5, y6, y7, y8, y9, y10, y11, y12, c0, c1, c2, c3, c4, c5, c6]) rfl ⟨_, rfl, res_no BF.out⟩
  · rw [hk] at CK
    have c0 := fun W => base.inB m 1 1000000000000 W
    rw [ht] at c0
    go_enter Try.func30, Try.ntmps30
    go_wp2_with fail
    generalize ((w.alloc (.cells #[.int .i64 s.id, .int .i64 s.co, .int .i64 s.me, .int .i64 s.cu, .int .i64 s.da, .int .i64 s.nn, .int .i64 s.ra, .int .i64 s.nu, .int .i64 s.de, .slice (some ⟨gi, 0, none⟩) l.length ci, .slice (some ⟨gp, 0, none⟩) p.length cp, .int .i64 s.op, .int .i64 s.up] 31)).alloc (.cells #[.int .i64 0, .int .i64 0, .int .i64 0, .int .i64 0, .int .i64 0, .int .i64 0, .int .i64 0, .int .i64 0, .int .i64 0, .slice none 0 0, .slice none 0 0, .int .i64 0, .int .i64 0] 31)).alloc (.cells #[.int .i64 0, .int .i64 0, .int .i64 0, .int .i64 0, .int .i64 0, .int .i64 0, .int .i64 0] 37) = W2 at B0 O0 X0 U0 z0 CK ⊢
    refine CK.mono ?_
    rintro e w1 ⟨rfl, b1⟩
    have B1 := Lib.hid (B0.out.trans (b1.mono B0.out.size))
    have O1 := Lib.hid (O0.out.keep (b1.block w.heap.size (by omega)))
    have X1 := Lib.hid (X0.out.below b1 X0.out.lt)
    have U1 := Lib.hid (U0.out.keep (b1.block (w.heap.size + 1 + 1) (by omega)))
    have z1 := b1.size
    clear b1 O0 X0 U0 B0
    go_wp2_with fail
    refine (c0 _).mono ?_
    rintro e w' ⟨rfl, rfl⟩
    have x0 : w1.cell? ⟨w.heap.size + 1, 0, none⟩ = some (.int .i64 0) := X1.out.cell 0 (by decide)
    have x1 : w1.cell? ⟨w.heap.size + 1, 1, none⟩ = some (.int .i64 0) := X1.out.cell 1 (by decide)
    have x2 : w1.cell? ⟨w.heap.size + 1, 2, none⟩ = some (.int .i64 0) := X1.out.cell 2 (by decide)
    have x3 : w1.cell? ⟨w.heap.size + 1, 3, none⟩ = some (.int .i64 0) := X1.out.cell 3 (by decide)
    have x4 : w1.cell? ⟨w.heap.size + 1, 4, none⟩ = some (.int .i64 0) := X1.out.cell 4 (by decide)
    have x5 : w1.cell? ⟨w.heap.size + 1, 5, none⟩ = some (.int .i64 0) := X1.out.cell 5 (by decide)
    have x6 : w1.cell? ⟨w.heap.size + 1, 6, none⟩ = some (.int .i64 0) := X1.out.cell 6 (by decide)
    have x7 : w1.cell? ⟨w.heap.size + 1, 7, none⟩ = some (.int .i64 0) := X1.out.cell 7 (by decide)
    have x8 : w1.cell? ⟨w.heap.size + 1, 8, none⟩ = some (.int .i64 0) := X1.out.cell 8 (by decide)
    have x9 : w1.cell? ⟨w.heap.size + 1, 9, none⟩ = some (.slice none 0 0) := X1.out.cell 9 (by decide)
    have x10 : w1.cell? ⟨w.heap.size + 1, 10, none⟩ = some (.slice none 0 0) := X1.out.cell 10 (by decide)
    have x11 : w1.cell? ⟨w.heap.size + 1, 11, none⟩ = some (.int .i64 0) := X1.out.cell 11 (by decide)
    have x12 : w1.cell? ⟨w.heap.size + 1, 12, none⟩ = some (.int .i64 0) := X1.out.cell 12 (by decide)
    have f0 := X1.out.free 0
    have f1 := X1.out.free 1
    have f2 := X1.out.free 2
    have f3 := X1.out.free 3
    have f4 := X1.out.free 4
    have f5 := X1.out.free 5
    have f6 := X1.out.free 6
    have f7 := X1.out.free 7
    have f8 := X1.out.free 8
    have f9 := X1.out.free 9
    have f10 := X1.out.free 10
    have f11 := X1.out.free 11
    have f12 := X1.out.free 12
    have u0 : w1.cell? ⟨w.heap.size + 1 + 1, 0, none⟩ = some (.int .i64 0) := U1.out.at_.c0
    have u1 : w1.cell? ⟨w.heap.size + 1 + 1, 1, none⟩ = some (.int .i64 0) := U1.out.at_.c1
    have u2 : w1.cell? ⟨w.heap.size + 1 + 1, 2, none⟩ = some (.int .i64 0) := U1.out.at_.c2
    have u3 : w1.cell? ⟨w.heap.size + 1 + 1, 3, none⟩ = some (.int .i64 0) := U1.out.at_.c3
    have u4 : w1.cell? ⟨w.heap.size + 1 + 1, 4, none⟩ = some (.int .i64 0) := U1.out.at_.c4
    have u5 : w1.cell? ⟨w.heap.size + 1 + 1, 5, none⟩ = some (.int .i64 0) := U1.out.at_.c5
    have u6 : w1.cell? ⟨w.heap.size + 1 + 1, 6, none⟩ = some (.int .i64 0) := U1.out.at_.c6
    have g0 := U1.out.free 0
    have g1 := U1.out.free 1
    have g2 := U1.out.free 2
    have g3 := U1.out.free 3
    have g4 := U1.out.free 4
    have g5 := U1.out.free 5
    have g6 := U1.out.free 6
    have YF := Lib.hid (((((((((((((X1.out.set (k := 0) (by decide) (.int .i64 0)).set (k := 1) (by decide) (.int .i64 0)).set (k := 2) (by decide) (.int .i64 0)).set (k := 3) (by decide) (.int .i64 0)).set (k := 4) (by decide) (.int .i64 0)).set (k := 5) (by decide) (.int .i64 0)).set (k := 6) (by decide) (.int .i64 0)).set (k := 7) (by decide) (.int .i64 0)).set (k := 8) (by decide) (.int .i64 0)).set (k := 9) (by decide) (.slice none 0 0)).set (k := 10) (by decide) (.slice none 0 0)).set (k := 11) (by decide) (.int .i64 0)).set (k := 12) (by decide) (.int .i64 0))
    have BF0 := Lib.hid (show Below w.heap.size w (((((((((((((w1.setCell ⟨w.heap.size + 1, 0, none⟩ (.int .i64 0)).setCell ⟨w.heap.size + 1, 1, none⟩ (.int .i64 0)).setCell ⟨w.heap.size + 1, 2, none⟩ (.int .i64 0)).setCell ⟨w.heap.size + 1, 3, none⟩ (.int .i64 0)).setCell ⟨w.heap.size + 1, 4, none⟩ (.int .i64 0)).setCell ⟨w.heap.size + 1, 5, none⟩ (.int .i64 0)).setCell ⟨w.heap.size + 1, 6, none⟩ (.int .i64 0)).setCell ⟨w.heap.size + 1, 7, none⟩ (.int .i64 0)).setCell ⟨w.heap.size + 1, 8, none⟩ (.int .i64 0)).setCell ⟨w.heap.size + 1, 9, none⟩ (.slice none 0 0)).setCell ⟨w.heap.size + 1, 10, none⟩ (.slice none 0 0)).setCell ⟨w.heap.size + 1, 11, none⟩ (.int .i64 0)).setCell ⟨w.heap.size + 1, 12, none⟩ (.int .i64 0)) from (((((((((((((B1.out.setCell (p := ⟨w.heap.size + 1, 0, none⟩) (show w.heap.size ≤ w.heap.size + 1 by omega) (.int .i64 0)).setCell (p := ⟨w.heap.size + 1, 1, none⟩) (show w.heap.size ≤ w.heap.size + 1 by omega) (.int .i64 0)).setCell (p := ⟨w.heap.size + 1, 2, none⟩) (show w.heap.size ≤ w.heap.size + 1 by omega) (.int .i64 0)).setCell (p := ⟨w.heap.size + 1, 3, none⟩) (show w.heap.size ≤ w.heap.size + 1 by omega) (.int .i64 0)).setCell (p := ⟨w.heap.size + 1, 4, none⟩) (show w.heap.size ≤ w.heap.size + 1 by omega) (.int .i64 0)).setCell (p := ⟨w.heap.size + 1, 5, none⟩) (show w.heap.size ≤ w.heap.size + 1 by omega) (.int .i64 0)).setCell (p := ⟨w.heap.size + 1, 6, none⟩) (show w.heap.size ≤ w.heap.size + 1 by omega) (.int .i64 0)).setCell (p := ⟨w.heap.size + 1, 7, none⟩) (show w.heap.size ≤ w.heap.size + 1 by omega) (.int .i64 0)).setCell (p := ⟨w.heap.size + 1, 8, none⟩) (show w.heap.size ≤ w.heap.size + 1 by omega) (.int .i64 0)).setCell (p := ⟨w.heap.size + 1, 9, none⟩) (show w.heap.size ≤ w.heap.size + 1 by omega) (.slice none 0 0)).setCell (p := ⟨w.heap.size + 1, 10, none⟩) (show w.heap.size ≤ w.heap.size + 1 by omega) (.slice none 0 0)).setCell (p := ⟨w.heap.size + 1, 11, none⟩) (show w.heap.size ≤ w.heap.size + 1 by omega) (.int .i64 0)).setCell (p := ⟨w.heap.size + 1, 12, none⟩) (show w.heap.size ≤ w.heap.size + 1 by omega) (.int .i64 0)))
    have UF := Lib.hid (U1.out.keep (w' := ((((((((((((w1.setCell ⟨w.heap.size + 1, 0, none⟩ (.int .i64 0)).setCell ⟨w.heap.size + 1, 1, none⟩ (.int .i64 0)).setCell ⟨w.heap.size + 1, 2, none⟩ (.int .i64 0)).setCell ⟨w.heap.size + 1, 3, none⟩ (.int .i64 0)).setCell ⟨w.heap.size + 1, 4, none⟩ (.int .i64 0)).setCell ⟨w.heap.size + 1, 5, none⟩ (.int .i64 0)).setCell ⟨w.heap.size + 1, 6, none⟩ (.int .i64 0)).setCell ⟨w.heap.size + 1, 7, none⟩ (.int .i64 0)).setCell ⟨w.heap.size + 1, 8, none⟩ (.int .i64 0)).setCell ⟨w.heap.size + 1, 9, none⟩ (.slice none 0 0)).setCell ⟨w.heap.size + 1, 10, none⟩ (.slice none 0 0)).setCell ⟨w.heap.size + 1, 11, none⟩ (.int .i64 0)).setCell ⟨w.heap.size + 1, 12, none⟩ (.int .i64 0)) ((((((((((((((Below.heap_setCell _ _ _ _ (show w.heap.size + 1 + 1 ≠ w.heap.size + 1 by omega)).trans (Below.heap_setCell _ _ _ _ (show w.heap.size + 1 + 1 ≠ w.heap.size + 1 by omega))).trans (Below.heap_setCell _ _ _ _ (show w.heap.size + 1 + 1 ≠ w.heap.size + 1 by omega))).trans (Below.heap_setCell _ _ _ _ (show w.heap.size + 1 + 1 ≠ w.heap.size + 1 by omega))).trans (Below.heap_setCell _ _ _ _ (show w.heap.size + 1 + 1 ≠ w.heap.size + 1 by omega))).trans (Below.heap_setCell _ _ _ _ (show w.heap.size + 1 + 1 ≠ w.heap.size + 1 by omega))).trans (Below.heap_setCell _ _ _ _ (show w.heap.size + 1 + 1 ≠ w.heap.size + 1 by omega))).trans (Below.heap_setCell _ _ _ _ (show w.heap.size + 1 + 1 ≠ w.heap.size + 1 by omega))).trans (Below.heap_setCell _ _ _ _ (show w.heap.size + 1 + 1 ≠ w.heap.size + 1 by omega))).trans (Below.heap_setCell _ _ _ _ (show w.heap.size + 1 + 1 ≠ w.heap.size + 1 by omega))).trans (Below.heap_setCell _ _ _ _ (show w.heap.size + 1 + 1 ≠ w.heap.size + 1 by omega))).trans (Below.heap_setCell _ _ _ _ (show w.heap.size + 1 + 1 ≠ w.heap.size + 1 by omega))).trans (Below.heap_setCell _ _ _ _ (show w.heap.size + 1 + 1 ≠ w.heap.size + 1 by omega)))))
    have Y := Lib.hid (YF.out.keep (w' := base.st7 (((((((((((((w1.setCell ⟨w.heap.size + 1, 0, none⟩ (.int .i64 0)).setCell ⟨w.heap.size + 1, 1, none⟩ (.int .i64 0)).setCell ⟨w.heap.size + 1, 2, none⟩ (.int .i64 0)).setCell ⟨w.heap.size + 1, 3, none⟩ (.int .i64 0)).setCell ⟨w.heap.size + 1, 4, none⟩ (.int .i64 0)).setCell ⟨w.heap.size + 1, 5, none⟩ (.int .i64 0)).setCell ⟨w.heap.size + 1, 6, none⟩ (.int .i64 0)).setCell ⟨w.heap.size + 1, 7, none⟩ (.int .i64 0)).setCell ⟨w.heap.size + 1, 8, none⟩ (.int .i64 0)).setCell ⟨w.heap.size + 1, 9, none⟩ (.slice none 0 0)).setCell ⟨w.heap.size + 1, 10, none⟩ (.slice none 0 0)).setCell ⟨w.heap.size + 1, 11, none⟩ (.int .i64 0)).setCell ⟨w.heap.size + 1, 12, none⟩ (.int .i64 0)) (w.heap.size + 1 + 1) zz) (base.st7_other' _ _ _ _ (by omega)) (Nat.le_of_eq (base.st7_size' _ _ _).symm))
    have S := Lib.hid (base.st7_at (W := ((((((((((((w1.setCell ⟨w.heap.size + 1, 0, none⟩ (.int .i64 0)).setCell ⟨w.heap.size + 1, 1, none⟩ (.int .i64 0)).setCell ⟨w.heap.size + 1, 2, none⟩ (.int .i64 0)).setCell ⟨w.heap.size + 1, 3, none⟩ (.int .i64 0)).setCell ⟨w.heap.size + 1, 4, none⟩ (.int .i64 0)).setCell ⟨w.heap.size + 1, 5, none⟩ (.int .i64 0)).setCell ⟨w.heap.size + 1, 6, none⟩ (.int .i64 0)).setCell ⟨w.heap.size + 1, 7, none⟩ (.int .i64 0)).setCell ⟨w.heap.size + 1, 8, none⟩ (.int .i64 0)).setCell ⟨w.heap.size + 1, 9, none⟩ (.slice none 0 0)).setCell ⟨w.heap.size + 1, 10, none⟩ (.slice none 0 0)).setCell ⟨w.heap.size + 1, 11, none⟩ (.int .i64 0)).setCell ⟨w.heap.size + 1, 12, none⟩ (.int .i64 0)) UF.out.at_ zz)
    have BF := Lib.hid (base.st7_below BF0.out (show w.heap.size ≤ w.heap.size + 1 + 1 by omega) zz)
    clear YF BF0 UF
    go_wp2
    change bodyPost _ _ _ _ _ (base.st7 (((((((((((((w1.setCell ⟨w.heap.size + 1, 0, none⟩ (.int .i64 0)).setCell ⟨w.heap.size + 1, 1, none⟩ (.int .i64 0)).setCell ⟨w.heap.size + 1, 2, none⟩ (.int .i64 0)).setCell ⟨w.heap.size + 1, 3, none⟩ (.int .i64 0)).setCell ⟨w.heap.size + 1, 4, none⟩ (.int .i64 0)).setCell ⟨w.heap.size + 1, 5, none⟩ (.int .i64 0)).setCell ⟨w.heap.size + 1, 6, none⟩ (.int .i64 0)).setCell ⟨w.heap.size + 1, 7, none⟩ (.int .i64 0)).setCell ⟨w.heap.size + 1, 8, none⟩ (.int .i64 0)).setCell ⟨w.heap.size + 1, 9, none⟩ (.slice none 0 0)).setCell ⟨w.heap.size + 1, 10, none⟩ (.slice none 0 0)).setCell ⟨w.heap.size + 1, 11, none⟩ (.int .i64 0)).setCell ⟨w.heap.size + 1, 12, none⟩ (.int .i64 0)) (w.heap.size + 1 + 1) zz)
    generalize base.st7 (((((((((((((w1.setCell ⟨w.heap.size + 1, 0, none⟩ (.int .i64 0)).setCell ⟨w.heap.size + 1, 1, none⟩ (.int .i64 0)).setCell ⟨w.heap.size + 1, 2, none⟩ (.int .i64 0)).setCell ⟨w.heap.size + 1, 3, none⟩ (.int .i64 0)).setCell ⟨w.heap.size + 1, 4, none⟩ (.int .i64 0)).setCell ⟨w.heap.size + 1, 5, none⟩ (.int .i64 0)).setCell ⟨w.heap.size + 1, 6, none⟩ (.int .i64 0)).setCell ⟨w.heap.size + 1, 7, none⟩ (.int .i64 0)).setCell ⟨w.heap.size + 1, 8, none⟩ (.int .i64 0)).setCell ⟨w.heap.size + 1, 9, none⟩ (.slice none 0 0)).setCell ⟨w.heap.size + 1, 10, none⟩ (.slice none 0 0)).setCell ⟨w.heap.size + 1, 11, none⟩ (.int .i64 0)).setCell ⟨w.heap.size + 1, 12, none⟩ (.int .i64 0)) (w.heap.size + 1 + 1) zz = W9 at Y BF S ⊢
    have y0 : W9.cell? ⟨w.heap.size + 1, 0, none⟩ = some (.int .i64 0) := Y.out.cell 0 (by decide)
    have y1 : W9.cell? ⟨w.heap.size + 1, 1, none⟩ = some (.int .i64 0) := Y.out.cell 1 (by decide)
    have y2 : W9.cell? ⟨w.heap.size + 1, 2, none⟩ = some (.int .i64 0) := Y.out.cell 2 (by decide)
    have y3 : W9.cell? ⟨w.heap.size + 1, 3, none⟩ = some (.int .i64 0) := Y.out.cell 3 (by decide)
    have y4 : W9.cell? ⟨w.heap.size + 1, 4, none⟩ = some (.int .i64 0) := Y.out.cell 4 (by decide)
    have y5 : W9.cell? ⟨w.heap.size + 1, 5, none⟩ = some (.int .i64 0) := Y.out.cell 5 (by decide)
    have y6 : W9.cell? ⟨w.heap.size + 1, 6, none⟩ = some (.int .i64 0) := Y.out.cell 6 (by decide)
    have y7 : W9.cell? ⟨w.heap.size + 1, 7, none⟩ = some (.int .i64 0) := Y.out.cell 7 (by decide)
    have y8 : W9.cell? ⟨w.heap.size + 1, 8, none⟩ = some (.int .i64 0) := Y.out.cell 8 (by decide)
    have y9 : W9.cell? ⟨w.heap.size + 1, 9, none⟩ = some (.slice none 0 0) := Y.out.cell 9 (by decide)
    have y10 : W9.cell? ⟨w.heap.size + 1, 10, none⟩ = some (.slice none 0 0) := Y.out.cell 10 (by decide)
    have y11 : W9.cell? ⟨w.heap.size + 1, 11, none⟩ = some (.int .i64 0) := Y.out.cell 11 (by decide)
    have y12 : W9.cell? ⟨w.heap.size + 1, 12, none⟩ = some (.int .i64 0) := Y.out.cell 12 (by decide)
    obtain ⟨c0, c1, c2, c3, c4, c5, c6⟩ := S.out
    simp only [zz, Nat.zero_add] at c0 c1 c2 c3 c4 c5 c6
    exact bodyPost_ret (v := .tuple #[.agg #[.int .i64 0, .int .i64 0, .int .i64 0, .int .i64 0, .int .i64 0, .int .i64 0, .int .i64 0, .int .i64 0, .int .i64 0, .slice none 0 0, .slice none 0 0, .int .i64 0, .int .i64 0], .agg #[.int .i64 0, .int .i64 0, .int .i64 0, .int .i64 0, .int .i64 0, .int .i64 0, .int .i64 0], .int .i64 0, .int .i64 5]) (by simp [results, Try.results30, go_sem, y0, y1, y2, y3, y4, y5, y6, y7, y8, y9, y10, y11, y12, c0, c1, c2, c3, c4, c5, c6]) rfl ⟨_, rfl, res_no BF.out⟩
  · have OKV := ord.ok_iff.1 hk
    rw [hk] at CK
    obtain ⟨m1, m2⟩ := pl.inR_iff.1 ht
    have c0 := fun W => base.inB m 1 1000000000000 W
    rw [ht] at c0
    have PVh := Lib.hid OKV.pv
    have HSh := Lib.hid hS
    have p8 := OKV.p1
    clear OKV hk ht hS
    go_enter Try.func30, Try.ntmps30
    go_wp2_with fail
    generalize ((w.alloc (.cells #[.int .i64 s.id, .int .i64 s.co, .int .i64 s.me, .int .i64 s.cu, .int .i64 s.da, .int .i64 s.nn, .int .i64 s.ra, .int .i64 s.nu, .int .i64 s.de, .slice (some ⟨gi, 0, none⟩) l.length ci, .slice (some ⟨gp, 0, none⟩) p.length cp, .int .i64 s.op, .int .i64 s.up] 31)).alloc (.cells #[.int .i64 0, .int .i64 0, .int .i64 0, .int .i64 0, .int .i64 0, .int .i64 0, .int .i64 0, .int .i64 0, .int .i64 0, .slice none 0 0, .slice none 0 0, .int .i64 0, .int .i64 0] 31)).alloc (.cells #[.int .i64 0, .int .i64 0, .int .i64 0, .int .i64 0, .int .i64 0, .int .i64 0, .int .i64 0] 37) = W2 at B0 O0 X0 U0 z0 CK ⊢
    refine CK.mono ?_
    rintro e w1 ⟨rfl, b1⟩
    have B1 := Lib.hid (B0.out.trans (b1.mono B0.out.size))
    have O1 := Lib.hid (O0.out.keep (b1.block w.heap.size (by omega)))
    have X1 := Lib.hid (X0.out.below b1 X0.out.lt)
    have U1 := Lib.hid (U0.out.keep (b1.block (w.heap.size + 1 + 1) (by omega)))
    have z1 := b1.size
    clear b1 O0 X0 U0 B0
    go_wp2_with fail
    refine (c0 _).mono ?_
    rintro e w' ⟨rfl, rfl⟩
    have CC := copS w1 B s ci gi l cp gp p gs cs (L.out.below B1.out) hl hn HM.out
    obtain ⟨a0, a1, a2, a3, a4, a5, a6, a7, a8, a9, a10, a11, a12⟩ := O1.out
    go_wp2_with fail
    refine CC.mono ?_
    clear a0 a1 a2 a3 a4 a5 a6 a7 a8 a9 a10 a11 a12
    rintro e w2 ⟨v, rfl, ci', gi', cp', gp', gs', cs', rfl, ol, a1, a2, a3, a4, ne, b2⟩
    have B2 := Lib.hid ((B1.out.trans (b2.mono B1.out.size)).alloc (B1.out.trans (b2.mono B1.out.size)).size (.cells #[.int .i64 s.id, .int .i64 s.co, .int .i64 s.me, .int .i64 s.cu, .int .i64 s.da, .int .i64 s.nn, .int .i64 s.ra, .int .i64 s.nu, .int .i64 s.de, .slice (some ⟨gi', 0, none⟩) l.length ci', .slice (some ⟨gp', 0, none⟩) p.length cp', .int .i64 s.op, .int .i64 s.up] 31))
    have al := fun c hc => Below.heap_alloc w2 (.cells #[.int .i64 s.id, .int .i64 s.co, .int .i64 s.me, .int .i64 s.cu, .int .i64 s.da, .int .i64 s.nn, .int .i64 s.ra, .int .i64 s.nu, .int .i64 s.de, .slice (some ⟨gi', 0, none⟩) l.length ci', .slice (some ⟨gp', 0, none⟩) p.length cp', .int .i64 s.op, .int .i64 s.up] 31) c hc
    have N2 := Lib.hid (Blk.new w2 #[.int .i64 s.id, .int .i64 s.co, .int .i64 s.me, .int .i64 s.cu, .int .i64 s.da, .int .i64 s.nn, .int .i64 s.ra, .int .i64 s.nu, .int .i64 s.de, .slice (some ⟨gi', 0, none⟩) l.length ci', .slice (some ⟨gp', 0, none⟩) p.length cp', .int .i64 s.op, .int .i64 s.up] 31 13 rfl)
    have NO2 := Lib.hid (OB.new w2 s (some ⟨gi', 0, none⟩) l.length ci' (some ⟨gp', 0, none⟩) p.length cp' 31)
    have L2 := Lib.hid (ol.below ((Below.refl w2.heap.size w2).alloc (Nat.le_refl _) (.cells #[.int .i64 s.id, .int .i64 s.co, .int .i64 s.me, .int .i64 s.cu, .int .i64 s.da, .int .i64 s.nn, .int .i64 s.ra, .int .i64 s.nu, .int .i64 s.de, .slice (some ⟨gi', 0, none⟩) l.length ci', .slice (some ⟨gp', 0, none⟩) p.length cp', .int .i64 s.op, .int .i64 s.up] 31)))
    have X2 := Lib.hid ((X1.out.below b2 X1.out.lt).keep (w' := w2.alloc (.cells #[.int .i64 s.id, .int .i64 s.co, .int .i64 s.me, .int .i64 s.cu, .int .i64 s.da, .int .i64 s.nn, .int .i64 s.ra, .int .i64 s.nu, .int .i64 s.de, .slice (some ⟨gi', 0, none⟩) l.length ci', .slice (some ⟨gp', 0, none⟩) p.length cp', .int .i64 s.op, .int .i64 s.up] 31)) (al _ (X1.out.below b2 X1.out.lt).lt) (by simp))
    have U2 := Lib.hid ((U1.out.keep (b2.block (w.heap.size + 1 + 1) (by omega))).keep (w' := w2.alloc (.cells #[.int .i64 s.id, .int .i64 s.co, .int .i64 s.me, .int .i64 s.cu, .int .i64 s.da, .int .i64 s.nn, .int .i64 s.ra, .int .i64 s.nu, .int .i64 s.de, .slice (some ⟨gi', 0, none⟩) l.length ci', .slice (some ⟨gp', 0, none⟩) p.length cp', .int .i64 s.op, .int .i64 s.up] 31)) (al _ (by have := b2.size; omega)))
    have z2 := b2.size
    have z2' : (w2.alloc (.cells #[.int .i64 s.id, .int .i64 s.co, .int .i64 s.me, .int .i64 s.cu, .int .i64 s.da, .int .i64 s.nn, .int .i64 s.ra, .int .i64 s.nu, .int .i64 s.de, .slice (some ⟨gi', 0, none⟩) l.length ci', .slice (some ⟨gp', 0, none⟩) p.length cp', .int .i64 s.op, .int .i64 s.up] 31)).heap.size = w2.heap.size + 1 := by simp only [sz_al]
    have DD := Lib.hid (show w.heap.size + 1 + 1 + 1 ≤ w1.heap.size ∧ w1.heap.size ≤ gi' ∧ gi' < w2.heap.size ∧ w1.heap.size ≤ gp' ∧ gp' < w2.heap.size ∧ gi' ≠ gp' from ⟨by omega, a1, a2, a3, a4, ne⟩)
    clear b2 al ol a1 a2 a3 a4 ne CC O1 X1 B1 U1
    have mr := L2.out.plans.room
    obtain ⟨n, hnz⟩ : ∃ n, n = p.length := ⟨_, rfl⟩
    go_wp2_with fail
    obtain ⟨nb, hnb⟩ : ∃ nb, nb = w2.heap.size := ⟨_, rfl⟩
    have HNB := Lib.hid hnb
    rw [← hnb] at N2 NO2 z2' ⊢
    generalize w2.alloc (.cells #[.int .i64 s.id, .int .i64 s.co, .int .i64 s.me, .int .i64 s.cu, .int .i64 s.da, .int .i64 s.nn, .int .i64 s.ra, .int .i64 s.nu, .int .i64 s.de, .slice (some ⟨gi', 0, none⟩) l.length ci', .slice (some ⟨gp', 0, none⟩) p.length cp', .int .i64 s.op, .int .i64 s.up] 31) = W3 at B2 N2 NO2 L2 X2 U2 z2' ⊢
    clear hnb
    have HNZ := Lib.hid hnz
    rw [← hnz] at mr p8
    clear hnz
    have hgp : gp' < W3.heap.size := by have := DD.out; have := HNB.out; omega
    have hne : nb ≠ gp' := by have := DD.out; have := HNB.out; omega
    have bl : nb < W3.heap.size := by omega
    obtain ⟨pb, hpb⟩ : ∃ pb, pb = W3.heap.size := ⟨_, rfl⟩
    have AL := Lib.hid (show ∀ c, c < pb → (W3.alloc (.cells #[.int .i64 0, .int .i64 0, .int .i64 0, .int .i64 0, .int .i64 0, .int .i64 0, .int .i64 0] 37)).heap[c]? = W3.heap[c]? from fun c hc => Below.heap_alloc W3 _ c (by rw [← hpb]; exact hc))
    have z3 : (W3.alloc (.cells #[.int .i64 0, .int .i64 0, .int .i64 0, .int .i64 0, .int .i64 0, .int .i64 0, .int .i64 0] 37)).heap.size = pb + 1 := by simp only [sz_al, hpb]
    have V3 := base.Bx.zero W3
    rw [← hpb] at V3
    have V3 := Lib.hid V3
    have B3 := Lib.hid ((Below.refl W3.heap.size W3).alloc (Nat.le_refl _) (.cells #[.int .i64 0, .int .i64 0, .int .i64 0, .int .i64 0, .int .i64 0, .int .i64 0, .int .i64 0] 37))
    have P3 := Lib.hid (L2.out.plans.below B3.out)
    have T3 := Lib.hid (pls.Turned.of (base.Turned.refl gp' W3) B3.out (Nat.le_of_lt hgp))
    have HPB := Lib.hid hpb
    rw [← hpb] at hgp bl
    rw [show nb + 1 = pb by omega]
    clear hpb
    generalize W3.alloc (.cells #[.int .i64 0, .int .i64 0, .int .i64 0, .int .i64 0, .int .i64 0, .int .i64 0, .int .i64 0] 37) = W4 at AL z3 V3 B3 P3 T3 ⊢
    have y10 := (NO2.out.keep (AL.out nb bl)).c10
    rw [← HNZ.out] at y10
    go_loopw [1, 10] (fun a i wr => ∃ (k : Nat) (gs3 cs3 : Nat → Nat), k ≤ n ∧ i = .int .i64 k ∧ a = .int .i64 (wk.fs stP (m, 0, 0, 0) p k).1 ∧ Pls wr (some ⟨gp', 0, none⟩) cp' gp' (wk.fw stP (m, 0, 0, 0) p k) gs3 cs3 ∧ base.Turned gp' W3 wr ∧ pb + 1 ≤ wr.heap.size ∧ base.Bx wr pb (0, 0, 0, 0, (wk.fs stP (m, 0, 0, 0) p k).2.2.2, (wk.fs stP (m, 0, 0, 0) p k).2.2.1, (wk.fs stP (m, 0, 0, 0) p k).2.1) ∧ ∀ j, j < n → (j < k → pb + 1 ≤ gs3 j) ∧ (k ≤ j → gs3 j = gs' j)) (fun _ i _ => n - (intOf i).toNat)
    case atStart => exact ⟨0, gs', cs', by omega, rfl, by rw [wk.fs_zero], by rw [wk.fw_zero]; exact P3.out, T3.out, by omega, by rw [wk.fs_zero]; exact V3.out, fun j _ => ⟨fun h => by omega, fun _ => rfl⟩⟩
    case round =>
      obtain ⟨k, gs3, cs3, hk, rfl, rfl, hP, hT, hz, hX0, hG⟩ := hrel
      have PP := Lib.hid hP
      have TT := Lib.hid hT
      have GG := Lib.hid hG
      have Y0 := Lib.hid hX0
      have PS := pa_fs (n := m) (by omega) (by omega) PVh.out (p := p) k (by rw [← HNZ.out]; exact hk)
      obtain ⟨S, hS⟩ : ∃ S, S = wk.fs stP (m, 0, 0, 0) p k := ⟨_, rfl⟩
      rw [← hS] at PS Y0 ⊢
      have HS := Lib.hid hS
      obtain ⟨SL, SF, SI, SP⟩ := S
      dsimp only at PS Y0 ⊢
      obtain ⟨e0, e1, e2, e3, e4⟩ := PS
      dsimp only at e0 e1 e2 e3 e4
      have y10 : wr.cell? ⟨nb, 10, none⟩ = some (.slice (some ⟨gp', 0, none⟩) n cp') := by rw [HNZ.out]; exact (NO2.out.keep (hT.2 nb hne (by rw [← HPB.out]; exact bl))).c10
      clear hS hX0
      by_cases hlt : k < n
      · have HLT := Lib.hid (show k < p.length from by rw [← HNZ.out]; exact hlt)
        have FL := Lib.hid (show k < (wk.fw stP (m, 0, 0, 0) p k).length from by rw [wk.fw_len]; exact HLT.out)
        have NK : nth (wk.fw stP (m, 0, 0, 0) p k) k = nth p k := wk.fw_get [] _ _ HLT.out
        have q1 := hP.cells k FL.out
        have q2 := hP.rows k FL.out
        rw [NK] at q1 q2
        obtain ⟨OK, PT⟩ := py_in (n := SL) (show pl.pv (nth p k) = true from PVh.out k HLT.out) e0 (by omega)
        have FS : wk.fs stP (m, 0, 0, 0) p (k + 1) = ((base.pyS (nth p k) SL).1, SF + (base.pyS (nth p k) SL).2.1, SI + (base.pyS (nth p k) SL).2.2.1, SP + (base.pyS (nth p k) SL).2.2.2) := by rw [wk.fs_succ [] _ _ HLT.out, ← HS.out]; rfl
        have FW : wk.fw stP (m, 0, 0, 0) p (k + 1) = (wk.fw stP (m, 0, 0, 0) p k).set k (base.pyL (nth p k) SL) := by rw [wk.fw_succ [] _ _ HLT.out, ← HS.out]; rfl
        have C := base.ppS SL wr (cs3 k) (gs3 k) (nth p k) q2 (Nat.le_trans (show (nth p k).length ≤ 24 from (pl.pv_iff.1 (PVh.out k HLT.out)).1) (by omega))
        obtain ⟨P, hP'⟩ : ∃ P, P = base.pyL (nth p k) SL := ⟨_, rfl⟩
        obtain ⟨t, ht⟩ : ∃ t, t = base.pyS (nth p k) SL := ⟨_, rfl⟩
        rw [← hP'] at C FW
        rw [← ht] at C FS PT
        rw [OK] at C
        obtain ⟨t1, t2, t3, t4⟩ := t
        unfold base.Out3 at C
        dsimp only at C FS
        obtain ⟨f0, f1, f2, f3, f4⟩ := PT
        dsimp only at f0 f1 f2 f3 f4
        have FSh := Lib.hid FS
        have FWh := Lib.hid FW
        have CH := Lib.hid C
        clear FS FW C hP' ht OK NK q2 hP hT hG
        generalize (nth p k).length = ln at q1 CH
        generalize gs3 k = gk at q1 CH
        generalize cs3 k = ck at q1 CH
        have z1' : (k : Int) < (n : Int) := by omega
        have v1 : decide (k < n) = true := by simp; omega
        go_wp2_with fail
        refine CH.out.mono ?_
        rintro e w5 ⟨a1, c1, g1, rfl, r1, -, b1, o1⟩
        obtain ⟨rfl, l1, k1⟩ := o1 (by trivial)
        have zz1 := b1.size
        have BA := Lib.hid ((Below.refl w5.heap.size w5).alloc (Nat.le_refl _) (.cells #[.int .i64 0, .int .i64 0, .int .i64 0, .int .i64 0, .int .i64 t4, .int .i64 t3, .int .i64 t2] 37))
        have P1 := Lib.hid ((PP.out.below b1).below BA.out)
        have R1 := Lib.hid (r1.keep fun _ => BA.out.block g1 k1)
        have tw := TT.out.1.size
        have T1 := Lib.hid (pls.Turned.of (pls.Turned.of TT.out b1 (by omega)) BA.out (by omega))
        have xx1 := P1.out.cells k FL.out
        have ff1 := P1.out.free (by have := FL.out; omega) k
        have L1 := Lib.hid (show wr.heap.size ≤ g1 ∧ g1 < w5.heap.size from ⟨l1, k1⟩)
        have U0 := Lib.hid ((Y0.out.keep (b1.block pb (by omega))).keep (BA.out.block pb (by omega)))
        have UB := Lib.hid (show base.Bx (w5.alloc (.cells #[.int .i64 0, .int .i64 0, .int .i64 0, .int .i64 0, .int .i64 t4, .int .i64 t3, .int .i64 t2] 37)) w5.heap.size (0, 0, 0, 0, t4, t3, t2) from base.Bx.new w5 (0, 0, 0, 0, t4, t3, t2))
        have z6 : (w5.alloc (.cells #[.int .i64 0, .int .i64 0, .int .i64 0, .int .i64 0, .int .i64 t4, .int .i64 t3, .int .i64 t2] 37)).heap.size = w5.heap.size + 1 := by simp only [sz_al]
        have y10 : (w5.alloc (.cells #[.int .i64 0, .int .i64 0, .int .i64 0, .int .i64 0, .int .i64 t4, .int .i64 t3, .int .i64 t2] 37)).cell? ⟨nb, 10, none⟩ = some (.slice (some ⟨gp', 0, none⟩) n cp') := by rw [HNZ.out]; exact (NO2.out.keep (T1.out.2 nb hne (by rw [← HPB.out]; exact bl))).c10
        have npg : pb ≠ gp' := by omega
        have npw : w5.heap.size ≠ gp' := by omega
        obtain ⟨h0, h1, h2, h3, h4, h5, h6⟩ := U0.out.at_
        obtain ⟨i0, i1, i2, i3, i4, i5, i6⟩ := UB.out.at_
        simp only [Nat.zero_add] at h0 h1 h2 h3 h4 h5 h6 i0 i1 i2 i3 i4 i5 i6
        have j0 := U0.out.free 0
        have j1 := U0.out.free 1
        have j2 := U0.out.free 2
        have j3 := U0.out.free 3
        have j4 := U0.out.free 4
        have j5 := U0.out.free 5
        have j6 := U0.out.free 6
        clear r1 b1 o1 q1 CH l1 k1
        go_wp2_with fail
        clear h0 h1 h2 h3 h4 h5 h6 i0 i1 i2 i3 i4 i5 i6 j0 j1 j2 j3 j4 j5 j6 xx1 ff1 y10
        generalize w5.alloc (.cells #[.int .i64 0, .int .i64 0, .int .i64 0, .int .i64 0, .int .i64 t4, .int .i64 t3, .int .i64 t2] 37) = w6 at P1 R1 T1 U0 UB z6 ⊢
        have nl := L1.out
        have hw := TT.out.1.size
        have VP := Lib.hid (P1.out.set FL.out R1.out (by omega) (by omega) (fun i hi hne' => by have := PP.out.lt i hi; omega))
        have VT := Lib.hid (pls.Turned.trans T1.out ((base.Turned.refl gp' w6).set k (.slice (some ⟨g1, 0, none⟩) P.length c1)))
        have V0 := Lib.hid (U0.out.keep (w' := (w6.setCell ⟨gp', k, none⟩ (.slice (some ⟨g1, 0, none⟩) P.length c1))) (Below.heap_setCell w6 ⟨gp', k, none⟩ _ _ (show pb ≠ gp' by omega)))
        have zv : ((w6.setCell ⟨gp', k, none⟩ (.slice (some ⟨g1, 0, none⟩) P.length c1))).heap.size = w6.heap.size := by simp [World.setCell]
        generalize (w6.setCell ⟨gp', k, none⟩ (.slice (some ⟨g1, 0, none⟩) P.length c1)) = V at VP VT V0 zv ⊢
        have ot : ∀ c, c ≠ pb → (base.st7 V pb (0, 0, 0, 0, SP + t4, SI + t3, SF + t2)).heap[c]? = V.heap[c]? := fun c hc => base.st7_other' V _ _ c hc
        have sz := base.st7_size' V pb (0, 0, 0, 0, SP + t4, SI + t3, SF + t2)
        have fz : ∀ i, (base.st7 V pb (0, 0, 0, 0, SP + t4, SI + t3, SF + t2)).frozen? ⟨pb, i, none⟩ = false := fun i => by unfold base.st7; simp only [World.frozen?_setCell]; exact V0.out.free i
        have LN := Lib.hid (show ((wk.fw stP (m, 0, 0, 0) p k).set k P).length = n from by rw [List.length_set, wk.fw_len]; exact HNZ.out.symm)
        have NG := Lib.hid (show ∀ i, i < n → pls.up gs3 k g1 i ≠ pb from fun i hi => by
          unfold pls.up
          by_cases e : i = k
          · rw [if_pos e]; omega
          · rw [if_neg e]
            by_cases e2 : i < k
            · have := (GG.out i hi).1 e2; omega
            · rw [(GG.out i hi).2 (by omega)]
              have := L2.out.plans.lt i (by rw [← HNZ.out]; exact hi)
              have := HPB.out
              omega)
        have S2 := Lib.hid (show base.Bx (base.st7 V pb (0, 0, 0, 0, SP + t4, SI + t3, SF + t2)) pb (0, 0, 0, 0, SP + t4, SI + t3, SF + t2) from ⟨base.st7_at V0.out.at_ _, fz⟩)
        have SPl := Lib.hid (VP.out.keep (fun h => ot gp' (by omega)) (fun i hi => ot _ (NG.out i (by rw [LN.out] at hi; exact hi))) (Nat.le_of_eq sz.symm))
        have STu := Lib.hid (show base.Turned gp' W3 (base.st7 V pb (0, 0, 0, 0, SP + t4, SI + t3, SF + t2)) from ⟨base.st7_below VT.out.1 (by omega) _, fun c hc hl => (ot c (by have := HPB.out; omega)).trans (VT.out.2 c hc hl)⟩)
        clear V0 VP VT ot fz
        go_roundw
        case rel =>
          refine ⟨k + 1, pls.up gs3 k g1, pls.up cs3 k c1, by omega, by go_num, by rw [FSh.out], ?_, ?_, ?_, ?_, fun j hj => ⟨fun h => ?_, fun h => ?_⟩⟩
          · rw [show wk.fw stP (m, 0, 0, 0) p (k + 1) = (wk.fw stP (m, 0, 0, 0) p k).set k P from FWh.out]
            exact SPl.out
          · exact STu.out
          · exact Nat.le_trans (show pb + 1 ≤ V.heap.size by omega) (Nat.le_of_eq sz.symm)
          · rw [FSh.out]; exact S2.out
          · unfold pls.up
            by_cases e : j = k
            · rw [if_pos e]; have := L1.out; omega
            · rw [if_neg e]; exact (GG.out j hj).1 (by omega)
          · unfold pls.up
            rw [if_neg (by omega)]; exact (GG.out j hj).2 (by omega)
        case measure => simp [intOf]; omega
      · have v1 : decide (k < n) = false := by simp; omega
        obtain rfl : k = n := by omega
        have v2 : decide (k < p.length) = false := by have := HNZ.out; simp; omega
        have EQ : (S0, S1, S2, S3) = (SL, SF, SI, SP) := HSh.out.symm.trans (by unfold paNs; rw [HS.out, ← HNZ.out])
        simp only [Prod.mk.injEq] at EQ
        obtain ⟨E0, E1, E2, E3⟩ := EQ
        subst E0 E1 E2 E3
        have PE := Lib.hid (show wk.fw stP (m, 0, 0, 0) p k = paLs p m from by unfold paLs; rw [← HNZ.out])
        have T := hT
        have pl4 := hP
        rw [PE.out] at pl4
        have fr : ∀ i, i < p.length → pb + 1 ≤ gs3 i := fun i hi => (GG.out i (by rw [HNZ.out]; exact hi)).1 (by rw [HNZ.out]; exact hi)
        have hpb1 : nb < pb := by have := HPB.out; omega
        have hpb2 : w.heap.size + 1 + 1 + 1 ≤ pb := by have := HPB.out; have := DD.out; have := HNB.out; omega
        clear hP hT hG y10
        have B5 := Lib.hid (B2.out.trans (T.1.mono (show w.heap.size ≤ gp' by have := DD.out; omega)))
        have X5 := Lib.hid (X2.out.keep (w' := wr) (T.2 _ (by have := DD.out; omega) X2.out.lt) T.1.size)
        have U5 := Lib.hid (U2.out.keep (w' := wr) (T.2 _ (by have := DD.out; omega) (by have := DD.out; have := HNB.out; omega)))
        have N5 := Lib.hid (N2.out.keep (w' := wr) (T.2 _ (by have := DD.out; have := HNB.out; omega) N2.out.lt) T.1.size)
        have V5 := Lib.hid (show base.Bx wr pb (0, 0, 0, 0, S3, S2, S1) from Y0.out)
        have PLEN := Lib.hid (show (paLs p m).length = p.length from wk.fw_len _ _ _ _)
        have L5 := Lib.hid (show OL wr (w.heap.size + 1 + 1 + 1) l (paLs p m) (some ⟨gi', 0, none⟩) ci' gi' (some ⟨gp', 0, none⟩) cp' gp' gs3 cs3 from
          ⟨L2.out.items.keep fun hh => T.2 gi' (by have := DD.out; omega) (L2.out.gi1 hh), pl4, fun _ => by have := DD.out; omega, fun _ => by have := DD.out; omega, fun i hi => by have := fr i (by rw [← PLEN.out]; exact hi); have := DD.out; have := HNB.out; omega, fun _ _ => by have := DD.out; omega, fun i hi _ => by have := fr i (by rw [← PLEN.out]; exact hi); have := DD.out; have := HNB.out; omega⟩)
        have SZ4 := T.1.size
        clear T pl4 fr B2 N2 NO2 L2 X2 U2 Y0
        have n0 : wr.cell? ⟨nb, 0, none⟩ = some (.int .i64 s.id) := N5.out.cell 0 (by decide)
        have n1 : wr.cell? ⟨nb, 1, none⟩ = some (.int .i64 s.co) := N5.out.cell 1 (by decide)
        have n2 : wr.cell? ⟨nb, 2, none⟩ = some (.int .i64 s.me) := N5.out.cell 2 (by decide)
        have n3 : wr.cell? ⟨nb, 3, none⟩ = some (.int .i64 s.cu) := N5.out.cell 3 (by decide)
        have n4 : wr.cell? ⟨nb, 4, none⟩ = some (.int .i64 s.da) := N5.out.cell 4 (by decide)
        have n5 : wr.cell? ⟨nb, 5, none⟩ = some (.int .i64 s.nn) := N5.out.cell 5 (by decide)
        have n6 : wr.cell? ⟨nb, 6, none⟩ = some (.int .i64 s.ra) := N5.out.cell 6 (by decide)
        have n7 : wr.cell? ⟨nb, 7, none⟩ = some (.int .i64 s.nu) := N5.out.cell 7 (by decide)
        have n8 : wr.cell? ⟨nb, 8, none⟩ = some (.int .i64 s.de) := N5.out.cell 8 (by decide)
        have n9 : wr.cell? ⟨nb, 9, none⟩ = some (.slice (some ⟨gi', 0, none⟩) l.length ci') := N5.out.cell 9 (by decide)
        have n10 : wr.cell? ⟨nb, 10, none⟩ = some (.slice (some ⟨gp', 0, none⟩) p.length cp') := N5.out.cell 10 (by decide)
        have n11 : wr.cell? ⟨nb, 11, none⟩ = some (.int .i64 s.op) := N5.out.cell 11 (by decide)
        have n12 : wr.cell? ⟨nb, 12, none⟩ = some (.int .i64 s.up) := N5.out.cell 12 (by decide)
        have v0 : wr.cell? ⟨pb, 0, none⟩ = some (.int .i64 0) := V5.out.at_.c0
        have v1 : wr.cell? ⟨pb, 1, none⟩ = some (.int .i64 0) := V5.out.at_.c1
        have v2 : wr.cell? ⟨pb, 2, none⟩ = some (.int .i64 0) := V5.out.at_.c2
        have v3 : wr.cell? ⟨pb, 3, none⟩ = some (.int .i64 0) := V5.out.at_.c3
        have v4 : wr.cell? ⟨pb, 4, none⟩ = some (.int .i64 S3) := V5.out.at_.c4
        have v5 : wr.cell? ⟨pb, 5, none⟩ = some (.int .i64 S2) := V5.out.at_.c5
        have v6 : wr.cell? ⟨pb, 6, none⟩ = some (.int .i64 S1) := V5.out.at_.c6
        go_wp2_with fail
        have x0 : wr.cell? ⟨w.heap.size + 1, 0, none⟩ = some (.int .i64 0) := X5.out.cell 0 (by decide)
        have x1 : wr.cell? ⟨w.heap.size + 1, 1, none⟩ = some (.int .i64 0) := X5.out.cell 1 (by decide)
        have x2 : wr.cell? ⟨w.heap.size + 1, 2, none⟩ = some (.int .i64 0) := X5.out.cell 2 (by decide)
        have x3 : wr.cell? ⟨w.heap.size + 1, 3, none⟩ = some (.int .i64 0) := X5.out.cell 3 (by decide)
        have x4 : wr.cell? ⟨w.heap.size + 1, 4, none⟩ = some (.int .i64 0) := X5.out.cell 4 (by decide)
        have x5 : wr.cell? ⟨w.heap.size + 1, 5, none⟩ = some (.int .i64 0) := X5.out.cell 5 (by decide)
        have x6 : wr.cell? ⟨w.heap.size + 1, 6, none⟩ = some (.int .i64 0) := X5.out.cell 6 (by decide)
        have x7 : wr.cell? ⟨w.heap.size + 1, 7, none⟩ = some (.int .i64 0) := X5.out.cell 7 (by decide)
        have x8 : wr.cell? ⟨w.heap.size + 1, 8, none⟩ = some (.int .i64 0) := X5.out.cell 8 (by decide)
        have x9 : wr.cell? ⟨w.heap.size + 1, 9, none⟩ = some (.slice none 0 0) := X5.out.cell 9 (by decide)
        have x10 : wr.cell? ⟨w.heap.size + 1, 10, none⟩ = some (.slice none 0 0) := X5.out.cell 10 (by decide)
        have x11 : wr.cell? ⟨w.heap.size + 1, 11, none⟩ = some (.int .i64 0) := X5.out.cell 11 (by decide)
        have x12 : wr.cell? ⟨w.heap.size + 1, 12, none⟩ = some (.int .i64 0) := X5.out.cell 12 (by decide)
        have f0 := X5.out.free 0
        have f1 := X5.out.free 1
        have f2 := X5.out.free 2
        have f3 := X5.out.free 3
        have f4 := X5.out.free 4
        have f5 := X5.out.free 5
        have f6 := X5.out.free 6
        have f7 := X5.out.free 7
        have f8 := X5.out.free 8
        have f9 := X5.out.free 9
        have f10 := X5.out.free 10
        have f11 := X5.out.free 11
        have f12 := X5.out.free 12
        have u0 : wr.cell? ⟨w.heap.size + 1 + 1, 0, none⟩ = some (.int .i64 0) := U5.out.at_.c0
        have u1 : wr.cell? ⟨w.heap.size + 1 + 1, 1, none⟩ = some (.int .i64 0) := U5.out.at_.c1
        have u2 : wr.cell? ⟨w.heap.size + 1 + 1, 2, none⟩ = some (.int .i64 0) := U5.out.at_.c2
        have u3 : wr.cell? ⟨w.heap.size + 1 + 1, 3, none⟩ = some (.int .i64 0) := U5.out.at_.c3
        have u4 : wr.cell? ⟨w.heap.size + 1 + 1, 4, none⟩ = some (.int .i64 0) := U5.out.at_.c4
        have u5 : wr.cell? ⟨w.heap.size + 1 + 1, 5, none⟩ = some (.int .i64 0) := U5.out.at_.c5
        have u6 : wr.cell? ⟨w.heap.size + 1 + 1, 6, none⟩ = some (.int .i64 0) := U5.out.at_.c6
        have g0 := U5.out.free 0
        have g1 := U5.out.free 1
        have g2 := U5.out.free 2
        have g3 := U5.out.free 3
        have g4 := U5.out.free 4
        have g5 := U5.out.free 5
        have g6 := U5.out.free 6
        have YF := Lib.hid (((((((((((((X5.out.set (k := 0) (by decide) (.int .i64 s.id)).set (k := 1) (by decide) (.int .i64 s.co)).set (k := 2) (by decide) (.int .i64 s.me)).set (k := 3) (by decide) (.int .i64 s.cu)).set (k := 4) (by decide) (.int .i64 s.da)).set (k := 5) (by decide) (.int .i64 s.nn)).set (k := 6) (by decide) (.int .i64 s.ra)).set (k := 7) (by decide) (.int .i64 s.nu)).set (k := 8) (by decide) (.int .i64 s.de)).set (k := 9) (by decide) (.slice (some ⟨gi', 0, none⟩) l.length ci')).set (k := 10) (by decide) (.slice (some ⟨gp', 0, none⟩) p.length cp')).set (k := 11) (by decide) (.int .i64 s.op)).set (k := 12) (by decide) (.int .i64 s.up))
        have BF0 := Lib.hid (show Below w.heap.size w (((((((((((((wr.setCell ⟨w.heap.size + 1, 0, none⟩ (.int .i64 s.id)).setCell ⟨w.heap.size + 1, 1, none⟩ (.int .i64 s.co)).setCell ⟨w.heap.size + 1, 2, none⟩ (.int .i64 s.me)).setCell ⟨w.heap.size + 1, 3, none⟩ (.int .i64 s.cu)).setCell ⟨w.heap.size + 1, 4, none⟩ (.int .i64 s.da)).setCell ⟨w.heap.size + 1, 5, none⟩ (.int .i64 s.nn)).setCell ⟨w.heap.size + 1, 6, none⟩ (.int .i64 s.ra)).setCell ⟨w.heap.size + 1, 7, none⟩ (.int .i64 s.nu)).setCell ⟨w.heap.size + 1, 8, none⟩ (.int .i64 s.de)).setCell ⟨w.heap.size + 1, 9, none⟩ (.slice (some ⟨gi', 0, none⟩) l.length ci')).setCell ⟨w.heap.size + 1, 10, none⟩ (.slice (some ⟨gp', 0, none⟩) p.length cp')).setCell ⟨w.heap.size + 1, 11, none⟩ (.int .i64 s.op)).setCell ⟨w.heap.size + 1, 12, none⟩ (.int .i64 s.up)) from (((((((((((((B5.out.setCell (p := ⟨w.heap.size + 1, 0, none⟩) (show w.heap.size ≤ w.heap.size + 1 by omega) (.int .i64 s.id)).setCell (p := ⟨w.heap.size + 1, 1, none⟩) (show w.heap.size ≤ w.heap.size + 1 by omega) (.int .i64 s.co)).setCell (p := ⟨w.heap.size + 1, 2, none⟩) (show w.heap.size ≤ w.heap.size + 1 by omega) (.int .i64 s.me)).setCell (p := ⟨w.heap.size + 1, 3, none⟩) (show w.heap.size ≤ w.heap.size + 1 by omega) (.int .i64 s.cu)).setCell (p := ⟨w.heap.size + 1, 4, none⟩) (show w.heap.size ≤ w.heap.size + 1 by omega) (.int .i64 s.da)).setCell (p := ⟨w.heap.size + 1, 5, none⟩) (show w.heap.size ≤ w.heap.size + 1 by omega) (.int .i64 s.nn)).setCell (p := ⟨w.heap.size + 1, 6, none⟩) (show w.heap.size ≤ w.heap.size + 1 by omega) (.int .i64 s.ra)).setCell (p := ⟨w.heap.size + 1, 7, none⟩) (show w.heap.size ≤ w.heap.size + 1 by omega) (.int .i64 s.nu)).setCell (p := ⟨w.heap.size + 1, 8, none⟩) (show w.heap.size ≤ w.heap.size + 1 by omega) (.int .i64 s.de)).setCell (p := ⟨w.heap.size + 1, 9, none⟩) (show w.heap.size ≤ w.heap.size + 1 by omega) (.slice (some ⟨gi', 0, none⟩) l.length ci')).setCell (p := ⟨w.heap.size + 1, 10, none⟩) (show w.heap.size ≤ w.heap.size + 1 by omega) (.slice (some ⟨gp', 0, none⟩) p.length cp')).setCell (p := ⟨w.heap.size + 1, 11, none⟩) (show w.heap.size ≤ w.heap.size + 1 by omega) (.int .i64 s.op)).setCell (p := ⟨w.heap.size + 1, 12, none⟩) (show w.heap.size ≤ w.heap.size + 1 by omega) (.int .i64 s.up)))
        have UF := Lib.hid (U5.out.keep (w' := ((((((((((((wr.setCell ⟨w.heap.size + 1, 0, none⟩ (.int .i64 s.id)).setCell ⟨w.heap.size + 1, 1, none⟩ (.int .i64 s.co)).setCell ⟨w.heap.size + 1, 2, none⟩ (.int .i64 s.me)).setCell ⟨w.heap.size + 1, 3, none⟩ (.int .i64 s.cu)).setCell ⟨w.heap.size + 1, 4, none⟩ (.int .i64 s.da)).setCell ⟨w.heap.size + 1, 5, none⟩ (.int .i64 s.nn)).setCell ⟨w.heap.size + 1, 6, none⟩ (.int .i64 s.ra)).setCell ⟨w.heap.size + 1, 7, none⟩ (.int .i64 s.nu)).setCell ⟨w.heap.size + 1, 8, none⟩ (.int .i64 s.de)).setCell ⟨w.heap.size + 1, 9, none⟩ (.slice (some ⟨gi', 0, none⟩) l.length ci')).setCell ⟨w.heap.size + 1, 10, none⟩ (.slice (some ⟨gp', 0, none⟩) p.length cp')).setCell ⟨w.heap.size + 1, 11, none⟩ (.int .i64 s.op)).setCell ⟨w.heap.size + 1, 12, none⟩ (.int .i64 s.up)) ((((((((((((((Below.heap_setCell _ _ _ _ (show w.heap.size + 1 + 1 ≠ w.heap.size + 1 by omega)).trans (Below.heap_setCell _ _ _ _ (show w.heap.size + 1 + 1 ≠ w.heap.size + 1 by omega))).trans (Below.heap_setCell _ _ _ _ (show w.heap.size + 1 + 1 ≠ w.heap.size + 1 by omega))).trans (Below.heap_setCell _ _ _ _ (show w.heap.size + 1 + 1 ≠ w.heap.size + 1 by omega))).trans (Below.heap_setCell _ _ _ _ (show w.heap.size + 1 + 1 ≠ w.heap.size + 1 by omega))).trans (Below.heap_setCell _ _ _ _ (show w.heap.size + 1 + 1 ≠ w.heap.size + 1 by omega))).trans (Below.heap_setCell _ _ _ _ (show w.heap.size + 1 + 1 ≠ w.heap.size + 1 by omega))).trans (Below.heap_setCell _ _ _ _ (show w.heap.size + 1 + 1 ≠ w.heap.size + 1 by omega))).trans (Below.heap_setCell _ _ _ _ (show w.heap.size + 1 + 1 ≠ w.heap.size + 1 by omega))).trans (Below.heap_setCell _ _ _ _ (show w.heap.size + 1 + 1 ≠ w.heap.size + 1 by omega))).trans (Below.heap_setCell _ _ _ _ (show w.heap.size + 1 + 1 ≠ w.heap.size + 1 by omega))).trans (Below.heap_setCell _ _ _ _ (show w.heap.size + 1 + 1 ≠ w.heap.size + 1 by omega))).trans (Below.heap_setCell _ _ _ _ (show w.heap.size + 1 + 1 ≠ w.heap.size + 1 by omega)))))
        have Y := Lib.hid (YF.out.keep (w' := base.st7 (((((((((((((wr.setCell ⟨w.heap.size + 1, 0, none⟩ (.int .i64 s.id)).setCell ⟨w.heap.size + 1, 1, none⟩ (.int .i64 s.co)).setCell ⟨w.heap.size + 1, 2, none⟩ (.int .i64 s.me)).setCell ⟨w.heap.size + 1, 3, none⟩ (.int .i64 s.cu)).setCell ⟨w.heap.size + 1, 4, none⟩ (.int .i64 s.da)).setCell ⟨w.heap.size + 1, 5, none⟩ (.int .i64 s.nn)).setCell ⟨w.heap.size + 1, 6, none⟩ (.int .i64 s.ra)).setCell ⟨w.heap.size + 1, 7, none⟩ (.int .i64 s.nu)).setCell ⟨w.heap.size + 1, 8, none⟩ (.int .i64 s.de)).setCell ⟨w.heap.size + 1, 9, none⟩ (.slice (some ⟨gi', 0, none⟩) l.length ci')).setCell ⟨w.heap.size + 1, 10, none⟩ (.slice (some ⟨gp', 0, none⟩) p.length cp')).setCell ⟨w.heap.size + 1, 11, none⟩ (.int .i64 s.op)).setCell ⟨w.heap.size + 1, 12, none⟩ (.int .i64 s.up)) (w.heap.size + 1 + 1) (0, 0, 0, 0, S3, S2, S1)) (base.st7_other' _ _ _ _ (by omega)) (Nat.le_of_eq (base.st7_size' _ _ _).symm))
        have S := Lib.hid (base.st7_at (W := ((((((((((((wr.setCell ⟨w.heap.size + 1, 0, none⟩ (.int .i64 s.id)).setCell ⟨w.heap.size + 1, 1, none⟩ (.int .i64 s.co)).setCell ⟨w.heap.size + 1, 2, none⟩ (.int .i64 s.me)).setCell ⟨w.heap.size + 1, 3, none⟩ (.int .i64 s.cu)).setCell ⟨w.heap.size + 1, 4, none⟩ (.int .i64 s.da)).setCell ⟨w.heap.size + 1, 5, none⟩ (.int .i64 s.nn)).setCell ⟨w.heap.size + 1, 6, none⟩ (.int .i64 s.ra)).setCell ⟨w.heap.size + 1, 7, none⟩ (.int .i64 s.nu)).setCell ⟨w.heap.size + 1, 8, none⟩ (.int .i64 s.de)).setCell ⟨w.heap.size + 1, 9, none⟩ (.slice (some ⟨gi', 0, none⟩) l.length ci')).setCell ⟨w.heap.size + 1, 10, none⟩ (.slice (some ⟨gp', 0, none⟩) p.length cp')).setCell ⟨w.heap.size + 1, 11, none⟩ (.int .i64 s.op)).setCell ⟨w.heap.size + 1, 12, none⟩ (.int .i64 s.up)) UF.out.at_ (0, 0, 0, 0, S3, S2, S1))
        have BF := Lib.hid (base.st7_below BF0.out (show w.heap.size ≤ w.heap.size + 1 + 1 by omega) (0, 0, 0, 0, S3, S2, S1))
        have OT := Lib.hid (show ∀ c, c ≠ w.heap.size + 1 → c ≠ w.heap.size + 1 + 1 → (base.st7 (((((((((((((wr.setCell ⟨w.heap.size + 1, 0, none⟩ (.int .i64 s.id)).setCell ⟨w.heap.size + 1, 1, none⟩ (.int .i64 s.co)).setCell ⟨w.heap.size + 1, 2, none⟩ (.int .i64 s.me)).setCell ⟨w.heap.size + 1, 3, none⟩ (.int .i64 s.cu)).setCell ⟨w.heap.size + 1, 4, none⟩ (.int .i64 s.da)).setCell ⟨w.heap.size + 1, 5, none⟩ (.int .i64 s.nn)).setCell ⟨w.heap.size + 1, 6, none⟩ (.int .i64 s.ra)).setCell ⟨w.heap.size + 1, 7, none⟩ (.int .i64 s.nu)).setCell ⟨w.heap.size + 1, 8, none⟩ (.int .i64 s.de)).setCell ⟨w.heap.size + 1, 9, none⟩ (.slice (some ⟨gi', 0, none⟩) l.length ci')).setCell ⟨w.heap.size + 1, 10, none⟩ (.slice (some ⟨gp', 0, none⟩) p.length cp')).setCell ⟨w.heap.size + 1, 11, none⟩ (.int .i64 s.op)).setCell ⟨w.heap.size + 1, 12, none⟩ (.int .i64 s.up)) (w.heap.size + 1 + 1) (0, 0, 0, 0, S3, S2, S1)).heap[c]? = wr.heap[c]? from fun c h1 h2 => (base.st7_other' _ _ _ _ h2).trans (((((((((((((Below.heap_setCell _ _ _ _ (show c ≠ w.heap.size + 1 by exact h1)).trans (Below.heap_setCell _ _ _ _ (show c ≠ w.heap.size + 1 by exact h1))).trans (Below.heap_setCell _ _ _ _ (show c ≠ w.heap.size + 1 by exact h1))).trans (Below.heap_setCell _ _ _ _ (show c ≠ w.heap.size + 1 by exact h1))).trans (Below.heap_setCell _ _ _ _ (show c ≠ w.heap.size + 1 by exact h1))).trans (Below.heap_setCell _ _ _ _ (show c ≠ w.heap.size + 1 by exact h1))).trans (Below.heap_setCell _ _ _ _ (show c ≠ w.heap.size + 1 by exact h1))).trans (Below.heap_setCell _ _ _ _ (show c ≠ w.heap.size + 1 by exact h1))).trans (Below.heap_setCell _ _ _ _ (show c ≠ w.heap.size + 1 by exact h1))).trans (Below.heap_setCell _ _ _ _ (show c ≠ w.heap.size + 1 by exact h1))).trans (Below.heap_setCell _ _ _ _ (show c ≠ w.heap.size + 1 by exact h1))).trans (Below.heap_setCell _ _ _ _ (show c ≠ w.heap.size + 1 by exact h1))).trans (Below.heap_setCell _ _ _ _ (show c ≠ w.heap.size + 1 by exact h1))))
        have SZ := Lib.hid (show (base.st7 (((((((((((((wr.setCell ⟨w.heap.size + 1, 0, none⟩ (.int .i64 s.id)).setCell ⟨w.heap.size + 1, 1, none⟩ (.int .i64 s.co)).setCell ⟨w.heap.size + 1, 2, none⟩ (.int .i64 s.me)).setCell ⟨w.heap.size + 1, 3, none⟩ (.int .i64 s.cu)).setCell ⟨w.heap.size + 1, 4, none⟩ (.int .i64 s.da)).setCell ⟨w.heap.size + 1, 5, none⟩ (.int .i64 s.nn)).setCell ⟨w.heap.size + 1, 6, none⟩ (.int .i64 s.ra)).setCell ⟨w.heap.size + 1, 7, none⟩ (.int .i64 s.nu)).setCell ⟨w.heap.size + 1, 8, none⟩ (.int .i64 s.de)).setCell ⟨w.heap.size + 1, 9, none⟩ (.slice (some ⟨gi', 0, none⟩) l.length ci')).setCell ⟨w.heap.size + 1, 10, none⟩ (.slice (some ⟨gp', 0, none⟩) p.length cp')).setCell ⟨w.heap.size + 1, 11, none⟩ (.int .i64 s.op)).setCell ⟨w.heap.size + 1, 12, none⟩ (.int .i64 s.up)) (w.heap.size + 1 + 1) (0, 0, 0, 0, S3, S2, S1)).heap.size = wr.heap.size from (base.st7_size' _ _ _).trans (by simp only [sz_set]))
        have LF := Lib.hid (show OL (base.st7 (((((((((((((wr.setCell ⟨w.heap.size + 1, 0, none⟩ (.int .i64 s.id)).setCell ⟨w.heap.size + 1, 1, none⟩ (.int .i64 s.co)).setCell ⟨w.heap.size + 1, 2, none⟩ (.int .i64 s.me)).setCell ⟨w.heap.size + 1, 3, none⟩ (.int .i64 s.cu)).setCell ⟨w.heap.size + 1, 4, none⟩ (.int .i64 s.da)).setCell ⟨w.heap.size + 1, 5, none⟩ (.int .i64 s.nn)).setCell ⟨w.heap.size + 1, 6, none⟩ (.int .i64 s.ra)).setCell ⟨w.heap.size + 1, 7, none⟩ (.int .i64 s.nu)).setCell ⟨w.heap.size + 1, 8, none⟩ (.int .i64 s.de)).setCell ⟨w.heap.size + 1, 9, none⟩ (.slice (some ⟨gi', 0, none⟩) l.length ci')).setCell ⟨w.heap.size + 1, 10, none⟩ (.slice (some ⟨gp', 0, none⟩) p.length cp')).setCell ⟨w.heap.size + 1, 11, none⟩ (.int .i64 s.op)).setCell ⟨w.heap.size + 1, 12, none⟩ (.int .i64 s.up)) (w.heap.size + 1 + 1) (0, 0, 0, 0, S3, S2, S1)) w.heap.size l (paLs p m) (some ⟨gi', 0, none⟩) ci' gi' (some ⟨gp', 0, none⟩) cp' gp' gs3 cs3 from ⟨L5.out.items.keep fun _ => OT.out gi' (by have := DD.out; omega) (by have := DD.out; omega), L5.out.plans.keep (fun _ => OT.out gp' (by have := DD.out; omega) (by have := DD.out; omega)) (fun i hi => OT.out (gs3 i) (by have := L5.out.gs0 i hi; omega) (by have := L5.out.gs0 i hi; omega)) (Nat.le_of_eq SZ.out.symm), fun h => Nat.le_trans (show w.heap.size ≤ w.heap.size + 1 + 1 + 1 by omega) (L5.out.gi0 h), fun h => Nat.le_trans (show w.heap.size ≤ w.heap.size + 1 + 1 + 1 by omega) (L5.out.gp0 h), fun i h => Nat.le_trans (show w.heap.size ≤ w.heap.size + 1 + 1 + 1 by omega) (L5.out.gs0 i h), L5.out.ip, L5.out.is_⟩)
        have YD := Lib.hid Y.out.drew
        have BFD := Lib.hid BF.out.drew
        have LFD := Lib.hid (LF.out.below (Below.refl (base.st7 (((((((((((((wr.setCell ⟨w.heap.size + 1, 0, none⟩ (.int .i64 s.id)).setCell ⟨w.heap.size + 1, 1, none⟩ (.int .i64 s.co)).setCell ⟨w.heap.size + 1, 2, none⟩ (.int .i64 s.me)).setCell ⟨w.heap.size + 1, 3, none⟩ (.int .i64 s.cu)).setCell ⟨w.heap.size + 1, 4, none⟩ (.int .i64 s.da)).setCell ⟨w.heap.size + 1, 5, none⟩ (.int .i64 s.nn)).setCell ⟨w.heap.size + 1, 6, none⟩ (.int .i64 s.ra)).setCell ⟨w.heap.size + 1, 7, none⟩ (.int .i64 s.nu)).setCell ⟨w.heap.size + 1, 8, none⟩ (.int .i64 s.de)).setCell ⟨w.heap.size + 1, 9, none⟩ (.slice (some ⟨gi', 0, none⟩) l.length ci')).setCell ⟨w.heap.size + 1, 10, none⟩ (.slice (some ⟨gp', 0, none⟩) p.length cp')).setCell ⟨w.heap.size + 1, 11, none⟩ (.int .i64 s.op)).setCell ⟨w.heap.size + 1, 12, none⟩ (.int .i64 s.up)) (w.heap.size + 1 + 1) (0, 0, 0, 0, S3, S2, S1)).heap.size (base.st7 (((((((((((((wr.setCell ⟨w.heap.size + 1, 0, none⟩ (.int .i64 s.id)).setCell ⟨w.heap.size + 1, 1, none⟩ (.int .i64 s.co)).setCell ⟨w.heap.size + 1, 2, none⟩ (.int .i64 s.me)).setCell ⟨w.heap.size + 1, 3, none⟩ (.int .i64 s.cu)).setCell ⟨w.heap.size + 1, 4, none⟩ (.int .i64 s.da)).setCell ⟨w.heap.size + 1, 5, none⟩ (.int .i64 s.nn)).setCell ⟨w.heap.size + 1, 6, none⟩ (.int .i64 s.ra)).setCell ⟨w.heap.size + 1, 7, none⟩ (.int .i64 s.nu)).setCell ⟨w.heap.size + 1, 8, none⟩ (.int .i64 s.de)).setCell ⟨w.heap.size + 1, 9, none⟩ (.slice (some ⟨gi', 0, none⟩) l.length ci')).setCell ⟨w.heap.size + 1, 10, none⟩ (.slice (some ⟨gp', 0, none⟩) p.length cp')).setCell ⟨w.heap.size + 1, 11, none⟩ (.int .i64 s.op)).setCell ⟨w.heap.size + 1, 12, none⟩ (.int .i64 s.up)) (w.heap.size + 1 + 1) (0, 0, 0, 0, S3, S2, S1))).drew)
        have SD := Lib.hid (show _ ∧ _ ∧ _ ∧ _ ∧ _ ∧ _ ∧ _ from (by have q := S.out; obtain ⟨c0, c1, c2, c3, c4, c5, c6⟩ := q; exact ⟨(World.cell?_drew _ _).trans c0, (World.cell?_drew _ _).trans c1, (World.cell?_drew _ _).trans c2, (World.cell?_drew _ _).trans c3, (World.cell?_drew _ _).trans c4, (World.cell?_drew _ _).trans c5, (World.cell?_drew _ _).trans c6⟩))
        clear X5 L5 B5 YF BF0 UF OT SZ U5 N5 V5 Y BF LF S
        have hn1 : nb ≠ w.heap.size + 1 := by have := DD.out; have := HNB.out; omega
        have hn2 : nb ≠ w.heap.size + 1 + 1 := by have := DD.out; have := HNB.out; omega
        have hp1 : pb ≠ w.heap.size + 1 := by have := DD.out; have := HNB.out; omega
        have hp2 : pb ≠ w.heap.size + 1 + 1 := by have := DD.out; have := HNB.out; omega
        refine wp_region_held_drew (S := fun w2 : World => w2.heap[nb]? = wr.heap[nb]? ∧ w2.heap[pb]? = wr.heap[pb]?) (by kernel_rfl) ⟨rfl, rfl⟩ (fun hHeld => ?_)
        refine wpAnyH_take (i := 0) (oi := { dst := some 71, op := Op.load 31 (Operand.tmp 8), type := 31, pos := "l06_orders.go:125", after := #[], guard := none }) (v := .agg #[.int .i64 s.id, .int .i64 s.co, .int .i64 s.me, .int .i64 s.cu, .int .i64 s.da, .int .i64 s.nn, .int .i64 s.ra, .int .i64 s.nu, .int .i64 s.de, .slice (some ⟨gi', 0, none⟩) l.length ci', .slice (some ⟨gp', 0, none⟩) p.length cp', .int .i64 s.op, .int .i64 s.up]) rfl (by kernel_rfl) (by kernel_rfl) (by kernel_rfl) (fun _ _ _ h => h) (Or.inl ⟨by rfl, ?_⟩) hHeld ?_
        · intro w2 hS2
          replace n0 := pls.cell_keep n0 hS2.1
          replace n1 := pls.cell_keep n1 hS2.1
          replace n2 := pls.cell_keep n2 hS2.1
          replace n3 := pls.cell_keep n3 hS2.1
          replace n4 := pls.cell_keep n4 hS2.1
          replace n5 := pls.cell_keep n5 hS2.1
          replace n6 := pls.cell_keep n6 hS2.1
          replace n7 := pls.cell_keep n7 hS2.1
          replace n8 := pls.cell_keep n8 hS2.1
          replace n9 := pls.cell_keep n9 hS2.1
          replace n10 := pls.cell_keep n10 hS2.1
          replace n11 := pls.cell_keep n11 hS2.1
          replace n12 := pls.cell_keep n12 hS2.1
          clear hS2 hHeld x0 f0 x1 f1 x2 f2 x3 f3 x4 f4 x5 f5 x6 f6 x7 f7 x8 f8 x9 f9 x10 f10 x11 f11 x12 f12 u0 g0 v0 u1 g1 v1 u2 g2 v2 u3 g3 v3 u4 g4 v4 u5 g5 v5 u6 g6 v6
          go_simp
        simp only [Act.put, List.setIfInBounds_toArray, List.set_cons_zero, List.set_cons_succ]
        refine wpAnyH_take (i := 1) (oi := { dst := some 72, op := Op.load 37 (Operand.tmp 9), type := 37, pos := "l06_orders.go:125", after := #[{ on := 3, ground := Ground.gcOnly Departure.lateStores }], guard := none }) (v := .agg #[.int .i64 0, .int .i64 0, .int .i64 0, .int .i64 0, .int .i64 S3, .int .i64 S2, .int .i64 S1]) rfl (by kernel_rfl) (by kernel_rfl) (by kernel_rfl) (fun _ _ _ h => h) (Or.inl ⟨by rfl, ?_⟩) hHeld ?_
        · intro w2 hS2
          replace v0 := pls.cell_keep v0 hS2.2
          replace v1 := pls.cell_keep v1 hS2.2
          replace v2 := pls.cell_keep v2 hS2.2
          replace v3 := pls.cell_keep v3 hS2.2
          replace v4 := pls.cell_keep v4 hS2.2
          replace v5 := pls.cell_keep v5 hS2.2
          replace v6 := pls.cell_keep v6 hS2.2
          clear hS2 hHeld x0 f0 n0 x1 f1 n1 x2 f2 n2 x3 f3 n3 x4 f4 n4 x5 f5 n5 x6 f6 n6 x7 f7 n7 x8 f8 n8 x9 f9 n9 x10 f10 n10 x11 f11 n11 x12 f12 n12 u0 g0 u1 g1 u2 g2 u3 g3 u4 g4 u5 g5 u6 g6
          go_simp
        simp only [Act.put, List.setIfInBounds_toArray, List.set_cons_zero, List.set_cons_succ]
        refine wpAnyH_take (i := 2) (oi := { dst := some 73, op := Op.move (Operand.tmp 1), type := 2, pos := "l06_orders.go:125", after := #[{ on := 4, ground := Ground.gcOnly Departure.lateStores }], guard := none }) (v := .int .i64 S0) rfl (by kernel_rfl) (by kernel_rfl) (by kernel_rfl) (fun _ _ _ h => h) (Or.inl ⟨by rfl, ?_⟩) hHeld ?_
        · intro w2 hS2
          clear hS2
          go_simp
        simp only [Act.put, List.setIfInBounds_toArray, List.set_cons_zero, List.set_cons_succ]
        clear n0 n1 n2 n3 n4 n5 n6 n7 n8 n9 n10 n11 n12 v0 v1 v2 v3 v4 v5 v6
        clear hHeld
        refine wpAnyH_ready (rs := [3]) (by kernel_rfl) (by simp) ?_
        refine AllReadyH.cons rfl (fun K hK => ?_) AllReadyH.nil
        go_simp
        refine hK.out _ _ ⟨k13d hn1, k13d hp1⟩ (fun _ => ?_)
        clear hK K
        refine wpAnyH_ready (rs := [4]) (by kernel_rfl) (by simp) ?_
        refine AllReadyH.cons rfl (fun K hK => ?_) AllReadyH.nil
        go_simp
        refine hK.out _ _ ⟨k20d hn1 hn2, k20d hp1 hp2⟩ (fun _ => ?_)
        clear hK K
        refine wpAnyH_ready (rs := [5]) (by kernel_rfl) (by simp) ?_
        refine AllReadyH.cons rfl (fun K hK => ?_) AllReadyH.nil
        go_simp
        refine hK.out _ _ ⟨k20d hn1 hn2, k20d hp1 hp2⟩ (fun _ => ?_)
        clear hK K
        refine wpAnyH_ready (rs := [6]) (by kernel_rfl) (by simp) ?_
        refine AllReadyH.cons rfl (fun K hK => ?_) AllReadyH.nil
        go_simp
        refine hK.out _ _ ⟨k20d hn1 hn2, k20d hp1 hp2⟩ (fun _ => ?_)
        clear hK K
        refine wpAnyH_done (by kernel_rfl) ?_ _
        go_wp2
        change bodyPost _ _ _ _ _ ((base.st7 (((((((((((((wr.setCell ⟨w.heap.size + 1, 0, none⟩ (.int .i64 s.id)).setCell ⟨w.heap.size + 1, 1, none⟩ (.int .i64 s.co)).setCell ⟨w.heap.size + 1, 2, none⟩ (.int .i64 s.me)).setCell ⟨w.heap.size + 1, 3, none⟩ (.int .i64 s.cu)).setCell ⟨w.heap.size + 1, 4, none⟩ (.int .i64 s.da)).setCell ⟨w.heap.size + 1, 5, none⟩ (.int .i64 s.nn)).setCell ⟨w.heap.size + 1, 6, none⟩ (.int .i64 s.ra)).setCell ⟨w.heap.size + 1, 7, none⟩ (.int .i64 s.nu)).setCell ⟨w.heap.size + 1, 8, none⟩ (.int .i64 s.de)).setCell ⟨w.heap.size + 1, 9, none⟩ (.slice (some ⟨gi', 0, none⟩) l.length ci')).setCell ⟨w.heap.size + 1, 10, none⟩ (.slice (some ⟨gp', 0, none⟩) p.length cp')).setCell ⟨w.heap.size + 1, 11, none⟩ (.int .i64 s.op)).setCell ⟨w.heap.size + 1, 12, none⟩ (.int .i64 s.up)) (w.heap.size + 1 + 1) (0, 0, 0, 0, S3, S2, S1)).drew)
        generalize (base.st7 (((((((((((((wr.setCell ⟨w.heap.size + 1, 0, none⟩ (.int .i64 s.id)).setCell ⟨w.heap.size + 1, 1, none⟩ (.int .i64 s.co)).setCell ⟨w.heap.size + 1, 2, none⟩ (.int .i64 s.me)).setCell ⟨w.heap.size + 1, 3, none⟩ (.int .i64 s.cu)).setCell ⟨w.heap.size + 1, 4, none⟩ (.int .i64 s.da)).setCell ⟨w.heap.size + 1, 5, none⟩ (.int .i64 s.nn)).setCell ⟨w.heap.size + 1, 6, none⟩ (.int .i64 s.ra)).setCell ⟨w.heap.size + 1, 7, none⟩ (.int .i64 s.nu)).setCell ⟨w.heap.size + 1, 8, none⟩ (.int .i64 s.de)).setCell ⟨w.heap.size + 1, 9, none⟩ (.slice (some ⟨gi', 0, none⟩) l.length ci')).setCell ⟨w.heap.size + 1, 10, none⟩ (.slice (some ⟨gp', 0, none⟩) p.length cp')).setCell ⟨w.heap.size + 1, 11, none⟩ (.int .i64 s.op)).setCell ⟨w.heap.size + 1, 12, none⟩ (.int .i64 s.up)) (w.heap.size + 1 + 1) (0, 0, 0, 0, S3, S2, S1)).drew = W9 at YD BFD SD LFD ⊢
        have y0 : W9.cell? ⟨w.heap.size + 1, 0, none⟩ = some (.int .i64 s.id) := YD.out.cell 0 (by decide)
        have y1 : W9.cell? ⟨w.heap.size + 1, 1, none⟩ = some (.int .i64 s.co) := YD.out.cell 1 (by decide)
        have y2 : W9.cell? ⟨w.heap.size + 1, 2, none⟩ = some (.int .i64 s.me) := YD.out.cell 2 (by decide)
        have y3 : W9.cell? ⟨w.heap.size + 1, 3, none⟩ = some (.int .i64 s.cu) := YD.out.cell 3 (by decide)
        have y4 : W9.cell? ⟨w.heap.size + 1, 4, none⟩ = some (.int .i64 s.da) := YD.out.cell 4 (by decide)
        have y5 : W9.cell? ⟨w.heap.size + 1, 5, none⟩ = some (.int .i64 s.nn) := YD.out.cell 5 (by decide)
        have y6 : W9.cell? ⟨w.heap.size + 1, 6, none⟩ = some (.int .i64 s.ra) := YD.out.cell 6 (by decide)
        have y7 : W9.cell? ⟨w.heap.size + 1, 7, none⟩ = some (.int .i64 s.nu) := YD.out.cell 7 (by decide)
        have y8 : W9.cell? ⟨w.heap.size + 1, 8, none⟩ = some (.int .i64 s.de) := YD.out.cell 8 (by decide)
        have y9 : W9.cell? ⟨w.heap.size + 1, 9, none⟩ = some (.slice (some ⟨gi', 0, none⟩) l.length ci') := YD.out.cell 9 (by decide)
        have y10 : W9.cell? ⟨w.heap.size + 1, 10, none⟩ = some (.slice (some ⟨gp', 0, none⟩) p.length cp') := YD.out.cell 10 (by decide)
        have y11 : W9.cell? ⟨w.heap.size + 1, 11, none⟩ = some (.int .i64 s.op) := YD.out.cell 11 (by decide)
        have y12 : W9.cell? ⟨w.heap.size + 1, 12, none⟩ = some (.int .i64 s.up) := YD.out.cell 12 (by decide)
        obtain ⟨c0, c1, c2, c3, c4, c5, c6⟩ := SD.out
        simp only [Nat.zero_add] at c0 c1 c2 c3 c4 c5 c6
        refine bodyPost_ret (v := .tuple #[.agg #[.int .i64 s.id, .int .i64 s.co, .int .i64 s.me, .int .i64 s.cu, .int .i64 s.da, .int .i64 s.nn, .int .i64 s.ra, .int .i64 s.nu, .int .i64 s.de, .slice (some ⟨gi', 0, none⟩) l.length ci', .slice (some ⟨gp', 0, none⟩) p.length cp', .int .i64 s.op, .int .i64 s.up], .agg #[.int .i64 0, .int .i64 0, .int .i64 0, .int .i64 0, .int .i64 S3, .int .i64 S2, .int .i64 S1], .int .i64 S0, .int .i64 0]) (by simp [results, Try.results30, go_sem, y0, y1, y2, y3, y4, y5, y6, y7, y8, y9, y10, y11, y12, c0, c1, c2, c3, c4, c5, c6]) rfl ⟨_, rfl, _, _, _, _, _, _, _, _, ?_, LFD.out, BFD.out⟩
        rw [PLEN.out]
end Go.Proofs.Ytmaejlfjdkkpdaa.ob
