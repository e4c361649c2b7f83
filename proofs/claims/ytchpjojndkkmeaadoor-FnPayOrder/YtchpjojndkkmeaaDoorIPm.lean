/-
  Plain helpers of this seat's proofs: the contract of the program's own PlanMade. Conditions: none.
-/
import Derived.Test.YtchpjojndkkmeaaDoorPm
import Derived.Test.YtchpjojndkkmeaaDoorIDu
import Derived.Test.YtchpjojndkkmeaaDoorImd
import Derived.Test.YtchpjojndkkmeaaDoorShN
import Derived.Test.YtchpjojndkkmeaaDoorRep
import Derived.Test.YtchpjojndkkmeaaDoorSm
import Derived.Test.YtchpjojndkkmeaaDoorPmS
import Derived.Deep.RegionLaw
import Derived.Deep.RegionWith
import Derived.Deep.RegionHeld3
import Derived.StillTailTactics
namespace Go.Proofs.YtchpjojndkkmeaaDoor.base
open Go.ChangeShapes Go.WideShapes Go.ChangeAt Go.RowKit
open seven (F7 zz Row At)
open pl (inR prOk pok)
open gen
theorem ones_eq (n : Nat) : pm.ones n = List.replicate n 1 := rfl
theorem rateI (n : Int) (w : World) : Calls Tryd.prog 25 #[.int .i64 n] w fun e w' => e = .returned (.bool (inR n 0 10000)) ∧ w = w' := by
  unfold inR
  cases t1 : decide (0 ≤ n)
  · go_enter Tryd.func25, Tryd.ntmps25
    go_wp2
    go_ret
    exact ⟨rfl, rfl⟩
  · cases t2 : decide (n ≤ 10000)
    all_goals
      go_enter Tryd.func25, Tryd.ntmps25
      go_wp2
      go_ret
      exact ⟨rfl, rfl⟩
set_option maxRecDepth 100000 in
set_option maxHeartbeats 8000000 in
theorem pmI (t n d r : Int) (w : World) (c : ibase.Mon w) : Calls Tryd.prog 7 #[.int .i64 t, .int .i64 n, .int .i64 d, .int .i64 r] w (GotP w (pm.pmL t n d r) (pm.okB t n d r)) := by
  obtain ⟨P, hP⟩ : ∃ P, P = pm.pmL t n d r := ⟨_, rfl⟩
  obtain ⟨K, hK⟩ : ∃ K, K = pm.okB t n d r := ⟨_, rfl⟩
  rw [← hP, ← hK]
  have HP := Lib.hid hP
  have HK := Lib.hid hK
  clear hP hK
  have NO := Lib.hid (show ¬ pm.Ok t n d r → ∀ w', Below w.heap.size w w' → GotP w P K (.returned (.tuple #[.slice none 0 0, .bool false])) w' from fun h w' hb => by
    rw [HP.out, HK.out, pm.pm_no h, pm.okB_f h]; exact ⟨none, 0, 0, rfl, Row.nil w', fun h => absurd h (by simp), hb⟩)
  have CD := Lib.hid (idue.dueI d n w c)
  clear c
  obtain ⟨zs, hzs⟩ : ∃ zs, zs = mf.dz d n := ⟨_, rfl⟩
  rw [← hzs] at CD
  have HZ := Lib.hid hzs
  clear hzs
  have CR := Lib.hid (rateI r)
  by_cases ht : t < 1 ∨ 1000000000000 < t
  · have HT := Lib.hid ht
    cases t1 : decide (t < 1)
    all_goals
      cases t2 : decide ((1000000000000 : Int) < t)
      all_goals
        first
        | (exfalso; simp at t1 t2; omega)
        | skip
      all_goals
        clear ht
        go_enter Tryd.func7, Tryd.ntmps7
        go_wp2_with fail
        refine CD.out.mono ?_
        rintro e w1 ⟨a0, c0, g0, rfl, r0, G0, b1⟩
        have NN := Lib.hid (NO.out (fun k => by have := HT.out; have := k.t0; have := k.t1; omega) w1 b1)
        clear r0 G0 b1 CD CR
        go_wp2
        go_ret2
        exact NN.out
  · have t0 : 1 ≤ t := by omega
    have t1 : t ≤ 1000000000000 := by omega
    have d1 : decide (t < 1) = false := by simp; omega
    have d2 : decide ((1000000000000 : Int) < t) = false := by simp; omega
    clear ht
    go_enter Tryd.func7, Tryd.ntmps7
    go_wp2_with fail
    refine CD.out.mono ?_
    rintro e w1 ⟨a0, c0, g0, rfl, r0, G0, b1⟩
    have R0 := Lib.hid r0
    have B1 := Lib.hid b1
    have GG0 := Lib.hid G0
    have zl : zs.length ≤ 24 := by rw [HZ.out]; exact mf.dz_len d n
    have rm0 := r0.room
    obtain ⟨nz, hnz⟩ : ∃ nz, nz = zs.length := ⟨_, rfl⟩
    rw [← hnz] at zl rm0 ⊢
    have HNZ := Lib.hid hnz
    clear r0 b1 hnz G0 CD
    cases hr : inR r 0 10000 with
    | false =>
      rw [hr] at CR
      have NN := Lib.hid (NO.out (fun k => by have := pl.inR_not.1 hr; have := k.r0; have := k.r1; omega) w1 B1.out)
      clear hr
      go_wp2_with fail
      refine (CR.out _).mono ?_
      rintro e w' ⟨rfl, rfl⟩
      go_wp2
      go_ret2
      exact NN.out
    | true =>
      rw [hr] at CR
      obtain ⟨r0, r1⟩ := pl.inR_iff.1 hr
      clear hr
      by_cases hz : nz = 0
      · have u0 : ((nz : Int) == 0) = true := by simp [hz]
        have NN := Lib.hid (NO.out (fun k => by
          have := (mf.dz_yes k.dz).1
          rw [← HZ.out, ← HNZ.out] at this
          have := k.n1; omega) w1 B1.out)
        clear hz
        go_wp2_with fail
        refine (CR.out _).mono ?_
        rintro e w' ⟨rfl, rfl⟩
        go_wp2
        go_ret2
        exact NN.out
      · have DZ : mf.Dz d n := mf.dz_pos (by rw [← HZ.out, ← HNZ.out]; omega)
        obtain ⟨N, rfl⟩ := Int.eq_ofNat_of_zero_le (show 0 ≤ n by have := DZ.1; omega)
        obtain ⟨R, rfl⟩ := Int.eq_ofNat_of_zero_le r0
        have N1 : 1 ≤ N := by have := DZ.1; omega
        have N2 : N ≤ 24 := by have := DZ.2.1; omega
        have DY := mf.dz_yes DZ
        rw [← HZ.out, Int.toNat_natCast] at DY
        have en : nz = N := by rw [HNZ.out]; exact DY.1
        have DV := Lib.hid DY.2
        have HDZ := Lib.hid DZ
        clear DY DZ
        subst en
        have u0 : ((nz : Int) == 0) = false := by simp; omega
        have R1 : R ≤ 10000 := by omega
        obtain ⟨p, hp⟩ : ∃ p, p = R * nz := ⟨_, rfl⟩
        have pb : p ≤ 240000 := by rw [hp]; exact Nat.le_trans (Nat.mul_le_mul R1 N2) (by omega)
        have ep : (R : Int) * (nz : Int) = (p : Int) := by rw [hp, Int.natCast_mul]
        have HPP := Lib.hid ep
        clear hp hz r0 r1
        have CM := Lib.hid (fun w0 => md.impl t (p : Int) 120000 w0)
        obtain ⟨J, hJ⟩ : ∃ J, J = md.val t (p : Int) 120000 := ⟨_, rfl⟩
        unfold md.Ans at CM
        rw [← hJ] at CM
        have HJ := Lib.hid hJ
        clear hJ
        go_wp2_with fail
        refine (CR.out _).mono ?_
        rintro e w' ⟨rfl, rfl⟩
        go_wp2_with fail
        refine (CM.out _).mono ?_
        rintro e w2 ⟨rfl, b2⟩
        have B2 := Lib.hid (B1.out.trans (b2.mono B1.out.size))
        have z2 := b2.size
        have R2 := Lib.hid (R0.out.keep (w' := w2) fun h => b2.block g0 (GG0.out h).2)
        clear b2 CM CR ep
        cases hm : md.ok t (p : Int) 120000 with
        | false =>
          have NN := Lib.hid (NO.out (fun k => by have := k.md; rw [HPP.out, hm] at this; cases this) w2 B2.out)
          clear hm
          go_wp2
          go_ret2
          exact NN.out
        | true =>
          have OK := Lib.hid (show pm.Ok t (nz : Int) d (R : Int) from ⟨t0, t1, by omega, by omega, HDZ.out, by rw [HPP.out]; exact hm⟩)
          have JB := pm.intr_bd OK.out
          unfold pm.intr at JB
          rw [HPP.out, ← HJ.out] at JB
          obtain ⟨J0, J1⟩ := JB
          have YP := Lib.hid (HP.out.trans (pm.pm_yes OK.out))
          have YK := Lib.hid (HK.out.trans (pm.okB_t OK.out))
          clear hm
          have wsz2 := B2.out.size
          have gz : g0 < w2.heap.size := by have := (GG0.out (by rw [← HNZ.out]; omega)).2; omega
          have hc1 : (w2.alloc (.cells #[.int .i64 1] 2)).cell? ⟨w2.heap.size, 0, none⟩ = some (.int .i64 1) := gen.box_cell (gen.box_refl w2 _) 0 rfl
          have CP := Lib.hid (rows.repI nz N1 N2 (w2.alloc (.cells #[.int .i64 1] 2)) w2.heap.size hc1)
          clear hc1
          go_wp2_with fail
          refine CP.out.mono ?_
          rintro e wr ⟨g1, rfl, r1, lo1, G1, b3⟩
          have hb3 : Below w2.heap.size w2 wr := gen.below_box (gen.box_step (gen.box_refl w2 _) b3)
          have BB := Lib.hid hb3
          have zr := hb3.size
          have RO := Lib.hid (show rows.Row wr (some ⟨g1, 0, none⟩) nz g1 (pm.ones nz) from r1)
          have RZ := Lib.hid (R2.out.keep (w' := wr) fun h => hb3.block g0 gz)
          have LO := pm.ones_len nz
          clear r1 b3 hb3 CP
          have CS1 := Lib.hid (fun w0 (h : rows.Row w0 (some ⟨g1, 0, none⟩) nz g1 (pm.ones nz)) (k : 0 < (pm.ones nz).length → g1 < w0.heap.size) => shr.impl w0 (some ⟨g1, 0, none⟩) nz g1 t (pm.ones nz) h k (by rw [pm.ones_len]; omega))
          have CS2 := Lib.hid (fun w0 (h : rows.Row w0 (some ⟨g1, 0, none⟩) nz g1 (pm.ones nz)) (k : 0 < (pm.ones nz).length → g1 < w0.heap.size) => shr.impl w0 (some ⟨g1, 0, none⟩) nz g1 J (pm.ones nz) h k (by rw [pm.ones_len]; omega))
          rw [LO] at CS1 CS2
          go_wp2_with fail
          refine (CS1.out wr RO.out (fun _ => G1)).mono ?_
          rintro e w4 ⟨ap, cp, gp, lp, rfl, rp, Gp, b4, hp⟩
          have z4 := b4.size
          obtain ⟨pl1, pv1⟩ := pm.sv_of (by omega) t1 N1 (by omega) hp
          rw [pl1]
          rw [pl1] at Gp
          have gp4 : gp < w4.heap.size := (Gp (by omega)).2
          have RP := Lib.hid rp
          have PV1 := Lib.hid pv1
          have RO4 := Lib.hid (RO.out.keep (w' := w4) fun _ => b4.block g1 G1)
          have RZ4 := Lib.hid (RZ.out.keep (w' := w4) fun _ => b4.block g0 (by omega))
          have B4 := Lib.hid ((B2.out.trans (BB.out.mono wsz2)).trans (b4.mono (by omega)))
          have PL1 := Lib.hid pl1
          clear rp pv1 hp Gp b4 pl1 RO RZ BB
          go_wp2_with fail
          refine (CS2.out w4 RO4.out (fun _ => by omega)).mono ?_
          rintro e w5 ⟨aq, cq, gq, lq, rfl, rq, Gq, b5, hq⟩
          have z5 := b5.size
          obtain ⟨pl2, pv2⟩ := pm.sv_of J0 J1 N1 (by omega) hq
          rw [pl2]
          rw [pl2] at Gq
          have gq5 : gq < w5.heap.size := (Gq (by omega)).2
          have RQ := Lib.hid rq
          have PV2 := Lib.hid pv2
          have RP5 := Lib.hid (RP.out.keep (w' := w5) fun h => b5.block gp gp4)
          have RZ5 := Lib.hid (RZ4.out.keep (w' := w5) fun _ => b5.block g0 (by omega))
          have B5 := Lib.hid (B4.out.trans (b5.mono B4.out.size))
          have PL2 := Lib.hid pl2
          have wsz5 := B5.out.size
          clear rq pv2 hq Gq b5 pl2 RO4 RP RZ4 B4 CS1 CS2
          have e0 := RZ5.out.addr (by rw [← HNZ.out]; omega)
          have e1 := RP5.out.addr (by rw [PL1.out]; omega)
          have e2 := RQ.out.addr (by rw [PL2.out]; omega)
          have rm1 := RP5.out.room
          have rm2 := RQ.out.room
          rw [PL1.out] at rm1
          rw [PL2.out] at rm2
          subst e0 e1 e2
          have gz5 : g0 < w5.heap.size := by omega
          have gp5 : gp < w5.heap.size := by omega
          obtain ⟨i0, hi, hz0, hz1, hz2⟩ := info_parts seven.infoE
          go_wp2_with (at_make; refine wpList_make_full _ rfl _ _ 22 rfl w5.heap.size 35 i0 (.agg #[.int .i64 0, .int .i64 0, .int .i64 0, .int .i64 0, .int .i64 0, .int .i64 0, .int .i64 0]) 7 Tryd.underlying22 hi hz0 hz1 _ _ _ _ nz rfl rfl rfl rfl ?b2 ?b3 (Nat.le_refl _) ?_)
          case b2 => (try rw [hz2]); omega
          case b3 => unfold maxLen; omega
          intro w6 hown0 hgrow0
          obtain ⟨⟨A0, hA0, _⟩, hg0, _⟩ := gen.Blk.of_owns hown0
          have BL0 := Lib.hid hA0
          have B6 := Lib.hid ((Below.refl w5.heap.size w5).grown hgrow0 (Nat.le_refl _) (fun k h => by cases h))
          clear hown0 hgrow0 hA0 hg0 hi hz0 hz1 hz2
          have PQ := Lib.hid (pm.parts_len t (nz : Int) d (R : Int) nz)
          go_wp2
          go_loopw [62] (fun vi wr => Below w5.heap.size w5 wr ∧ ∃ (k : Nat) (A : Nat → Value), k ≤ nz ∧ vi = .int .i64 k ∧ gen.Blk wr w5.heap.size (nz * 7) A ∧ seven.Holds A k (pm.parts t (nz : Int) d (R : Int) nz)) (fun vi _ => nz - (intOf vi).toNat)
          case atStart => exact ⟨B6.out, 0, A0, by omega, rfl, BL0.out, fun j h => by omega⟩
          case round =>
            obtain ⟨hB, k, A, hk, rfl, hA, hd⟩ := hrel
            have BB := Lib.hid hB
            have AA := Lib.hid hA
            have DD := Lib.hid hd
            have hsz := hB.size
            clear hA hd
            by_cases hlt : k < nz
            · have u1 : decide (k < nz) = true := by simp; omega
              have z1 : (k : Int) < (nz : Int) := by omega
              have q1 := (hB.cell (p := ⟨g0, k, none⟩) gz5).trans (RZ5.out.cells k (by rw [← HNZ.out]; omega))
              have q2 := (hB.cell (p := ⟨gp, k, none⟩) gp5).trans (RP5.out.cells k (by rw [PL1.out]; omega))
              have q3 := (hB.cell (p := ⟨gq, k, none⟩) gq5).trans (RQ.out.cells k (by rw [PL2.out]; omega))
              rw [DV.out k hlt] at q1
              rw [PV1.out k hlt] at q2
              rw [PV2.out k hlt] at q3
              have XE := Lib.hid (show pm.part t (nz : Int) d (R : Int) k = (mf.mf d ((k : Int) + 1), pm.sv t nz k, pm.sv J nz k, 0, 0, 0, 0) from by
                unfold pm.part pm.intr; rw [HPP.out, ← HJ.out, Int.toNat_natCast])
              obtain ⟨x1, hx1⟩ : ∃ x1, x1 = mf.mf d ((k : Int) + 1) := ⟨_, rfl⟩
              obtain ⟨x2, hx2⟩ : ∃ x2, x2 = pm.sv t nz k := ⟨_, rfl⟩
              obtain ⟨x3, hx3⟩ : ∃ x3, x3 = pm.sv J nz k := ⟨_, rfl⟩
              rw [← hx1] at q1 XE
              rw [← hx2] at q2 XE
              rw [← hx3] at q3 XE
              have y0 := AA.out.cell (k * 7) (by omega)
              have y1 := AA.out.cell (k * 7 + 1) (by omega)
              have y2 := AA.out.cell (k * 7 + 2) (by omega)
              have y3 := AA.out.cell (k * 7 + 3) (by omega)
              have y4 := AA.out.cell (k * 7 + 4) (by omega)
              have y5 := AA.out.cell (k * 7 + 5) (by omega)
              have y6 := AA.out.cell (k * 7 + 6) (by omega)
              have f0 := AA.out.free (k * 7)
              have f1 := AA.out.free (k * 7 + 1)
              have f2 := AA.out.free (k * 7 + 2)
              have f3 := AA.out.free (k * 7 + 3)
              have f4 := AA.out.free (k * 7 + 4)
              have f5 := AA.out.free (k * 7 + 5)
              have f6 := AA.out.free (k * 7 + 6)
              clear hx1 hx2 hx3 hB y0 y1 y2 y3 y4 y5 y6 f0 f1 f2 f3 f4 f5 f6
              have Q1 := Lib.hid q1
              have Q2 := Lib.hid q2
              have Q3 := Lib.hid q3
              go_wp2
              go_still_tail 15, (by kernel_rfl)
              change wpList _ _ _ _ _ wr.drew
              generalize hw2 : wr.drew = w2
              have T : w2.heap = wr.heap := by rw [← hw2]; rfl
              have A2 := Lib.hid (AA.out.keep (w' := w2) (by rw [T]) (by rw [T]; exact Nat.le_refl _))
              have B2 := Lib.hid (show Below w5.heap.size w5 w2 from hw2 ▸ BB.out.drew)
              clear q1 q2 q3
              have q1 : w2.cell? ⟨g0, k, none⟩ = some (.int .i64 x1) := by rw [← hw2]; exact Q1.out
              have q2 : w2.cell? ⟨gp, k, none⟩ = some (.int .i64 x2) := by rw [← hw2]; exact Q2.out
              have q3 : w2.cell? ⟨gq, k, none⟩ = some (.int .i64 x3) := by rw [← hw2]; exact Q3.out
              have y0 := A2.out.cell (k * 7) (by omega)
              have y1 := A2.out.cell (k * 7 + 1) (by omega)
              have y2 := A2.out.cell (k * 7 + 2) (by omega)
              have y3 := A2.out.cell (k * 7 + 3) (by omega)
              have y4 := A2.out.cell (k * 7 + 4) (by omega)
              have y5 := A2.out.cell (k * 7 + 5) (by omega)
              have y6 := A2.out.cell (k * 7 + 6) (by omega)
              have f0 := A2.out.free (k * 7)
              have f1 := A2.out.free (k * 7 + 1)
              have f2 := A2.out.free (k * 7 + 2)
              have f3 := A2.out.free (k * 7 + 3)
              have f4 := A2.out.free (k * 7 + 4)
              have f5 := A2.out.free (k * 7 + 5)
              have f6 := A2.out.free (k * 7 + 6)
              clear hw2 T
              go_wp2
              go_roundw
              case rel =>
                exact ⟨seven.below_wN B2.out (Nat.le_refl _) _ (x1, x2, x3, 0, 0, 0, 0), k + 1, _, by omega, by go_num, seven.put A2.out hlt (x1, x2, x3, 0, 0, 0, 0), DD.out.put (by rw [pm.parts_get hlt, XE.out])⟩
              case measure => simp [intOf]; omega
            · have u1 : decide (k < nz) = false := by simp; omega
              obtain rfl : k = nz := by omega
              clear hB
              have LP : P.length = k := by rw [YP.out, pm.parts_len, Int.toNat_natCast]
              go_wp2
              go_ret2
              refine ⟨_, k, w5.heap.size, by rw [YK.out, LP]; rfl, ?_, fun _ => ⟨by omega, AA.out.lt⟩, B5.out.trans (BB.out.mono wsz5)⟩
              have := seven.row AA.out PQ.out (Nat.le_refl _) DD.out
              rw [YP.out, Int.toNat_natCast]; exact this
end Go.Proofs.YtchpjojndkkmeaaDoor.base
