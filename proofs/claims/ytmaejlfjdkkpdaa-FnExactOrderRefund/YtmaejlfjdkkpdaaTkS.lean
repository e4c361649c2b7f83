/-
  Plain helpers of this seat's proofs: the model's taking from an order. Conditions: none.
-/
import Derived.Test.YtmaejlfjdkkpdaaPy
import Derived.Test.YtmaejlfjdkkpdaaPkS
import Derived.Test.YtmaejlfjdkkpdaaRw7
import Derived.Test.YtmaejlfjdkkpdaaOut
import Derived.Test.YtmaejlfjdkkpdaaDm
import Derived.Test.YtmaejlfjdkkpdaaRs6
import Derived.Test.YtmaejlfjdkkpdaaCs6
import Derived.Test.YtmaejlfjdkkpdaaPlSt
import Derived.Test.YtmaejlfjdkkpdaaBxs
import Derived.StillTailTactics
namespace Go.Proofs.Ytmaejlfjdkkpdaa.base
open Go.ChangeShapes Go.WideShapes Go.ChangeAt Go.RowKit
open seven (F7 zz Row At)
open pl (inR prOk pok)
open gen
theorem fmS (m : Int) (w : World) (cap g : Nat) (l : List F7) (r : Row w (some ⟨g, 0, none⟩) cap g l) (hn : l.length ≤ 1048577) : Calls Try.prog 98 #[.slice (some ⟨g, 0, none⟩) l.length cap, .int .i64 m] w fun e w' => e = .returned (.bool (pyOk l m)) ∧ Below w.heap.size w w' := by
  unfold pyOk
  have C := pkS w (some ⟨g, 0, none⟩) cap g l r hn
  have CI := inB m 0 1000000000000
  clear r hn
  generalize l.length = n at C ⊢
  generalize pl.pv l = p at C ⊢
  generalize inR m 0 1000000000000 = t at CI ⊢
  cases p with
  | false =>
    go_enter Try.func98, Try.ntmps98
    go_wp2_with fail
    refine C.mono ?_
    rintro e w1 ⟨rfl, b1⟩
    have B1 := Lib.hid b1
    clear b1
    go_wp2
    go_ret
    exact ⟨rfl, B1.out⟩
  | true =>
    cases t
    all_goals
      go_enter Try.func98, Try.ntmps98
      go_wp2_with fail
      refine C.mono ?_
      rintro e w1 ⟨rfl, b1⟩
      have B1 := Lib.hid b1
      clear b1
      go_wp2_with fail
      refine (CI _).mono ?_
      rintro e w' ⟨rfl, rfl⟩
      go_wp2
      go_ret
      exact ⟨rfl, B1.out⟩
end Go.Proofs.Ytmaejlfjdkkpdaa.base

namespace Go.Proofs.Ytmaejlfjdkkpdaa.base
open Go.ChangeShapes Go.WideShapes Go.ChangeAt Go.RowKit
open seven (F7 zz Row At)
open pl (inR prOk pok)
open gen
set_option maxRecDepth 40000 in
set_option maxHeartbeats 4000000 in
theorem ctS (m : Int) (w : World) (cap g : Nat) (l : List F7) (r : Row w (some ⟨g, 0, none⟩) cap g l) (hn : l.length ≤ 1048577) : Calls Try.prog 104 #[.slice (some ⟨g, 0, none⟩) l.length cap, .int .i64 m] w (Out w (pyOk l m) (bkL pl.cut l m) (bkN pl.cut l m)) := by
  obtain ⟨P, hP⟩ : ∃ P, P = bkL pl.cut l m := ⟨_, rfl⟩
  obtain ⟨M, hM⟩ : ∃ M, M = bkN pl.cut l m := ⟨_, rfl⟩
  rw [← hP, ← hM]
  have HP := Lib.hid hP
  have HM := Lib.hid hM
  clear hP hM
  have GL := Lib.hid (fun h : 0 < l.length => r.lt h)
  have C := Lib.hid (fmS m w cap g l r hn)
  have R := Lib.hid r
  have CP := Lib.hid (fun w1 (h : Row w1 (some ⟨g, 0, none⟩) cap g l) => seven.cpS w1 g cap l h hn)
  clear r
  obtain ⟨n, hnz⟩ : ∃ n, n = l.length := ⟨_, rfl⟩
  rw [← hnz] at hn C CP ⊢
  have HNZ := Lib.hid hnz
  clear hnz
  go_enter Try.func104, Try.ntmps104
  go_wp2_with fail
  refine C.out.mono ?_
  rintro e w1 ⟨rfl, b1⟩
  have BN := Lib.hid b1
  have R1 := Lib.hid (R.out.keep (w' := w1) fun h => b1.block g (GL.out h))
  clear b1 R C
  cases hv : pyOk l m with
  | false =>
    have NOK := Lib.hid (show pyOk l m = false from hv)
    have NOL := Lib.hid (HP.out.trans (bk_no hv).1)
    have NON := Lib.hid (HM.out.trans (bk_no hv).2)
    clear hv
    go_wp2
    go_ret2
    exact out_no NOK.out NOL.out NON.out BN.out
  | true =>
    have YP := Lib.hid (HP.out.trans (bk_yes hv).1)
    have YM := Lib.hid (HM.out.trans (bk_yes hv).2)
    have hb : pl.PV l ∧ 0 ≤ m ∧ m ≤ 1000000000000 := by
      unfold pyOk at hv
      rw [Bool.and_eq_true, pl.inR_iff] at hv
      exact ⟨pl.pv_iff.1 hv.1, hv.2⟩
    obtain ⟨hpv, m0, m1⟩ := hb
    have PVH := Lib.hid hpv
    clear hv hpv
    have hn24 : n ≤ 24 := by rw [HNZ.out]; exact PVH.out.1
    have SB := Lib.hid (fun k hk => bs_b (f := pl.cut) (fun x m hx hm => cut_b hx hm) (l := l) (fun i hi => PVH.out.pin (i := i) hi) m0 (k := k) hk)
    go_wp2_with fail
    refine (CP.out w1 R1.out).mono ?_
    rintro e w2 ⟨v, rfl, c2, g2, hv2, r2, l2, k2, b2⟩
    rw [← HNZ.out] at hv2
    subst hv2
    have B2 := Lib.hid (BN.out.trans (b2.mono BN.out.size))
    have R2 := Lib.hid r2
    have G2 := Lib.hid (show w.heap.size ≤ g2 from Nat.le_trans BN.out.size l2)
    clear r2 b2 l2
    go_wp2
    go_loopw [1, 7] (fun sv iv wr => Below w.heap.size w wr ∧ g2 < wr.heap.size ∧ ∃ k : Nat, k ≤ n ∧ iv = .int .i64 ((k : Int) - 1) ∧ sv = .int .i64 (pl.bs pl.cut m l k) ∧ Row wr (some ⟨g2, 0, none⟩) c2 g2 (pl.bw pl.cut m l k)) (fun _ iv _ => (intOf iv + 1).toNat)
    case atStart => exact ⟨B2.out, k2, n, by omega, by go_num, by rw [HNZ.out, pl.bs_all], by rw [HNZ.out, pl.bw_all]; exact R2.out⟩
    case round =>
      obtain ⟨hB, hg2, k, hk, rfl, rfl, hR⟩ := hrel
      have BB := Lib.hid hB
      have RR := Lib.hid hR
      have m2 := R2.out.room
      rw [← HNZ.out] at m2
      clear hB
      cases k with
      | zero =>
        have YP' := Lib.hid (show P = pl.bw pl.cut m l 0 from YP.out)
        have YM' := Lib.hid (show M = pl.bs pl.cut m l 0 from YM.out)
        clear hR
        go_wp2
        go_ret2
        rw [← YM'.out]
        exact out_yes (by rw [YP'.out, pl.bw_len, HNZ.out]) (by rw [YP'.out]; exact RR.out) G2.out hg2 BB.out
      | succ j =>
        have ej : (((j + 1 : Nat) : Int) - 1) = (j : Int) := by omega
        rw [ej]
        clear ej
        have sB := SB.out (j + 1) (by rw [← HNZ.out]; exact hk)
        obtain ⟨s0, s1⟩ := sB
        have HLT := Lib.hid (show j < l.length from by rw [← HNZ.out]; exact hk)
        have FS := Lib.hid (pl.bs_succ pl.cut m HLT.out)
        have FW := Lib.hid (pl.bw_succ pl.cut m HLT.out)
        have FG := Lib.hid (pl.bw_get pl.cut m HLT.out)
        have FL := Lib.hid (show j < (pl.bw pl.cut m l (j + 1)).length from by rw [pl.bw_len]; exact HLT.out)
        have q1 := hR.cells j FL.out
        have fz := hR.free (Nat.lt_of_le_of_lt (Nat.zero_le _) FL.out)
        rw [FG.out] at q1
        obtain ⟨x, hx⟩ : ∃ x, x = l.getD j zz := ⟨_, rfl⟩
        have PX := PVH.out.pin HLT.out
        rw [← hx] at q1 FS FW FG PX
        obtain ⟨S, hS⟩ : ∃ S, S = pl.bs pl.cut m l (j + 1) := ⟨_, rfl⟩
        rw [← hS] at FS FW s0 s1 ⊢
        obtain ⟨L, hL⟩ : ∃ L, L = pl.bw pl.cut m l (j + 1) := ⟨_, rfl⟩
        rw [← hL] at FW FG RR FL
        have p0 := PX.p0; have p1 := PX.p1; have a0 := PX.q0; have a1 := PX.q1
        clear hx hS hL hR PX
        have z0 : (0 : Int) ≤ (j : Int) := by omega
        have z1 : (j : Int) < (n : Int) := by omega
        have mixed : Try.prog.follows .mixedOrders = true := Try.checked.mixed
        obtain ⟨x1, x2, x3, x4, x5, x6, x7⟩ := q1
        have f1 := fz (j * 7 + 1)
        go_wp2_with fail
        go_still_tail 12, (by kernel_rfl)
        have E := Lib.hid (show (if x.2.1 - x.2.2.2.2.1 < S then x.2.1 - x.2.2.2.2.1 else S) = min S (x.2.1 - x.2.2.2.2.1) from by split <;> omega)
        go_wp2
        go_roundw
        case rel =>
          rw [E.out]
          refine ⟨(BB.out.setCell (p := ⟨g2, j * 7 + 1, none⟩) G2.out _).drew, by show g2 < (wr.setCell _ _).heap.size; simp [World.setCell]; exact hg2, j, by omega, rfl, by rw [FS.out]; rfl, ?_⟩
          rw [FW.out]
          exact (seven.rowSet1 RR.out FL.out FG.out (x.2.1 - min S (x.2.1 - x.2.2.2.2.1))).keep fun _ => rfl
        case measure => simp [intOf]
end Go.Proofs.Ytmaejlfjdkkpdaa.base

namespace Go.Proofs.Ytmaejlfjdkkpdaa.base
open Go.ChangeShapes Go.WideShapes Go.ChangeAt Go.RowKit
open seven (F7 zz Row At)
open pl (inR prOk pok)
open gen
set_option maxRecDepth 40000 in
set_option maxHeartbeats 4000000 in
theorem bkS (m : Int) (w : World) (cap g : Nat) (l : List F7) (r : Row w (some ⟨g, 0, none⟩) cap g l) (hn : l.length ≤ 1048577) : Calls Try.prog 105 #[.slice (some ⟨g, 0, none⟩) l.length cap, .int .i64 m] w (Out w (pyOk l m) (bkL pl.back l m) (bkN pl.back l m)) := by
  obtain ⟨P, hP⟩ : ∃ P, P = bkL pl.back l m := ⟨_, rfl⟩
  obtain ⟨M, hM⟩ : ∃ M, M = bkN pl.back l m := ⟨_, rfl⟩
  rw [← hP, ← hM]
  have HP := Lib.hid hP
  have HM := Lib.hid hM
  clear hP hM
  have GL := Lib.hid (fun h : 0 < l.length => r.lt h)
  have C := Lib.hid (fmS m w cap g l r hn)
  have R := Lib.hid r
  have CP := Lib.hid (fun w1 (h : Row w1 (some ⟨g, 0, none⟩) cap g l) => seven.cpS w1 g cap l h hn)
  clear r
  obtain ⟨n, hnz⟩ : ∃ n, n = l.length := ⟨_, rfl⟩
  rw [← hnz] at hn C CP ⊢
  have HNZ := Lib.hid hnz
  clear hnz
  go_enter Try.func105, Try.ntmps105
  go_wp2_with fail
  refine C.out.mono ?_
  rintro e w1 ⟨rfl, b1⟩
  have BN := Lib.hid b1
  have R1 := Lib.hid (R.out.keep (w' := w1) fun h => b1.block g (GL.out h))
  clear b1 R C
  cases hv : pyOk l m with
  | false =>
    have NOK := Lib.hid (show pyOk l m = false from hv)
    have NOL := Lib.hid (HP.out.trans (bk_no hv).1)
    have NON := Lib.hid (HM.out.trans (bk_no hv).2)
    clear hv
    go_wp2
    go_ret2
    exact out_no NOK.out NOL.out NON.out BN.out
  | true =>
    have YP := Lib.hid (HP.out.trans (bk_yes hv).1)
    have YM := Lib.hid (HM.out.trans (bk_yes hv).2)
    have hb : pl.PV l ∧ 0 ≤ m ∧ m ≤ 1000000000000 := by
      unfold pyOk at hv
      rw [Bool.and_eq_true, pl.inR_iff] at hv
      exact ⟨pl.pv_iff.1 hv.1, hv.2⟩
    obtain ⟨hpv, m0, m1⟩ := hb
    have PVH := Lib.hid hpv
    clear hv hpv
    have hn24 : n ≤ 24 := by rw [HNZ.out]; exact PVH.out.1
    have SB := Lib.hid (fun k hk => bs_b (f := pl.back) (fun x m hx hm => back_b hx hm) (l := l) (fun i hi => PVH.out.pin (i := i) hi) m0 (k := k) hk)
    go_wp2_with fail
    refine (CP.out w1 R1.out).mono ?_
    rintro e w2 ⟨v, rfl, c2, g2, hv2, r2, l2, k2, b2⟩
    rw [← HNZ.out] at hv2
    subst hv2
    have B2 := Lib.hid (BN.out.trans (b2.mono BN.out.size))
    have R2 := Lib.hid r2
    have G2 := Lib.hid (show w.heap.size ≤ g2 from Nat.le_trans BN.out.size l2)
    clear r2 b2 l2
    go_wp2
    go_loopw [1, 7] (fun sv iv wr => Below w.heap.size w wr ∧ g2 < wr.heap.size ∧ ∃ k : Nat, k ≤ n ∧ iv = .int .i64 ((k : Int) - 1) ∧ sv = .int .i64 (pl.bs pl.back m l k) ∧ Row wr (some ⟨g2, 0, none⟩) c2 g2 (pl.bw pl.back m l k)) (fun _ iv _ => (intOf iv + 1).toNat)
    case atStart => exact ⟨B2.out, k2, n, by omega, by go_num, by rw [HNZ.out, pl.bs_all], by rw [HNZ.out, pl.bw_all]; exact R2.out⟩
    case round =>
      obtain ⟨hB, hg2, k, hk, rfl, rfl, hR⟩ := hrel
      have BB := Lib.hid hB
      have RR := Lib.hid hR
      have m2 := R2.out.room
      rw [← HNZ.out] at m2
      clear hB
      cases k with
      | zero =>
        have YP' := Lib.hid (show P = pl.bw pl.back m l 0 from YP.out)
        have YM' := Lib.hid (show M = pl.bs pl.back m l 0 from YM.out)
        clear hR
        go_wp2
        go_ret2
        rw [← YM'.out]
        exact out_yes (by rw [YP'.out, pl.bw_len, HNZ.out]) (by rw [YP'.out]; exact RR.out) G2.out hg2 BB.out
      | succ j =>
        have ej : (((j + 1 : Nat) : Int) - 1) = (j : Int) := by omega
        rw [ej]
        clear ej
        have sB := SB.out (j + 1) (by rw [← HNZ.out]; exact hk)
        obtain ⟨s0, s1⟩ := sB
        have HLT := Lib.hid (show j < l.length from by rw [← HNZ.out]; exact hk)
        have FS := Lib.hid (pl.bs_succ pl.back m HLT.out)
        have FW := Lib.hid (pl.bw_succ pl.back m HLT.out)
        have FG := Lib.hid (pl.bw_get pl.back m HLT.out)
        have FL := Lib.hid (show j < (pl.bw pl.back m l (j + 1)).length from by rw [pl.bw_len]; exact HLT.out)
        have q1 := hR.cells j FL.out
        have fz := hR.free (Nat.lt_of_le_of_lt (Nat.zero_le _) FL.out)
        rw [FG.out] at q1
        obtain ⟨x, hx⟩ : ∃ x, x = l.getD j zz := ⟨_, rfl⟩
        have PX := PVH.out.pin HLT.out
        rw [← hx] at q1 FS FW FG PX
        obtain ⟨S, hS⟩ : ∃ S, S = pl.bs pl.back m l (j + 1) := ⟨_, rfl⟩
        rw [← hS] at FS FW s0 s1 ⊢
        obtain ⟨L, hL⟩ : ∃ L, L = pl.bw pl.back m l (j + 1) := ⟨_, rfl⟩
        rw [← hL] at FW FG RR FL
        have p0 := PX.p0; have p1 := PX.p1; have a0 := PX.q0; have a1 := PX.q1
        clear hx hS hL hR PX
        have z0 : (0 : Int) ≤ (j : Int) := by omega
        have z1 : (j : Int) < (n : Int) := by omega
        have mixed : Try.prog.follows .mixedOrders = true := Try.checked.mixed
        obtain ⟨x1, x2, x3, x4, x5, x6, x7⟩ := q1
        have f1 := fz (j * 7 + 1)
        have f4 := fz (j * 7 + 4)
        have E := Lib.hid (show (if x.2.2.2.2.1 < S then x.2.2.2.2.1 else S) = min S x.2.2.2.2.1 from by split <;> omega)
        go_wp2
        go_roundw
        case rel =>
          rw [E.out]
          refine ⟨(BB.out.setCell (p := ⟨g2, j * 7 + 1, none⟩) G2.out _).setCell (p := ⟨g2, j * 7 + 4, none⟩) G2.out _, by simp [World.setCell]; exact hg2, j, by omega, rfl, by rw [FS.out]; rfl, ?_⟩
          rw [FW.out]
          have r1 := seven.rowSet1 RR.out FL.out FG.out (x.2.1 - min S x.2.2.2.2.1)
          have r2 := seven.rowSet4 r1 (by simpa using FL.out) (seven.getD_set_same FL.out _) (x.2.2.2.2.1 - min S x.2.2.2.2.1)
          rw [List.set_set] at r2
          exact r2
        case measure => simp [intOf]
end Go.Proofs.Ytmaejlfjdkkpdaa.base

namespace Go.Proofs.Ytmaejlfjdkkpdaa.ob
open Go.ChangeShapes Go.WideShapes Go.ChangeAt Go.RowKit
open gen
open seven (F7 zz Row At)
open four (F4)
open pl (inR)
open pls (nth Pls OL NewO)
open ord (Sc iok)
set_option maxRecDepth 100000 in
set_option maxHeartbeats 8000000 in
theorem takS (m : Int) (w : World) (B : Nat) (s : Sc) (ci gi : Nat) (l : List F4) (cp gp : Nat) (p : List (List F7)) (gs cs : Nat → Nat) (h : OL w B l p (some ⟨gi, 0, none⟩) ci gi (some ⟨gp, 0, none⟩) cp gp gs cs) (hl : l.length ≤ 1048576) (hn : p.length ≤ 1048576) (hm : ∀ i, i < p.length → (nth p i).length ≤ 1048576) (p8 : p.length ≤ 8) (pv : ord.PVs p) (hm0 : 0 ≤ m) (hm1 : m ≤ 1000000000000) :
    Calls Try.prog 71 #[.agg #[.int .i64 s.id, .int .i64 s.co, .int .i64 s.me, .int .i64 s.cu, .int .i64 s.da, .int .i64 s.nn, .int .i64 s.ra, .int .i64 s.nu, .int .i64 s.de, .slice (some ⟨gi, 0, none⟩) l.length ci, .slice (some ⟨gp, 0, none⟩) p.length cp, .int .i64 s.op, .int .i64 s.up], .int .i64 m] w fun e w' => ∃ v, e = .returned (.tuple #[v, .int .i64 (tkN p m)]) ∧ NewO w s l (tkL p m) v w' := by
  have b0 : Below w.heap.size w ((w.alloc (.cells #[.int .i64 s.id, .int .i64 s.co, .int .i64 s.me, .int .i64 s.cu, .int .i64 s.da, .int .i64 s.nn, .int .i64 s.ra, .int .i64 s.nu, .int .i64 s.de, .slice (some ⟨gi, 0, none⟩) l.length ci, .slice (some ⟨gp, 0, none⟩) p.length cp, .int .i64 s.op, .int .i64 s.up] 31)).alloc (.cells #[.int .i64 0, .int .i64 0, .int .i64 0, .int .i64 0, .int .i64 0, .int .i64 0, .int .i64 0, .int .i64 0, .int .i64 0, .slice none 0 0, .slice none 0 0, .int .i64 0, .int .i64 0] 31)) := bAl (bAl (Below.refl _ _) (Nat.le_refl _) _) (Nat.le_refl _) _
  have B0 := Lib.hid b0
  have O0 := Lib.hid ((OB.new w s (some ⟨gi, 0, none⟩) l.length ci (some ⟨gp, 0, none⟩) p.length cp 31).keep (w' := (w.alloc (.cells #[.int .i64 s.id, .int .i64 s.co, .int .i64 s.me, .int .i64 s.cu, .int .i64 s.da, .int .i64 s.nn, .int .i64 s.ra, .int .i64 s.nu, .int .i64 s.de, .slice (some ⟨gi, 0, none⟩) l.length ci, .slice (some ⟨gp, 0, none⟩) p.length cp, .int .i64 s.op, .int .i64 s.up] 31)).alloc (.cells #[.int .i64 0, .int .i64 0, .int .i64 0, .int .i64 0, .int .i64 0, .int .i64 0, .int .i64 0, .int .i64 0, .int .i64 0, .slice none 0 0, .slice none 0 0, .int .i64 0, .int .i64 0] 31)) (Below.heap_alloc _ _ _ (by simp)))
  have X0 := Blk.new (w.alloc (.cells #[.int .i64 s.id, .int .i64 s.co, .int .i64 s.me, .int .i64 s.cu, .int .i64 s.da, .int .i64 s.nn, .int .i64 s.ra, .int .i64 s.nu, .int .i64 s.de, .slice (some ⟨gi, 0, none⟩) l.length ci, .slice (some ⟨gp, 0, none⟩) p.length cp, .int .i64 s.op, .int .i64 s.up] 31)) #[.int .i64 0, .int .i64 0, .int .i64 0, .int .i64 0, .int .i64 0, .int .i64 0, .int .i64 0, .int .i64 0, .int .i64 0, .slice none 0 0, .slice none 0 0, .int .i64 0, .int .i64 0] 31 13 rfl
  have z0 : ((w.alloc (.cells #[.int .i64 s.id, .int .i64 s.co, .int .i64 s.me, .int .i64 s.cu, .int .i64 s.da, .int .i64 s.nn, .int .i64 s.ra, .int .i64 s.nu, .int .i64 s.de, .slice (some ⟨gi, 0, none⟩) l.length ci, .slice (some ⟨gp, 0, none⟩) p.length cp, .int .i64 s.op, .int .i64 s.up] 31)).alloc (.cells #[.int .i64 0, .int .i64 0, .int .i64 0, .int .i64 0, .int .i64 0, .int .i64 0, .int .i64 0, .int .i64 0, .int .i64 0, .slice none 0 0, .slice none 0 0, .int .i64 0, .int .i64 0] 31)).heap.size = w.heap.size + 1 + 1 := by simp only [sz_al]
  simp only [sz_al] at X0
  have X0 := Lib.hid X0
  have hm' : ∀ i, i < p.length → (nth p i).length ≤ 1048577 := fun i hi => Nat.le_trans (hm i hi) (by omega)
  have CC := copS ((w.alloc (.cells #[.int .i64 s.id, .int .i64 s.co, .int .i64 s.me, .int .i64 s.cu, .int .i64 s.da, .int .i64 s.nn, .int .i64 s.ra, .int .i64 s.nu, .int .i64 s.de, .slice (some ⟨gi, 0, none⟩) l.length ci, .slice (some ⟨gp, 0, none⟩) p.length cp, .int .i64 s.op, .int .i64 s.up] 31)).alloc (.cells #[.int .i64 0, .int .i64 0, .int .i64 0, .int .i64 0, .int .i64 0, .int .i64 0, .int .i64 0, .int .i64 0, .int .i64 0, .slice none 0 0, .slice none 0 0, .int .i64 0, .int .i64 0] 31)) B s ci gi l cp gp p gs cs (h.below b0) hl hn hm'
  have PV1 := Lib.hid pv
  obtain ⟨n0, n1⟩ := dN_in gd_cut hm0 hm1 pv
  have SB1 := Lib.hid (fun k (hk : k ≤ p.length) => dk_bs gd_cut hm0 hm1 pv (p.length - k) k (by omega))
  have PV2 := Lib.hid (PVs_cut pv hm0 hm1)
  have SB2 := Lib.hid (fun k (hk : k ≤ (dL pl.cut p m).length) => dk_bs gd_back n0 (by omega) PV2.out ((dL pl.cut p m).length - k) k (by omega))
  have N01 := Lib.hid (show 0 ≤ dN pl.cut p m ∧ dN pl.cut p m ≤ m from ⟨n0, n1⟩)
  clear h hm hm' b0 pv n0 n1
  go_enter Try.func71, Try.ntmps71
  go_wp2_with fail
  generalize (w.alloc (.cells #[.int .i64 s.id, .int .i64 s.co, .int .i64 s.me, .int .i64 s.cu, .int .i64 s.da, .int .i64 s.nn, .int .i64 s.ra, .int .i64 s.nu, .int .i64 s.de, .slice (some ⟨gi, 0, none⟩) l.length ci, .slice (some ⟨gp, 0, none⟩) p.length cp, .int .i64 s.op, .int .i64 s.up] 31)).alloc (.cells #[.int .i64 0, .int .i64 0, .int .i64 0, .int .i64 0, .int .i64 0, .int .i64 0, .int .i64 0, .int .i64 0, .int .i64 0, .slice none 0 0, .slice none 0 0, .int .i64 0, .int .i64 0] 31) = w1 at B0 O0 X0 z0 CC ⊢
  refine CC.mono ?_
  rintro e w2 ⟨v, rfl, ci', gi', cp', gp', gs', cs', rfl, ol, a1, a2, a3, a4, ne, b2⟩
  have B2 := Lib.hid ((B0.out.trans (b2.mono B0.out.size)).alloc (B0.out.trans (b2.mono B0.out.size)).size (.cells #[.int .i64 s.id, .int .i64 s.co, .int .i64 s.me, .int .i64 s.cu, .int .i64 s.da, .int .i64 s.nn, .int .i64 s.ra, .int .i64 s.nu, .int .i64 s.de, .slice (some ⟨gi', 0, none⟩) l.length ci', .slice (some ⟨gp', 0, none⟩) p.length cp', .int .i64 s.op, .int .i64 s.up] 31))
  have al := fun c hc => Below.heap_alloc w2 (.cells #[.int .i64 s.id, .int .i64 s.co, .int .i64 s.me, .int .i64 s.cu, .int .i64 s.da, .int .i64 s.nn, .int .i64 s.ra, .int .i64 s.nu, .int .i64 s.de, .slice (some ⟨gi', 0, none⟩) l.length ci', .slice (some ⟨gp', 0, none⟩) p.length cp', .int .i64 s.op, .int .i64 s.up] 31) c hc
  have N2 := Lib.hid (Blk.new w2 #[.int .i64 s.id, .int .i64 s.co, .int .i64 s.me, .int .i64 s.cu, .int .i64 s.da, .int .i64 s.nn, .int .i64 s.ra, .int .i64 s.nu, .int .i64 s.de, .slice (some ⟨gi', 0, none⟩) l.length ci', .slice (some ⟨gp', 0, none⟩) p.length cp', .int .i64 s.op, .int .i64 s.up] 31 13 rfl)
  have NO2 := Lib.hid (OB.new w2 s (some ⟨gi', 0, none⟩) l.length ci' (some ⟨gp', 0, none⟩) p.length cp' 31)
  have L2 := Lib.hid (ol.below ((Below.refl w2.heap.size w2).alloc (Nat.le_refl _) (.cells #[.int .i64 s.id, .int .i64 s.co, .int .i64 s.me, .int .i64 s.cu, .int .i64 s.da, .int .i64 s.nn, .int .i64 s.ra, .int .i64 s.nu, .int .i64 s.de, .slice (some ⟨gi', 0, none⟩) l.length ci', .slice (some ⟨gp', 0, none⟩) p.length cp', .int .i64 s.op, .int .i64 s.up] 31)))
  have X2 := Lib.hid ((X0.out.below b2 X0.out.lt).keep (w' := w2.alloc (.cells #[.int .i64 s.id, .int .i64 s.co, .int .i64 s.me, .int .i64 s.cu, .int .i64 s.da, .int .i64 s.nn, .int .i64 s.ra, .int .i64 s.nu, .int .i64 s.de, .slice (some ⟨gi', 0, none⟩) l.length ci', .slice (some ⟨gp', 0, none⟩) p.length cp', .int .i64 s.op, .int .i64 s.up] 31)) (al _ (X0.out.below b2 X0.out.lt).lt) (by simp))
  have z2 := b2.size
  have z2' : (w2.alloc (.cells #[.int .i64 s.id, .int .i64 s.co, .int .i64 s.me, .int .i64 s.cu, .int .i64 s.da, .int .i64 s.nn, .int .i64 s.ra, .int .i64 s.nu, .int .i64 s.de, .slice (some ⟨gi', 0, none⟩) l.length ci', .slice (some ⟨gp', 0, none⟩) p.length cp', .int .i64 s.op, .int .i64 s.up] 31)).heap.size = w2.heap.size + 1 := by simp only [sz_al]
  have DD := Lib.hid (show w.heap.size + 1 + 1 ≤ w1.heap.size ∧ w1.heap.size ≤ gi' ∧ gi' < w2.heap.size ∧ w1.heap.size ≤ gp' ∧ gp' < w2.heap.size ∧ gi' ≠ gp' from ⟨by omega, a1, a2, a3, a4, ne⟩)
  clear b2 al ol a1 a2 a3 a4 ne CC O0 X0 B0
  have mr := L2.out.plans.room
  obtain ⟨n, hnz⟩ : ∃ n, n = p.length := ⟨_, rfl⟩
  have yy := NO2.out.c10
  rw [← hnz] at yy
  go_wp2_with fail
  clear yy
  obtain ⟨nb, hnb⟩ : ∃ nb, nb = w2.heap.size := ⟨_, rfl⟩
  have HNB := Lib.hid hnb
  rw [← hnb] at N2 NO2 z2' ⊢
  generalize w2.alloc (.cells #[.int .i64 s.id, .int .i64 s.co, .int .i64 s.me, .int .i64 s.cu, .int .i64 s.da, .int .i64 s.nn, .int .i64 s.ra, .int .i64 s.nu, .int .i64 s.de, .slice (some ⟨gi', 0, none⟩) l.length ci', .slice (some ⟨gp', 0, none⟩) p.length cp', .int .i64 s.op, .int .i64 s.up] 31) = W3 at B2 N2 NO2 L2 X2 z2' ⊢
  clear hnb
  have HNZ := Lib.hid hnz
  rw [← hnz] at mr p8
  try rw [← hnz]
  clear hnz
  have hgp : gp' < W3.heap.size := by have := DD.out; have := HNB.out; omega
  have hne : nb ≠ gp' := by have := DD.out; have := HNB.out; omega
  have bl : nb < W3.heap.size := by omega
  have LEN1 := Lib.hid (show n = p.length from HNZ.out)
  have LEN2 := Lib.hid (show n = (dL pl.cut p m).length from by rw [dL_len]; exact HNZ.out)
  have P1 := Lib.hid L2.out.plans
  have T1 := Lib.hid (base.Turned.refl gp' W3)
  go_loopw [1, 7] (fun a i wr => ∃ (k : Nat) (gs3 cs3 : Nat → Nat), k ≤ n ∧ i = .int .i64 ((k : Int) - 1) ∧ a = .int .i64 (wk.bs (stD pl.cut) m p k) ∧ Pls wr (some ⟨gp', 0, none⟩) cp' gp' (wk.bw (stD pl.cut) m p k) gs3 cs3 ∧ base.Turned gp' W3 wr ∧ ∀ j, j < n → (k ≤ j → W3.heap.size ≤ gs3 j) ∧ (j < k → gs3 j = gs' j)) (fun _ i _ => (intOf i + 1).toNat)
  case atStart => exact ⟨n, gs', cs', Nat.le_refl _, by go_num, by rw [LEN1.out, wk.bs_all], by rw [LEN1.out, wk.bw_all]; exact P1.out, T1.out, fun j h => ⟨fun h' => by omega, fun _ => rfl⟩⟩
  case round =>
    obtain ⟨k, gs3, cs3, hk, rfl, rfl, hP, hT, hG⟩ := hrel
    have PP := Lib.hid hP
    have TT := Lib.hid hT
    have GG := Lib.hid hG
    obtain ⟨s0, s1⟩ := SB1.out k (by rw [← LEN1.out]; exact hk)
    obtain ⟨S, hS⟩ : ∃ S, S = wk.bs (stD pl.cut) m p k := ⟨_, rfl⟩
    rw [← hS] at s0 s1 ⊢
    have HS := Lib.hid hS
    have y10 : wr.cell? ⟨nb, 10, none⟩ = some (.slice (some ⟨gp', 0, none⟩) n cp') := by rw [HNZ.out]; exact (NO2.out.keep (hT.2 nb hne bl)).c10
    clear hS
    cases k with
    | zero =>
      clear hP hT hG
      rw [show (((0 : Nat) : Int) - 1) = -1 from by omega]
      have E1 := Lib.hid (show wk.bw (stD pl.cut) m p 0 = dL pl.cut p m from rfl)
      have E2 := HS.out.trans (show wk.bs (stD pl.cut) m p 0 = dN pl.cut p m from rfl)
      have P2 := Lib.hid (show Pls wr (some ⟨gp', 0, none⟩) cp' gp' (dL pl.cut p m) gs3 cs3 from PP.out)
      have T2 := Lib.hid TT.out
      have G2 := Lib.hid (show ∀ j, j < n → W3.heap.size ≤ gs3 j from fun j hj => (GG.out j hj).1 (Nat.zero_le _))
      obtain ⟨N0, hN0⟩ : ∃ N0, N0 = S := ⟨_, rfl⟩
      rw [← hN0] at s0 s1 E2 ⊢
      have HN0 := Lib.hid E2
      clear E2 hN0 HS GG TT PP
      have n1 : ((n : Int) - 1) < 1000 := by omega
      go_wp2_with fail
      go_loopw [1, 11] (fun a i wr => ∃ (k : Nat) (gs4 cs4 : Nat → Nat), k ≤ n ∧ i = .int .i64 ((k : Int) - 1) ∧ a = .int .i64 (wk.bs (stD pl.back) (dN pl.cut p m) (dL pl.cut p m) k) ∧ Pls wr (some ⟨gp', 0, none⟩) cp' gp' (wk.bw (stD pl.back) (dN pl.cut p m) (dL pl.cut p m) k) gs4 cs4 ∧ base.Turned gp' W3 wr ∧ ∀ j, j < n → (W3.heap.size ≤ gs4 j) ∧ (j < k → gs4 j = gs4 j)) (fun _ i _ => (intOf i + 1).toNat)
      case atStart => exact ⟨n, gs3, cs3, Nat.le_refl _, by go_num, by rw [LEN2.out, wk.bs_all, HN0.out], by rw [LEN2.out, wk.bw_all]; exact P2.out, T2.out, fun j h => ⟨G2.out j h, fun _ => rfl⟩⟩
      case round =>
        obtain ⟨k, gs4, cs4, hk, rfl, rfl, hP, hT, hG⟩ := hrel
        have PP := Lib.hid hP
        have TT := Lib.hid hT
        have GG := Lib.hid hG
        obtain ⟨s0, s1⟩ := SB2.out k (by rw [← LEN2.out]; exact hk)
        obtain ⟨S, hS⟩ : ∃ S, S = wk.bs (stD pl.back) (dN pl.cut p m) (dL pl.cut p m) k := ⟨_, rfl⟩
        rw [← hS] at s0 s1 ⊢
        have HS := Lib.hid hS
        have y10 : wr.cell? ⟨nb, 10, none⟩ = some (.slice (some ⟨gp', 0, none⟩) n cp') := by rw [HNZ.out]; exact (NO2.out.keep (hT.2 nb hne bl)).c10
        clear hS
        cases k with
        | zero =>
          clear hP hT hG
          rw [show (((0 : Nat) : Int) - 1) = -1 from by omega]
          have PE := Lib.hid (show wk.bw (stD pl.back) (dN pl.cut p m) (dL pl.cut p m) 0 = tkL p m from rfl)
          have T := TT.out
          have pl4 := PP.out
          rw [PE.out] at pl4
          have PLEN := Lib.hid (tkL_len p m)
          have fr : ∀ i, i < p.length → W3.heap.size ≤ gs4 i := fun i hi => (GG.out i (by rw [HNZ.out]; exact hi)).1
          have B5 := Lib.hid (B2.out.trans (T.1.mono (show w.heap.size ≤ gp' by have := DD.out; omega)))
          have X5 := Lib.hid (X2.out.keep (w' := wr) (T.2 _ (by have := DD.out; omega) X2.out.lt) T.1.size)
          have N5 := Lib.hid (N2.out.keep (w' := wr) (T.2 _ (by have := DD.out; have := HNB.out; omega) N2.out.lt) T.1.size)
          have L5 := Lib.hid (show OL wr (w.heap.size + 1 + 1) l (tkL p m) (some ⟨gi', 0, none⟩) ci' gi' (some ⟨gp', 0, none⟩) cp' gp' gs4 cs4 from
            ⟨L2.out.items.keep fun hh => T.2 gi' (by have := DD.out; omega) (L2.out.gi1 hh), pl4, fun _ => by have := DD.out; omega, fun _ => by have := DD.out; omega, fun i hi => by have := fr i (by rw [← PLEN.out]; exact hi); have := DD.out; have := HNB.out; omega, fun _ _ => by have := DD.out; omega, fun i hi _ => by have := fr i (by rw [← PLEN.out]; exact hi); have := DD.out; have := HNB.out; omega⟩)
          have SZ3 := T.1.size
          clear T pl4 fr B2 N2 NO2 L2 X2 y10
          have x0 : wr.cell? ⟨w.heap.size + 1, 0, none⟩ = some (.int .i64 0) := X5.out.cell 0 (by decide)
          have x1 : wr.cell? ⟨w.heap.size + 1, 1, none⟩ = some (.int .i64 0) := X5.out.cell 1 (by decide)
          have x2 : wr.cell? ⟨w.heap.size + 1, 2, none⟩ = some (.int .i64 0) := X5.out.cell 2 (by decide)
          have x3 : wr.cell? ⟨w.heap.size + 1, 3, none⟩ = some (.int .i64 0) := X5.out.cell 3 (by decide)
          have x4 : wr.cell? ⟨w.heap.size + 1, 4, none⟩ = some (.int .i64 0) := X5.out.cell 4 (by decide)
          have x5 : wr.cell? ⟨w.heap.size + 1, 5, none⟩ = some (.int .i64 0) := X5.out.cell 5 (by decide)
          have x6 : wr.cell? ⟨w.heap.size + 1, 6, none⟩ = some (.int .i64 0) := X5.out.cell 6 (by decide)
          have x7 : wr.cell? ⟨w.heap.size + 1, 7, none⟩ = some (.int .i64 0) := X5.out.cell 7 (by decide)
          have x8 : wr.cell? ⟨w.heap.size + 1, 8, none⟩ = some (.int .i64 0) := X5.out.cell 8 (by decide)
          have x9 : wr.cell? ⟨w.heap.size + 1, 9, none⟩ = some (.slice none 0 0) := X5.out.cell 9 (by decide)
          have x10 : wr.cell? ⟨w.heap.size + 1, 10, none⟩ = some (.slice none 0 0) := X5.out.cell 10 (by decide)
          have x11 : wr.cell? ⟨w.heap.size + 1, 11, none⟩ = some (.int .i64 0) := X5.out.cell 11 (by decide)
          have x12 : wr.cell? ⟨w.heap.size + 1, 12, none⟩ = some (.int .i64 0) := X5.out.cell 12 (by decide)
          have f0 := X5.out.free 0
          have f1 := X5.out.free 1
          have f2 := X5.out.free 2
          have f3 := X5.out.free 3
          have f4 := X5.out.free 4
          have f5 := X5.out.free 5
          have f6 := X5.out.free 6
          have f7 := X5.out.free 7
          have f8 := X5.out.free 8
          have f9 := X5.out.free 9
          have f10 := X5.out.free 10
          have f11 := X5.out.free 11
          have f12 := X5.out.free 12
          have n0 : wr.cell? ⟨nb, 0, none⟩ = some (.int .i64 s.id) := N5.out.cell 0 (by decide)
          have n1 : wr.cell? ⟨nb, 1, none⟩ = some (.int .i64 s.co) := N5.out.cell 1 (by decide)
          have n2 : wr.cell? ⟨nb, 2, none⟩ = some (.int .i64 s.me) := N5.out.cell 2 (by decide)
          have n3 : wr.cell? ⟨nb, 3, none⟩ = some (.int .i64 s.cu) := N5.out.cell 3 (by decide)
          have n4 : wr.cell? ⟨nb, 4, none⟩ = some (.int .i64 s.da) := N5.out.cell 4 (by decide)
          have n5 : wr.cell? ⟨nb, 5, none⟩ = some (.int .i64 s.nn) := N5.out.cell 5 (by decide)
          have n6 : wr.cell? ⟨nb, 6, none⟩ = some (.int .i64 s.ra) := N5.out.cell 6 (by decide)
          have n7 : wr.cell? ⟨nb, 7, none⟩ = some (.int .i64 s.nu) := N5.out.cell 7 (by decide)
          have n8 : wr.cell? ⟨nb, 8, none⟩ = some (.int .i64 s.de) := N5.out.cell 8 (by decide)
          have n9 : wr.cell? ⟨nb, 9, none⟩ = some (.slice (some ⟨gi', 0, none⟩) l.length ci') := N5.out.cell 9 (by decide)
          have n10 : wr.cell? ⟨nb, 10, none⟩ = some (.slice (some ⟨gp', 0, none⟩) p.length cp') := N5.out.cell 10 (by decide)
          have n11 : wr.cell? ⟨nb, 11, none⟩ = some (.int .i64 s.op) := N5.out.cell 11 (by decide)
          have n12 : wr.cell? ⟨nb, 12, none⟩ = some (.int .i64 s.up) := N5.out.cell 12 (by decide)
          have Y := Lib.hid (((((((((((((X5.out.set (k := 0) (by decide) (.int .i64 s.id)).set (k := 1) (by decide) (.int .i64 s.co)).set (k := 2) (by decide) (.int .i64 s.me)).set (k := 3) (by decide) (.int .i64 s.cu)).set (k := 4) (by decide) (.int .i64 s.da)).set (k := 5) (by decide) (.int .i64 s.nn)).set (k := 6) (by decide) (.int .i64 s.ra)).set (k := 7) (by decide) (.int .i64 s.nu)).set (k := 8) (by decide) (.int .i64 s.de)).set (k := 9) (by decide) (.slice (some ⟨gi', 0, none⟩) l.length ci')).set (k := 10) (by decide) (.slice (some ⟨gp', 0, none⟩) p.length cp')).set (k := 11) (by decide) (.int .i64 s.op)).set (k := 12) (by decide) (.int .i64 s.up))
          have BF := Lib.hid (show Below w.heap.size w (((((((((((((wr.setCell ⟨w.heap.size + 1, 0, none⟩ (.int .i64 s.id)).setCell ⟨w.heap.size + 1, 1, none⟩ (.int .i64 s.co)).setCell ⟨w.heap.size + 1, 2, none⟩ (.int .i64 s.me)).setCell ⟨w.heap.size + 1, 3, none⟩ (.int .i64 s.cu)).setCell ⟨w.heap.size + 1, 4, none⟩ (.int .i64 s.da)).setCell ⟨w.heap.size + 1, 5, none⟩ (.int .i64 s.nn)).setCell ⟨w.heap.size + 1, 6, none⟩ (.int .i64 s.ra)).setCell ⟨w.heap.size + 1, 7, none⟩ (.int .i64 s.nu)).setCell ⟨w.heap.size + 1, 8, none⟩ (.int .i64 s.de)).setCell ⟨w.heap.size + 1, 9, none⟩ (.slice (some ⟨gi', 0, none⟩) l.length ci')).setCell ⟨w.heap.size + 1, 10, none⟩ (.slice (some ⟨gp', 0, none⟩) p.length cp')).setCell ⟨w.heap.size + 1, 11, none⟩ (.int .i64 s.op)).setCell ⟨w.heap.size + 1, 12, none⟩ (.int .i64 s.up)) from (((((((((((((B5.out.setCell (p := ⟨w.heap.size + 1, 0, none⟩) (show w.heap.size ≤ w.heap.size + 1 by omega) (.int .i64 s.id)).setCell (p := ⟨w.heap.size + 1, 1, none⟩) (show w.heap.size ≤ w.heap.size + 1 by omega) (.int .i64 s.co)).setCell (p := ⟨w.heap.size + 1, 2, none⟩) (show w.heap.size ≤ w.heap.size + 1 by omega) (.int .i64 s.me)).setCell (p := ⟨w.heap.size + 1, 3, none⟩) (show w.heap.size ≤ w.heap.size + 1 by omega) (.int .i64 s.cu)).setCell (p := ⟨w.heap.size + 1, 4, none⟩) (show w.heap.size ≤ w.heap.size + 1 by omega) (.int .i64 s.da)).setCell (p := ⟨w.heap.size + 1, 5, none⟩) (show w.heap.size ≤ w.heap.size + 1 by omega) (.int .i64 s.nn)).setCell (p := ⟨w.heap.size + 1, 6, none⟩) (show w.heap.size ≤ w.heap.size + 1 by omega) (.int .i64 s.ra)).setCell (p := ⟨w.heap.size + 1, 7, none⟩) (show w.heap.size ≤ w.heap.size + 1 by omega) (.int .i64 s.nu)).setCell (p := ⟨w.heap.size + 1, 8, none⟩) (show w.heap.size ≤ w.heap.size + 1 by omega) (.int .i64 s.de)).setCell (p := ⟨w.heap.size + 1, 9, none⟩) (show w.heap.size ≤ w.heap.size + 1 by omega) (.slice (some ⟨gi', 0, none⟩) l.length ci')).setCell (p := ⟨w.heap.size + 1, 10, none⟩) (show w.heap.size ≤ w.heap.size + 1 by omega) (.slice (some ⟨gp', 0, none⟩) p.length cp')).setCell (p := ⟨w.heap.size + 1, 11, none⟩) (show w.heap.size ≤ w.heap.size + 1 by omega) (.int .i64 s.op)).setCell (p := ⟨w.heap.size + 1, 12, none⟩) (show w.heap.size ≤ w.heap.size + 1 by omega) (.int .i64 s.up)))
          have LF := Lib.hid (show OL (((((((((((((wr.setCell ⟨w.heap.size + 1, 0, none⟩ (.int .i64 s.id)).setCell ⟨w.heap.size + 1, 1, none⟩ (.int .i64 s.co)).setCell ⟨w.heap.size + 1, 2, none⟩ (.int .i64 s.me)).setCell ⟨w.heap.size + 1, 3, none⟩ (.int .i64 s.cu)).setCell ⟨w.heap.size + 1, 4, none⟩ (.int .i64 s.da)).setCell ⟨w.heap.size + 1, 5, none⟩ (.int .i64 s.nn)).setCell ⟨w.heap.size + 1, 6, none⟩ (.int .i64 s.ra)).setCell ⟨w.heap.size + 1, 7, none⟩ (.int .i64 s.nu)).setCell ⟨w.heap.size + 1, 8, none⟩ (.int .i64 s.de)).setCell ⟨w.heap.size + 1, 9, none⟩ (.slice (some ⟨gi', 0, none⟩) l.length ci')).setCell ⟨w.heap.size + 1, 10, none⟩ (.slice (some ⟨gp', 0, none⟩) p.length cp')).setCell ⟨w.heap.size + 1, 11, none⟩ (.int .i64 s.op)).setCell ⟨w.heap.size + 1, 12, none⟩ (.int .i64 s.up)) w.heap.size l (tkL p m) (some ⟨gi', 0, none⟩) ci' gi' (some ⟨gp', 0, none⟩) cp' gp' gs4 cs4 from ⟨L5.out.items.keep fun _ => (((((((((((((Below.heap_setCell _ _ _ _ (show gi' ≠ w.heap.size + 1 by have := DD.out; omega)).trans (Below.heap_setCell _ _ _ _ (show gi' ≠ w.heap.size + 1 by have := DD.out; omega))).trans (Below.heap_setCell _ _ _ _ (show gi' ≠ w.heap.size + 1 by have := DD.out; omega))).trans (Below.heap_setCell _ _ _ _ (show gi' ≠ w.heap.size + 1 by have := DD.out; omega))).trans (Below.heap_setCell _ _ _ _ (show gi' ≠ w.heap.size + 1 by have := DD.out; omega))).trans (Below.heap_setCell _ _ _ _ (show gi' ≠ w.heap.size + 1 by have := DD.out; omega))).trans (Below.heap_setCell _ _ _ _ (show gi' ≠ w.heap.size + 1 by have := DD.out; omega))).trans (Below.heap_setCell _ _ _ _ (show gi' ≠ w.heap.size + 1 by have := DD.out; omega))).trans (Below.heap_setCell _ _ _ _ (show gi' ≠ w.heap.size + 1 by have := DD.out; omega))).trans (Below.heap_setCell _ _ _ _ (show gi' ≠ w.heap.size + 1 by have := DD.out; omega))).trans (Below.heap_setCell _ _ _ _ (show gi' ≠ w.heap.size + 1 by have := DD.out; omega))).trans (Below.heap_setCell _ _ _ _ (show gi' ≠ w.heap.size + 1 by have := DD.out; omega))).trans (Below.heap_setCell _ _ _ _ (show gi' ≠ w.heap.size + 1 by have := DD.out; omega))), L5.out.plans.keep (fun _ => (((((((((((((Below.heap_setCell _ _ _ _ (show gp' ≠ w.heap.size + 1 by have := DD.out; omega)).trans (Below.heap_setCell _ _ _ _ (show gp' ≠ w.heap.size + 1 by have := DD.out; omega))).trans (Below.heap_setCell _ _ _ _ (show gp' ≠ w.heap.size + 1 by have := DD.out; omega))).trans (Below.heap_setCell _ _ _ _ (show gp' ≠ w.heap.size + 1 by have := DD.out; omega))).trans (Below.heap_setCell _ _ _ _ (show gp' ≠ w.heap.size + 1 by have := DD.out; omega))).trans (Below.heap_setCell _ _ _ _ (show gp' ≠ w.heap.size + 1 by have := DD.out; omega))).trans (Below.heap_setCell _ _ _ _ (show gp' ≠ w.heap.size + 1 by have := DD.out; omega))).trans (Below.heap_setCell _ _ _ _ (show gp' ≠ w.heap.size + 1 by have := DD.out; omega))).trans (Below.heap_setCell _ _ _ _ (show gp' ≠ w.heap.size + 1 by have := DD.out; omega))).trans (Below.heap_setCell _ _ _ _ (show gp' ≠ w.heap.size + 1 by have := DD.out; omega))).trans (Below.heap_setCell _ _ _ _ (show gp' ≠ w.heap.size + 1 by have := DD.out; omega))).trans (Below.heap_setCell _ _ _ _ (show gp' ≠ w.heap.size + 1 by have := DD.out; omega))).trans (Below.heap_setCell _ _ _ _ (show gp' ≠ w.heap.size + 1 by have := DD.out; omega)))) (fun i hi => (((((((((((((Below.heap_setCell _ _ _ _ (show gs4 i ≠ w.heap.size + 1 by have := L5.out.gs0 i hi; omega)).trans (Below.heap_setCell _ _ _ _ (show gs4 i ≠ w.heap.size + 1 by have := L5.out.gs0 i hi; omega))).trans (Below.heap_setCell _ _ _ _ (show gs4 i ≠ w.heap.size + 1 by have := L5.out.gs0 i hi; omega))).trans (Below.heap_setCell _ _ _ _ (show gs4 i ≠ w.heap.size + 1 by have := L5.out.gs0 i hi; omega))).trans (Below.heap_setCell _ _ _ _ (show gs4 i ≠ w.heap.size + 1 by have := L5.out.gs0 i hi; omega))).trans (Below.heap_setCell _ _ _ _ (show gs4 i ≠ w.heap.size + 1 by have := L5.out.gs0 i hi; omega))).trans (Below.heap_setCell _ _ _ _ (show gs4 i ≠ w.heap.size + 1 by have := L5.out.gs0 i hi; omega))).trans (Below.heap_setCell _ _ _ _ (show gs4 i ≠ w.heap.size + 1 by have := L5.out.gs0 i hi; omega))).trans (Below.heap_setCell _ _ _ _ (show gs4 i ≠ w.heap.size + 1 by have := L5.out.gs0 i hi; omega))).trans (Below.heap_setCell _ _ _ _ (show gs4 i ≠ w.heap.size + 1 by have := L5.out.gs0 i hi; omega))).trans (Below.heap_setCell _ _ _ _ (show gs4 i ≠ w.heap.size + 1 by have := L5.out.gs0 i hi; omega))).trans (Below.heap_setCell _ _ _ _ (show gs4 i ≠ w.heap.size + 1 by have := L5.out.gs0 i hi; omega))).trans (Below.heap_setCell _ _ _ _ (show gs4 i ≠ w.heap.size + 1 by have := L5.out.gs0 i hi; omega)))) (by simp only [sz_set]; exact Nat.le_refl _), fun h => Nat.le_trans (show w.heap.size ≤ w.heap.size + 1 + 1 by omega) (L5.out.gi0 h), fun h => Nat.le_trans (show w.heap.size ≤ w.heap.size + 1 + 1 by omega) (L5.out.gp0 h), fun i h => Nat.le_trans (show w.heap.size ≤ w.heap.size + 1 + 1 by omega) (L5.out.gs0 i h), L5.out.ip, L5.out.is_⟩)
          have SZ := Lib.hid (show (((((((((((((wr.setCell ⟨w.heap.size + 1, 0, none⟩ (.int .i64 s.id)).setCell ⟨w.heap.size + 1, 1, none⟩ (.int .i64 s.co)).setCell ⟨w.heap.size + 1, 2, none⟩ (.int .i64 s.me)).setCell ⟨w.heap.size + 1, 3, none⟩ (.int .i64 s.cu)).setCell ⟨w.heap.size + 1, 4, none⟩ (.int .i64 s.da)).setCell ⟨w.heap.size + 1, 5, none⟩ (.int .i64 s.nn)).setCell ⟨w.heap.size + 1, 6, none⟩ (.int .i64 s.ra)).setCell ⟨w.heap.size + 1, 7, none⟩ (.int .i64 s.nu)).setCell ⟨w.heap.size + 1, 8, none⟩ (.int .i64 s.de)).setCell ⟨w.heap.size + 1, 9, none⟩ (.slice (some ⟨gi', 0, none⟩) l.length ci')).setCell ⟨w.heap.size + 1, 10, none⟩ (.slice (some ⟨gp', 0, none⟩) p.length cp')).setCell ⟨w.heap.size + 1, 11, none⟩ (.int .i64 s.op)).setCell ⟨w.heap.size + 1, 12, none⟩ (.int .i64 s.up)).heap.size = wr.heap.size from by simp only [sz_set])
          clear X5 N5 L5 B5
          go_wp2
          change bodyPost _ _ _ _ _ (((((((((((((wr.setCell ⟨w.heap.size + 1, 0, none⟩ (.int .i64 s.id)).setCell ⟨w.heap.size + 1, 1, none⟩ (.int .i64 s.co)).setCell ⟨w.heap.size + 1, 2, none⟩ (.int .i64 s.me)).setCell ⟨w.heap.size + 1, 3, none⟩ (.int .i64 s.cu)).setCell ⟨w.heap.size + 1, 4, none⟩ (.int .i64 s.da)).setCell ⟨w.heap.size + 1, 5, none⟩ (.int .i64 s.nn)).setCell ⟨w.heap.size + 1, 6, none⟩ (.int .i64 s.ra)).setCell ⟨w.heap.size + 1, 7, none⟩ (.int .i64 s.nu)).setCell ⟨w.heap.size + 1, 8, none⟩ (.int .i64 s.de)).setCell ⟨w.heap.size + 1, 9, none⟩ (.slice (some ⟨gi', 0, none⟩) l.length ci')).setCell ⟨w.heap.size + 1, 10, none⟩ (.slice (some ⟨gp', 0, none⟩) p.length cp')).setCell ⟨w.heap.size + 1, 11, none⟩ (.int .i64 s.op)).setCell ⟨w.heap.size + 1, 12, none⟩ (.int .i64 s.up))
          generalize ((((((((((((wr.setCell ⟨w.heap.size + 1, 0, none⟩ (.int .i64 s.id)).setCell ⟨w.heap.size + 1, 1, none⟩ (.int .i64 s.co)).setCell ⟨w.heap.size + 1, 2, none⟩ (.int .i64 s.me)).setCell ⟨w.heap.size + 1, 3, none⟩ (.int .i64 s.cu)).setCell ⟨w.heap.size + 1, 4, none⟩ (.int .i64 s.da)).setCell ⟨w.heap.size + 1, 5, none⟩ (.int .i64 s.nn)).setCell ⟨w.heap.size + 1, 6, none⟩ (.int .i64 s.ra)).setCell ⟨w.heap.size + 1, 7, none⟩ (.int .i64 s.nu)).setCell ⟨w.heap.size + 1, 8, none⟩ (.int .i64 s.de)).setCell ⟨w.heap.size + 1, 9, none⟩ (.slice (some ⟨gi', 0, none⟩) l.length ci')).setCell ⟨w.heap.size + 1, 10, none⟩ (.slice (some ⟨gp', 0, none⟩) p.length cp')).setCell ⟨w.heap.size + 1, 11, none⟩ (.int .i64 s.op)).setCell ⟨w.heap.size + 1, 12, none⟩ (.int .i64 s.up) = W9 at Y BF LF SZ ⊢
          have y0 : W9.cell? ⟨w.heap.size + 1, 0, none⟩ = some (.int .i64 s.id) := Y.out.cell 0 (by decide)
          have y1 : W9.cell? ⟨w.heap.size + 1, 1, none⟩ = some (.int .i64 s.co) := Y.out.cell 1 (by decide)
          have y2 : W9.cell? ⟨w.heap.size + 1, 2, none⟩ = some (.int .i64 s.me) := Y.out.cell 2 (by decide)
          have y3 : W9.cell? ⟨w.heap.size + 1, 3, none⟩ = some (.int .i64 s.cu) := Y.out.cell 3 (by decide)
          have y4 : W9.cell? ⟨w.heap.size + 1, 4, none⟩ = some (.int .i64 s.da) := Y.out.cell 4 (by decide)
          have y5 : W9.cell? ⟨w.heap.size + 1, 5, none⟩ = some (.int .i64 s.nn) := Y.out.cell 5 (by decide)
          have y6 : W9.cell? ⟨w.heap.size + 1, 6, none⟩ = some (.int .i64 s.ra) := Y.out.cell 6 (by decide)
          have y7 : W9.cell? ⟨w.heap.size + 1, 7, none⟩ = some (.int .i64 s.nu) := Y.out.cell 7 (by decide)
          have y8 : W9.cell? ⟨w.heap.size + 1, 8, none⟩ = some (.int .i64 s.de) := Y.out.cell 8 (by decide)
          have y9 : W9.cell? ⟨w.heap.size + 1, 9, none⟩ = some (.slice (some ⟨gi', 0, none⟩) l.length ci') := Y.out.cell 9 (by decide)
          have y10 : W9.cell? ⟨w.heap.size + 1, 10, none⟩ = some (.slice (some ⟨gp', 0, none⟩) p.length cp') := Y.out.cell 10 (by decide)
          have y11 : W9.cell? ⟨w.heap.size + 1, 11, none⟩ = some (.int .i64 s.op) := Y.out.cell 11 (by decide)
          have y12 : W9.cell? ⟨w.heap.size + 1, 12, none⟩ = some (.int .i64 s.up) := Y.out.cell 12 (by decide)
          refine bodyPost_ret (v := .tuple #[.agg #[.int .i64 s.id, .int .i64 s.co, .int .i64 s.me, .int .i64 s.cu, .int .i64 s.da, .int .i64 s.nn, .int .i64 s.ra, .int .i64 s.nu, .int .i64 s.de, .slice (some ⟨gi', 0, none⟩) l.length ci', .slice (some ⟨gp', 0, none⟩) p.length cp', .int .i64 s.op, .int .i64 s.up], .int .i64 N0]) (by simp [results, Try.results71, go_sem, y0, y1, y2, y3, y4, y5, y6, y7, y8, y9, y10, y11, y12]) rfl ⟨_, by rw [HN0.out]; unfold tkN; rfl, ci', gi', cp', gp', gs4, cs4, by rw [PLEN.out], LF.out, by have := DD.out; omega, by have := DD.out; have := SZ.out; have := HNB.out; omega, by have := DD.out; omega, by have := DD.out; have := SZ.out; have := HNB.out; omega, DD.out.2.2.2.2.2, BF.out⟩
        | succ j =>
          have ej : (((j + 1 : Nat) : Int) - 1) = (j : Int) := by omega
          rw [ej]
          clear ej
          have HLT := Lib.hid (show j < ((dL pl.cut p m)).length from by rw [← LEN2.out]; exact hk)
          have FL := Lib.hid (show j < (wk.bw (stD pl.back) (dN pl.cut p m) (dL pl.cut p m) (j + 1)).length from by rw [wk.bw_len]; exact HLT.out)
          have NK : nth (wk.bw (stD pl.back) (dN pl.cut p m) (dL pl.cut p m) (j + 1)) j = nth ((dL pl.cut p m)) j := wk.bw_get [] (stD pl.back) (dN pl.cut p m) HLT.out
          have FS0 := wk.bs_succ [] (stD pl.back) (dN pl.cut p m) HLT.out
          have FW0 := wk.bw_succ [] (stD pl.back) (dN pl.cut p m) HLT.out
          have q1 := hP.cells j FL.out
          have q2 := hP.rows j FL.out
          rw [NK] at q1 q2
          obtain ⟨OK, -, -⟩ := dk_in (g := pl.back) gd_back (show pl.pv (nth ((dL pl.cut p m)) j) = true from PV2.out j HLT.out) s0 (by have := N01.out; omega)
          have C := base.bkS S wr (cs4 j) (gs4 j) (nth ((dL pl.cut p m)) j) q2 (Nat.le_trans (show (nth ((dL pl.cut p m)) j).length ≤ 24 from (pl.pv_iff.1 (PV2.out j HLT.out)).1) (by omega))
          rw [← HS.out] at FS0 FW0
          obtain ⟨P, hP'⟩ : ∃ P, P = base.bkL pl.back (nth ((dL pl.cut p m)) j) S := ⟨_, rfl⟩
          obtain ⟨M, hM⟩ : ∃ M, M = base.bkN pl.back (nth ((dL pl.cut p m)) j) S := ⟨_, rfl⟩
          have FS : wk.bs (stD pl.back) (dN pl.cut p m) (dL pl.cut p m) j = M := FS0.trans hM.symm
          have FW : wk.bw (stD pl.back) (dN pl.cut p m) (dL pl.cut p m) j = (wk.bw (stD pl.back) (dN pl.cut p m) (dL pl.cut p m) (j + 1)).set j P := FW0.trans (by rw [hP']; rfl)
          rw [← hP', ← hM, OK] at C
          have FSh := Lib.hid FS
          have FWh := Lib.hid FW
          have CH := Lib.hid C
          have LGK := Lib.hid (show gs4 j < wr.heap.size from hP.lt j FL.out)
          clear FS FW FS0 FW0 C hP' hM OK NK q2 hP hT hG
          generalize (nth ((dL pl.cut p m)) j).length = ln at q1 CH
          generalize gs4 j = gk at q1 CH
          generalize cs4 j = ck at q1 CH
          have z0 : (0 : Int) ≤ (j : Int) := by omega
          have z1 : (j : Int) < (n : Int) := by omega
          have mm := Lib.hid mr
          go_wp2_with fail
          refine CH.out.mono ?_
          rintro e w4 ⟨a1, c1, g1, rfl, r1, -, b1, o1⟩
          obtain ⟨rfl, l1, k1⟩ := o1 rfl
          have P1 := Lib.hid (PP.out.below b1)
          have R1 := Lib.hid r1
          have T1 := Lib.hid (pls.Turned.of TT.out b1 (Nat.le_of_lt (Nat.lt_of_lt_of_le hgp TT.out.1.size)))
          have y10 := (NO2.out.keep (T1.out.2 nb hne bl)).c10
          rw [← HNZ.out] at y10
          have x1 := P1.out.cells j FL.out
          have f1 := P1.out.free (by have := FL.out; omega) j
          have L1 := Lib.hid (show wr.heap.size ≤ g1 ∧ g1 < w4.heap.size from ⟨l1, k1⟩)
          clear r1 b1 o1 q1 CH l1 k1
          go_wp2
          go_roundw
          case rel =>
            have hw := TT.out.1.size
            refine ⟨j, pls.up gs4 j g1, pls.up cs4 j c1, by omega, by go_num, by rw [FSh.out], ?_, pls.Turned.trans T1.out ((base.Turned.refl gp' w4).set j _), fun i hi => ⟨?_, fun _ => trivial⟩⟩
            · rw [FWh.out]
              exact P1.out.set FL.out R1.out L1.out.2 (by have := L1.out; omega) (fun i hi hne' => by have := PP.out.lt i hi; have := L1.out; omega)
            · unfold pls.up
              by_cases e : i = j
              · rw [if_pos e]; have := L1.out; omega
              · rw [if_neg e]; exact (GG.out i hi).1
          case measure => simp [intOf]
    | succ j =>
      have ej : (((j + 1 : Nat) : Int) - 1) = (j : Int) := by omega
      rw [ej]
      clear ej
      have HLT := Lib.hid (show j < (p).length from by rw [← LEN1.out]; exact hk)
      have FL := Lib.hid (show j < (wk.bw (stD pl.cut) m p (j + 1)).length from by rw [wk.bw_len]; exact HLT.out)
      have NK : nth (wk.bw (stD pl.cut) m p (j + 1)) j = nth (p) j := wk.bw_get [] (stD pl.cut) m HLT.out
      have FS0 := wk.bs_succ [] (stD pl.cut) m HLT.out
      have FW0 := wk.bw_succ [] (stD pl.cut) m HLT.out
      have q1 := hP.cells j FL.out
      have q2 := hP.rows j FL.out
      rw [NK] at q1 q2
      obtain ⟨OK, -, -⟩ := dk_in (g := pl.cut) gd_cut (show pl.pv (nth (p) j) = true from PV1.out j HLT.out) s0 (by have := N01.out; omega)
      have C := base.ctS S wr (cs3 j) (gs3 j) (nth (p) j) q2 (Nat.le_trans (show (nth (p) j).length ≤ 24 from (pl.pv_iff.1 (PV1.out j HLT.out)).1) (by omega))
      rw [← HS.out] at FS0 FW0
      obtain ⟨P, hP'⟩ : ∃ P, P = base.bkL pl.cut (nth (p) j) S := ⟨_, rfl⟩
      obtain ⟨M, hM⟩ : ∃ M, M = base.bkN pl.cut (nth (p) j) S := ⟨_, rfl⟩
      have FS : wk.bs (stD pl.cut) m p j = M := FS0.trans hM.symm
      have FW : wk.bw (stD pl.cut) m p j = (wk.bw (stD pl.cut) m p (j + 1)).set j P := FW0.trans (by rw [hP']; rfl)
      rw [← hP', ← hM, OK] at C
      have FSh := Lib.hid FS
      have FWh := Lib.hid FW
      have CH := Lib.hid C
      have LGK := Lib.hid (show gs3 j < wr.heap.size from hP.lt j FL.out)
      clear FS FW FS0 FW0 C hP' hM OK NK q2 hP hT hG
      generalize (nth (p) j).length = ln at q1 CH
      generalize gs3 j = gk at q1 CH
      generalize cs3 j = ck at q1 CH
      have z0 : (0 : Int) ≤ (j : Int) := by omega
      have z1 : (j : Int) < (n : Int) := by omega
      have mm := Lib.hid mr
      go_wp2_with fail
      refine CH.out.mono ?_
      rintro e w4 ⟨a1, c1, g1, rfl, r1, -, b1, o1⟩
      obtain ⟨rfl, l1, k1⟩ := o1 rfl
      have P1 := Lib.hid (PP.out.below b1)
      have R1 := Lib.hid r1
      have T1 := Lib.hid (pls.Turned.of TT.out b1 (Nat.le_of_lt (Nat.lt_of_lt_of_le hgp TT.out.1.size)))
      have y10 := (NO2.out.keep (T1.out.2 nb hne bl)).c10
      rw [← HNZ.out] at y10
      have x1 := P1.out.cells j FL.out
      have f1 := P1.out.free (by have := FL.out; omega) j
      have L1 := Lib.hid (show wr.heap.size ≤ g1 ∧ g1 < w4.heap.size from ⟨l1, k1⟩)
      clear r1 b1 o1 q1 CH l1 k1
      go_wp2
      go_roundw
      case rel =>
        have hw := TT.out.1.size
        refine ⟨j, pls.up gs3 j g1, pls.up cs3 j c1, by omega, by go_num, by rw [FSh.out], ?_, pls.Turned.trans T1.out ((base.Turned.refl gp' w4).set j _), fun i hi => ⟨fun h => ?_, fun h => ?_⟩⟩
        · rw [FWh.out]
          exact P1.out.set FL.out R1.out L1.out.2 (by have := L1.out; omega) (fun i hi hne' => by have := PP.out.lt i hi; have := L1.out; omega)
        · unfold pls.up
          by_cases e : i = j
          · rw [if_pos e]; have := L1.out; omega
          · rw [if_neg e]; exact (GG.out i hi).1 (by omega)
        · unfold pls.up
          rw [if_neg (by omega)]; exact (GG.out i hi).2 (by omega)
      case measure => simp [intOf]
end Go.Proofs.Ytmaejlfjdkkpdaa.ob
