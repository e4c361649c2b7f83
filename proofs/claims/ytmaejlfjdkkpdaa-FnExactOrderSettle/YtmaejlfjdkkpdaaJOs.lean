/-
  Plain helpers of this seat's proofs: how long the lists of a settled order are. Conditions: none.
-/
import Derived.Test.YtmaejlfjdkkpdaaPlSt
import Derived.Test.YtmaejlfjdkkpdaaSi
import Derived.Test.YtmaejlfjdkkpdaaPoI
import Derived.Test.YtmaejlfjdkkpdaaPdI
import Derived.Test.YtmaejlfjdkkpdaaOm
import Derived.Test.YtmaejlfjdkkpdaaPkS
import Derived.Test.YtmaejlfjdkkpdaaPd
import Derived.Test.YtmaejlfjdkkpdaaRw7
import Derived.Test.YtmaejlfjdkkpdaaRs6
import Derived.Test.YtmaejlfjdkkpdaaOk6
import Derived.Test.YtmaejlfjdkkpdaaCp6
import Derived.Test.YtmaejlfjdkkpdaaOkS
import Derived.Test.YtmaejlfjdkkpdaaCs6
import Derived.Test.YtmaejlfjdkkpdaaSh6
namespace Go.Proofs.Ytmaejlfjdkkpdaa.ob
open Go.ChangeShapes Go.WideShapes Go.ChangeAt Go.RowKit
open gen
open seven (F7 zz Row At)
open four (F4)
open pl (inR)
open pls (nth Pls OL)
open ord (Sc iok)
/-- Settling one plan. -/
noncomputable def stS (d : Int) (S : Int × Int) (q : List F7) : List F7 × (Int × Int) := (base.poL q d, (S.1 + base.pof q d, S.2 + base.poN q d))
noncomputable def seLs (p : List (List F7)) (d : Int) : List (List F7) := wk.fw (stS d) (0, 0) p p.length
noncomputable def seNs (p : List (List F7)) (d : Int) : Int × Int := wk.fs (stS d) (0, 0) p p.length
theorem po_in {q : List F7} {d : Int} (h : pl.pv q = true) (hd : inR d 0 100000 = true) : (0 ≤ base.pof q d ∧ base.pof q d ≤ 72000000000000) ∧ 0 ≤ base.poN q d ∧ base.poN q d ≤ 24000000000000 := by
  have hp := pl.pv_iff.1 h
  have h1 := base.pfTo_b (d := d) (l := q) (fun i hi => hp.pin hi) q.length (Nat.le_refl _)
  have h2 := base.wv_sum (d := d) (l := q) (fun i hi => hp.pin hi) q.length (Nat.le_refl _)
  have hl := hp.1
  rw [base.pof_t h hd, (base.po_yes (by rw [h, hd]; rfl)).2]
  omega
theorem se_fs (d : Int) {p : List (List F7)} (hp : ord.PVs p) (hd : inR d 0 100000 = true) : ∀ k, k ≤ p.length → (0 ≤ (wk.fs (stS d) (0, 0) p k).1 ∧ (wk.fs (stS d) (0, 0) p k).1 ≤ k * 72000000000000) ∧ 0 ≤ (wk.fs (stS d) (0, 0) p k).2 ∧ (wk.fs (stS d) (0, 0) p k).2 ≤ k * 24000000000000
  | 0, _ => by rw [wk.fs_zero]; simp
  | k + 1, hk => by
    have h1 := se_fs d hp hd k (by omega)
    have h2 := po_in (hp k (by omega)) hd
    rw [wk.fs_succ [] _ _ (show k < p.length by omega)]
    show (0 ≤ (wk.fs (stS d) (0, 0) p k).1 + base.pof (p.getD k []) d ∧ (wk.fs (stS d) (0, 0) p k).1 + base.pof (p.getD k []) d ≤ _) ∧ 0 ≤ (wk.fs (stS d) (0, 0) p k).2 + base.poN (p.getD k []) d ∧ (wk.fs (stS d) (0, 0) p k).2 + base.poN (p.getD k []) d ≤ _
    omega
set_option maxRecDepth 40000 in
set_option maxHeartbeats 4000000 in
theorem setI (d : Int) (w : World) (b : Nat) (s : Sc) (ai : Option Addr) (ni ci : Nat) (cp gp : Nat) (p : List (List F7)) (gs cs : Nat → Nat) (hb : OB w b s ai ni ci (some ⟨gp, 0, none⟩) p.length cp) (rp : Pls w (some ⟨gp, 0, none⟩) cp gp p gs cs) (hgp : gp < w.heap.size) (hne : b ≠ gp) (pv : ord.PVs p) (hn : p.length ≤ 8) (hd : inR d 0 100000 = true) :
    Calls Try.prog 80 #[.pointer (some ⟨b, 0, none⟩), .int .i64 d] w fun e w' => ∃ gs' cs', e = .returned (.tuple #[.int .i64 (seNs p d).1, .int .i64 (seNs p d).2]) ∧ Pls w' (some ⟨gp, 0, none⟩) cp gp (seLs p d) gs' cs' ∧ (∀ i, i < p.length → w.heap.size ≤ gs' i) ∧ base.Turned gp w w' := by
  have R := Lib.hid rp
  have OBh := Lib.hid hb
  have PV := Lib.hid pv
  have HD := Lib.hid hd
  have m1 := rp.room
  have bl := hb.lt
  have y10 := hb.c10
  unfold seNs seLs
  clear rp hb pv hd
  obtain ⟨n, hnz⟩ : ∃ n, n = p.length := ⟨_, rfl⟩
  rw [← hnz] at hn m1 y10 ⊢
  have HNZ := Lib.hid hnz
  clear hnz
  go_enter Try.func80, Try.ntmps80
  go_wp2
  go_loopw [6, 7, 16] (fun a1 a2 i wr => ∃ (k : Nat) (gs3 cs3 : Nat → Nat), k ≤ n ∧ i = .int .i64 k ∧ a1 = .int .i64 (wk.fs (stS d) (0, 0) p k).1 ∧ a2 = .int .i64 (wk.fs (stS d) (0, 0) p k).2 ∧ Pls wr (some ⟨gp, 0, none⟩) cp gp (wk.fw (stS d) (0, 0) p k) gs3 cs3 ∧ base.Turned gp w wr ∧ ∀ j, j < n → (j < k → w.heap.size ≤ gs3 j) ∧ (k ≤ j → gs3 j = gs j)) (fun _ _ i _ => n - (intOf i).toNat)
  case atStart => exact ⟨0, gs, cs, by omega, rfl, by rw [wk.fs_zero], by rw [wk.fs_zero], by rw [wk.fw_zero]; exact R.out, base.Turned.refl _ _, fun j _ => ⟨fun h => by omega, fun _ => rfl⟩⟩
  case round =>
    obtain ⟨k, gs3, cs3, hk, rfl, rfl, rfl, hP, hT, hG⟩ := hrel
    have PP := Lib.hid hP
    have TT := Lib.hid hT
    have GG := Lib.hid hG
    have SB := se_fs d PV.out HD.out (p := p) k (by rw [← HNZ.out]; exact hk)
    obtain ⟨S, hS⟩ : ∃ S, S = wk.fs (stS d) (0, 0) p k := ⟨_, rfl⟩
    rw [← hS] at SB ⊢
    have HS := Lib.hid hS
    obtain ⟨SA, SC⟩ := S
    dsimp only at SB ⊢
    obtain ⟨⟨s0, s1⟩, s2, s3⟩ := SB
    have s1 : SA ≤ 576000000000000 := by omega
    have s3 : SC ≤ 192000000000000 := by omega
    have y10 := (OBh.out.keep (hT.2 b hne bl)).c10
    try rw [← HNZ.out] at y10
    clear hS
    by_cases hlt : k < n
    · have HLT := Lib.hid (show k < p.length from by rw [← HNZ.out]; exact hlt)
      have FL := Lib.hid (show k < (wk.fw (stS d) (0, 0) p k).length from by rw [wk.fw_len]; exact HLT.out)
      have NK : nth (wk.fw (stS d) (0, 0) p k) k = nth p k := wk.fw_get [] _ _ HLT.out
      have q1 := hP.cells k FL.out
      have RQ := Lib.hid (fun W (hb : Below wr.heap.size wr W) => (hP.below hb).rows k FL.out)
      have CQ := Lib.hid (fun W (hb : Below wr.heap.size wr W) => (hP.below hb).cells k FL.out)
      rw [NK] at q1 RQ CQ
      have OK : (pl.pv (nth p k) && inR d 0 100000) = true := by rw [HD.out, Bool.and_true]; exact PV.out k HLT.out
      have NI := po_in (PV.out k HLT.out) HD.out
      rw [show p.getD k [] = nth p k from rfl] at NI
      have FS : wk.fs (stS d) (0, 0) p (k + 1) = (SA + base.pof (nth p k) d, SC + base.poN (nth p k) d) := by rw [wk.fs_succ [] _ _ HLT.out, ← HS.out]; rfl
      have FW : wk.fw (stS d) (0, 0) p (k + 1) = (wk.fw (stS d) (0, 0) p k).set k (base.poL (nth p k) d) := by rw [wk.fw_succ [] _ _ HLT.out]; rfl
      have h24 : (nth p k).length ≤ 1048577 := Nat.le_trans (show (nth p k).length ≤ 24 from (pl.pv_iff.1 (PV.out k HLT.out)).1) (by omega)
      have C0 := Lib.hid (base.poI d wr (cs3 k) (gs3 k) (nth p k) (RQ.out wr (Below.refl _ _)) h24)
      have C1 := Lib.hid (fun W (hb : Below wr.heap.size wr W) => base.pdI d W (cs3 k) (gs3 k) (nth p k) (RQ.out W hb) h24)
      obtain ⟨P, hP'⟩ : ∃ P, P = base.poL (nth p k) d := ⟨_, rfl⟩
      obtain ⟨M0, hM0⟩ : ∃ M, M = base.pof (nth p k) d := ⟨_, rfl⟩
      obtain ⟨M1, hM1⟩ : ∃ M, M = base.poN (nth p k) d := ⟨_, rfl⟩
      rw [← hP'] at C1 FW
      rw [← hM0] at C0 FS NI
      rw [← hM1] at C1 FS NI
      rw [OK] at C1
      have FSh := Lib.hid FS
      have FWh := Lib.hid FW
      clear FS FW hP' hM0 hM1 OK NK RQ hP hT hG h24
      generalize (nth p k).length = ln at q1 C0 C1 CQ
      generalize hgk : gs3 k = gk at q1 C0 C1 CQ
      generalize hck : cs3 k = ck at q1 C0 C1 CQ
      clear hgk hck
      obtain ⟨⟨m0, m9⟩, m1', m8⟩ := NI
      have z1' : (k : Int) < (n : Int) := by omega
      have v1 : decide (k < n) = true := by simp; omega
      go_wp2_with fail
      refine C0.out.mono ?_
      rintro e w0 ⟨rfl, b0⟩
      have B0 := Lib.hid b0
      have T0 := Lib.hid (pls.Turned.of TT.out b0 (Nat.le_of_lt (Nat.lt_of_lt_of_le hgp TT.out.1.size)))
      have y10 := (OBh.out.keep (T0.out.2 b hne bl)).c10
      try rw [← HNZ.out] at y10
      have q1 := CQ.out w0 b0
      clear b0
      go_wp2_with fail
      refine (C1.out w0 B0.out).mono ?_
      rintro e w1 ⟨a1, c1, g1, rfl, r1, -, b1, o1⟩
      obtain ⟨rfl, l1, k1⟩ := o1 rfl
      have BB1 := B0.out.trans (b1.mono B0.out.size)
      have P1 := Lib.hid (PP.out.below BB1)
      have R1 := Lib.hid r1
      have T1 := Lib.hid (pls.Turned.of TT.out BB1 (Nat.le_of_lt (Nat.lt_of_lt_of_le hgp TT.out.1.size)))
      have y10 := (OBh.out.keep (T1.out.2 b hne bl)).c10
      try rw [← HNZ.out] at y10
      have x1 := P1.out.cells k FL.out
      have f1 := P1.out.free (by have := FL.out; omega) k
      have L1 := Lib.hid (show wr.heap.size ≤ g1 ∧ g1 < w1.heap.size from ⟨Nat.le_trans B0.out.size l1, k1⟩)
      clear r1 b1 o1 q1 C0 C1 l1 k1 BB1 CQ
      go_wp2
      go_roundw
      case rel =>
        have hw := TT.out.1.size
        refine ⟨k + 1, pls.up gs3 k g1, pls.up cs3 k c1, by omega, by go_num, by rw [FSh.out], by rw [FSh.out], ?_, pls.Turned.trans T1.out ((base.Turned.refl gp w1).set k _), fun j hj => ⟨fun h => ?_, fun h => ?_⟩⟩
        · rw [show wk.fw (stS d) (0, 0) p (k + 1) = (wk.fw (stS d) (0, 0) p k).set k P from FWh.out]
          exact P1.out.set FL.out R1.out L1.out.2 (by have := L1.out; omega) (fun i hi hne' => by have := PP.out.lt i hi; have := L1.out; omega)
        · unfold pls.up
          by_cases e : j = k
          · rw [if_pos e]; have := L1.out; omega
          · rw [if_neg e]; exact (GG.out j hj).1 (by omega)
        · unfold pls.up
          rw [if_neg (by omega)]; exact (GG.out j hj).2 (by omega)
      case measure => simp [intOf]; omega
    · have v1 : decide (k < n) = false := by simp; omega
      obtain rfl : k = n := by omega
      clear hP hT hG
      go_wp2
      go_ret2
      exact ⟨gs3, cs3, show Ending.returned (Value.tuple #[.int .i64 SA, .int .i64 SC]) = _ from by rw [← HS.out], PP.out, fun i hi => (GG.out i hi).1 hi, TT.out⟩
end Go.Proofs.Ytmaejlfjdkkpdaa.ob

namespace Go.Proofs.Ytmaejlfjdkkpdaa.base
open Go.ChangeShapes Go.WideShapes Go.ChangeAt Go.RowKit
open seven (F7 zz Row At)
open pl (inR prOk pok)
open gen
set_option maxRecDepth 40000 in
set_option maxHeartbeats 4000000 in
theorem poS (d : Int) (w : World) (cap g : Nat) (l : List F7) (r : Row w (some ⟨g, 0, none⟩) cap g l) (hn : l.length ≤ 1048577) : Calls Try.prog 77 #[.slice (some ⟨g, 0, none⟩) l.length cap, .int .i64 d] w fun e w' => e = .returned (.int .i64 (pof l d)) ∧ Below w.heap.size w w' := by
  obtain ⟨M, hM⟩ : ∃ M, M = pof l d := ⟨_, rfl⟩
  rw [← hM]
  have HM := Lib.hid hM
  clear hM
  have GL := Lib.hid (fun h : 0 < l.length => r.lt h)
  have C := Lib.hid (pkS w (some ⟨g, 0, none⟩) cap g l r hn)
  have R := Lib.hid r
  have CD := Lib.hid (fun w1 => dayS d w1)
  have m1 := r.room
  clear r
  obtain ⟨n, hnz⟩ : ∃ n, n = l.length := ⟨_, rfl⟩
  rw [← hnz] at hn C m1 ⊢
  have HNZ := Lib.hid hnz
  clear hnz
  go_enter Try.func77, Try.ntmps77
  go_wp2_with fail
  refine C.out.mono ?_
  rintro e w1 ⟨rfl, b1⟩
  have BN := Lib.hid b1
  have R1 := Lib.hid (R.out.keep (w' := w1) fun h => b1.block g (GL.out h))
  have GL1 := Lib.hid (fun h : 0 < l.length => Nat.lt_of_lt_of_le (GL.out h) b1.size)
  clear b1 R C
  cases hv : pl.pv l with
  | false =>
    have MM := Lib.hid (HM.out.trans (pof_f hv))
    clear hv
    go_wp2
    go_ret
    exact ⟨by rw [MM.out]; rfl, BN.out⟩
  | true =>
    have HV := Lib.hid hv
    have PVH := Lib.hid (pl.pv_iff.1 hv)
    clear hv
    cases hd : inR d 0 100000 with
    | false =>
      rw [hd] at CD
      have MM := Lib.hid (HM.out.trans (pof_g HV.out hd))
      clear hd
      go_wp2_with fail
      refine (CD.out _).mono ?_
      rintro e w' ⟨rfl, rfl⟩
      go_wp2
      go_ret
      exact ⟨by rw [MM.out]; rfl, BN.out⟩
    | true =>
      rw [hd] at CD
      have MM := Lib.hid (HM.out.trans (pof_t HV.out hd))
      have DD := pl.inR_iff.1 hd
      obtain ⟨dd0, dd1⟩ := DD
      clear hd
      have hn24 : n ≤ 24 := by rw [HNZ.out]; exact PVH.out.1
      have PB := Lib.hid (fun k hk => pfTo_b (d := d) (fun i hi => PVH.out.pin (i := i) hi) k hk)
      go_wp2_with fail
      refine (CD.out _).mono ?_
      rintro e w' ⟨rfl, rfl⟩
      go_wp2
      go_loopw [5, 6] (fun sv iv wr => Below w1.heap.size w1 wr ∧ ∃ k : Nat, k ≤ n ∧ iv = .int .i64 k ∧ sv = .int .i64 (pfTo l d k)) (fun _ iv _ => n - (intOf iv).toNat)
      case atStart => exact ⟨Below.refl _ _, 0, by omega, rfl, rfl⟩
      case round =>
        obtain ⟨hB, k, hk, rfl, rfl⟩ := hrel
        have BB := Lib.hid hB
        clear hB
        have sB := PB.out k (by rw [← HNZ.out]; exact hk)
        obtain ⟨s0, s1⟩ := sB
        replace s1 : pfTo l d k ≤ 100000000000000 := by omega
        by_cases hlt : k < n
        · have HLT := Lib.hid (show k < l.length from by rw [← HNZ.out]; exact hlt)
          have gl : g < w1.heap.size := GL1.out (by rw [← HNZ.out]; omega)
          have RR := Lib.hid (R1.out.keep (w' := wr) fun h => BB.out.block g gl)
          have q1 := RR.out.cells k HLT.out
          obtain ⟨x, hx⟩ : ∃ x, x = l.getD k zz := ⟨_, rfl⟩
          have PX := PVH.out.pin HLT.out
          have PF := Lib.hid (show pfTo l d (k + 1) = pfTo l d k + op (wvX d x) from by rw [pfTo, ← hx])
          rw [← hx] at q1 PX
          obtain ⟨S, hS⟩ : ∃ S, S = pfTo l d k := ⟨_, rfl⟩
          rw [← hS] at PF s0 s1 ⊢
          obtain ⟨e0, e1, p0, p1, i0, i1, f0, f1, a0, a1, c0, c1, h0, h1⟩ := PX
          clear hx hS
          have mixed : Try.prog.follows .mixedOrders = true := Try.checked.mixed
          have z1 : (k : Int) < (n : Int) := by omega
          have u1 : decide (k < n) = true := by simp; omega
          have gwr : g < wr.heap.size := Nat.lt_of_lt_of_le gl BB.out.size
          have x2 := fun n os => (q1.grown n os).c1
          have x4 := fun n os => (q1.grown n os).c3
          have x5 := fun n os => (q1.grown n os).c4
          have x7 := fun n os => (q1.grown n os).c6
          have Q1 := Lib.hid q1
          clear q1
          go_wp2_with fail
          refine wp_region_quiet_grown mixed (by kernel_rfl) ?_
          repeat (go_big_quiet_step (fail))
          refine wpQuiet_nil ?_
          intro w3 hw'
          have G1 := Lib.hid (show Grew wr w3 from by obtain ⟨p, h⟩ := hw'; exact ⟨p.n, p.os, h⟩)
          clear hw'
          have q3 := Q1.out.keep (w' := w3) (G1.out.below.block g gwr)
          have y1 := q3.c0
          have B3 := Lib.hid (Grew.step BB.out (Nat.le_refl _) G1.out)
          cases t1 : decide (x.1 ≤ d) with
          | false =>
            have OE := Lib.hid (show op (wvX d x) = x.2.2.2.1 - x.2.2.2.2.2.2 + (x.2.1 - x.2.2.2.2.1) from by
              have : pl.woff d x = x.2.2.1 - x.2.2.2.2.2.1 := by unfold pl.woff; rw [if_pos (by simp at t1; omega)]
              unfold op wvX; rw [this]; dsimp only; omega)
            go_wp2
            go_roundw
            case rel => exact ⟨B3.out, k + 1, by omega, by go_num, by rw [PF.out, OE.out]; congr 1; omega⟩
            case measure => simp [intOf]; omega
          | true =>
            have OE := Lib.hid (show op (wvX d x) = x.2.2.2.1 - x.2.2.2.2.2.2 + (x.2.1 - x.2.2.2.2.1) + (x.2.2.1 - x.2.2.2.2.2.1) from by
              have : pl.woff d x = 0 := by unfold pl.woff; rw [if_neg (by simp at t1; omega)]
              unfold op wvX; rw [this]; dsimp only; omega)
            have x3 := fun n os => (q3.grown n os).c2
            have x6 := fun n os => (q3.grown n os).c5
            go_wp2_with fail
            refine wp_region_quiet_grown mixed (by kernel_rfl) ?_
            repeat (go_big_quiet_step (fail))
            refine wpQuiet_nil ?_
            intro w4 hw'
            have G4 := Lib.hid (show Grew w3 w4 from by obtain ⟨p, h⟩ := hw'; exact ⟨p.n, p.os, h⟩)
            clear hw'
            go_wp2
            go_roundw
            case rel => exact ⟨Grew.step B3.out (Nat.le_refl _) G4.out, k + 1, by omega, by go_num, by rw [PF.out, OE.out]; congr 1; omega⟩
            case measure => simp [intOf]; omega
        · have u1 : decide (k < n) = false := by simp; omega
          obtain rfl : k = n := by omega
          go_wp2
          go_ret
          exact ⟨by rw [MM.out, HNZ.out]; rfl, BN.out.trans (BB.out.mono BN.out.size)⟩
end Go.Proofs.Ytmaejlfjdkkpdaa.base

namespace Go.Proofs.Ytmaejlfjdkkpdaa.base
open Go.ChangeShapes Go.WideShapes Go.ChangeAt Go.RowKit
open seven (F7 zz Row At)
open pl (inR prOk pok)
open gen
theorem rowPut {w : World} {a : Option Addr} {cap g k : Nat} {l : List F7} (r : Row w a cap g l) (hk : k < l.length) (y : F7) : Row (seven.wN w g (k * 7) y) a cap g (l.set k y) := by
  obtain ⟨y0, y1, y2, y3, y4, y5, y6⟩ := y
  have r0 := seven.rowSet0 r hk rfl y0
  have r1 := seven.rowSet1 r0 (by simpa using hk) (seven.getD_set_same hk _) y1
  simp only [List.set_set] at r1
  have r2 := seven.rowSet2 r1 (by simpa using hk) (seven.getD_set_same hk _) y2
  simp only [List.set_set] at r2
  have r3 := seven.rowSet3 r2 (by simpa using hk) (seven.getD_set_same hk _) y3
  simp only [List.set_set] at r3
  have r4 := seven.rowSet4 r3 (by simpa using hk) (seven.getD_set_same hk _) y4
  simp only [List.set_set] at r4
  have r5 := seven.rowSet5 r4 (by simpa using hk) (seven.getD_set_same hk _) y5
  simp only [List.set_set] at r5
  have r6 := seven.rowSet6 r5 (by simpa using hk) (seven.getD_set_same hk _) y6
  simp only [List.set_set] at r6
  exact r6
theorem wN_size (w : World) (g o : Nat) (x : F7) : (seven.wN w g o x).heap.size = w.heap.size := by unfold seven.wN; simp [World.setCell]
/-- One Part is paid off. -/
def offF (d : Int) (s : Int) (x : F7) : F7 × Int := (full (wvX d x), s + pl.woff d x)
theorem offF_fs (d : Int) : ∀ (l : List F7) (s : Int), (pl.ml (offF d) s l).2 = (pl.ml (wv d) s l).2
  | [], _ => rfl
  | x :: l, s => by
    simp only [pl.ml]
    exact offF_fs d l _
theorem offF_fw (d : Int) : ∀ (l : List F7) (s : Int), (pl.ml (offF d) s l).1 = offL l d
  | [], _ => rfl
  | x :: l, s => by
    simp only [pl.ml, offF_fw d l]
    rfl
set_option maxRecDepth 40000 in
set_option maxHeartbeats 4000000 in
theorem pdS (d : Int) (w : World) (cap g : Nat) (l : List F7) (r : Row w (some ⟨g, 0, none⟩) cap g l) (hn : l.length ≤ 1048577) : Calls Try.prog 78 #[.slice (some ⟨g, 0, none⟩) l.length cap, .int .i64 d] w (Out w (pl.pv l && inR d 0 100000) (poL l d) (poN l d)) := by
  obtain ⟨P, hP⟩ : ∃ P, P = poL l d := ⟨_, rfl⟩
  obtain ⟨M, hM⟩ : ∃ M, M = poN l d := ⟨_, rfl⟩
  rw [← hP, ← hM]
  have HP := Lib.hid hP
  have HM := Lib.hid hM
  clear hP hM
  have GL := Lib.hid (fun h : 0 < l.length => r.lt h)
  have C := Lib.hid (pkS w (some ⟨g, 0, none⟩) cap g l r hn)
  have R := Lib.hid r
  have CD := Lib.hid (fun w1 => dayS d w1)
  have CP := Lib.hid (fun w1 (h : Row w1 (some ⟨g, 0, none⟩) cap g l) => seven.cpS w1 g cap l h hn)
  clear r
  obtain ⟨n, hnz⟩ : ∃ n, n = l.length := ⟨_, rfl⟩
  rw [← hnz] at hn C CP ⊢
  have HNZ := Lib.hid hnz
  clear hnz
  go_enter Try.func78, Try.ntmps78
  go_wp2_with fail
  refine C.out.mono ?_
  rintro e w1 ⟨rfl, b1⟩
  have BN := Lib.hid b1
  have R1 := Lib.hid (R.out.keep (w' := w1) fun h => b1.block g (GL.out h))
  clear b1 R C
  cases hv : pl.pv l with
  | false =>
    have NOK := Lib.hid (show (pl.pv l && inR d 0 100000) = false from (by rw [hv]; rfl))
    have NOL := Lib.hid (HP.out.trans (po_no (by rw [hv]; rfl)).1)
    have NON := Lib.hid (HM.out.trans (po_no (by rw [hv]; rfl)).2)
    clear hv
    go_wp2
    go_ret2
    exact out_no NOK.out NOL.out NON.out BN.out
  | true =>
    have HV := Lib.hid hv
    have PVH := Lib.hid (pl.pv_iff.1 hv)
    clear hv
    cases hd : inR d 0 100000 with
    | false =>
      rw [hd] at CD
      have NOK := Lib.hid (show (pl.pv l && inR d 0 100000) = false from (by rw [HV.out, hd]; rfl))
      have NOL := Lib.hid (HP.out.trans (po_no (by rw [HV.out, hd]; rfl)).1)
      have NON := Lib.hid (HM.out.trans (po_no (by rw [HV.out, hd]; rfl)).2)
      clear hd
      go_wp2_with fail
      refine (CD.out _).mono ?_
      rintro e w' ⟨rfl, rfl⟩
      go_wp2
      go_ret2
      exact out_no NOK.out NOL.out NON.out BN.out
    | true =>
      rw [hd] at CD
      have YP := Lib.hid (show P = pl.fw (offF d) 0 l l.length from by rw [HP.out, (po_yes (by rw [HV.out, hd]; rfl)).1, pl.fw_all, offF_fw])
      have YM := Lib.hid (HM.out.trans (po_yes (by rw [HV.out, hd]; rfl)).2)
      rw [← HNZ.out] at YM YP
      have DD := pl.inR_iff.1 hd
      obtain ⟨dd0, dd1⟩ := DD
      clear hd
      have hn24 : n ≤ 24 := by rw [HNZ.out]; exact PVH.out.1
      have SB := Lib.hid (fun k hk => wv_sum (d := d) (l := l) (fun i hi => PVH.out.pin (i := i) hi) k hk)
      go_wp2_with fail
      refine (CD.out _).mono ?_
      rintro e w' ⟨rfl, rfl⟩
      go_wp2_with fail
      refine (CP.out w1 R1.out).mono ?_
      rintro e w2 ⟨v, rfl, c2, g2, hv2, r2, l2, k2, b2⟩
      rw [← HNZ.out] at hv2
      subst hv2
      have B2 := Lib.hid (BN.out.trans (b2.mono BN.out.size))
      have R2 := Lib.hid r2
      have G2 := Lib.hid (show w.heap.size ≤ g2 from Nat.le_trans BN.out.size l2)
      clear r2 b2 l2
      go_wp2
      go_loopw [7, 8] (fun sv iv wr => Below w.heap.size w wr ∧ g2 < wr.heap.size ∧ ∃ k : Nat, k ≤ n ∧ iv = .int .i64 k ∧ sv = .int .i64 (pl.fs (wv d) 0 l k) ∧ Row wr (some ⟨g2, 0, none⟩) c2 g2 (pl.fw (offF d) 0 l k)) (fun _ iv _ => n - (intOf iv).toNat)
      case atStart => exact ⟨B2.out, k2, 0, by omega, rfl, by rw [pl.fs_zero], by rw [pl.fw_zero]; exact R2.out⟩
      case round =>
        obtain ⟨hB, hg2, k, hk, rfl, rfl, hR⟩ := hrel
        have BB := Lib.hid hB
        have RR := Lib.hid hR
        have m2 := R2.out.room
        rw [← HNZ.out] at m2
        clear hB
        have sB := SB.out k (by rw [← HNZ.out]; exact hk)
        obtain ⟨s0, s1⟩ := sB
        replace s1 : pl.fs (wv d) 0 l k ≤ 100000000000000 := by omega
        by_cases hlt : k < n
        · have HLT := Lib.hid (show k < l.length from by rw [← HNZ.out]; exact hlt)
          have FS := Lib.hid (pl.fs_succ (wv d) 0 HLT.out)
          have FW := Lib.hid (show pl.fw (offF d) 0 l (k + 1) = (pl.fw (offF d) 0 l k).set k (full (wvX d (l.getD k zz))) from pl.fw_succ (offF d) 0 HLT.out)
          have FG := Lib.hid (pl.fw_get (offF d) 0 HLT.out)
          have FL := Lib.hid (show k < (pl.fw (offF d) 0 l k).length from by rw [pl.fw_len]; exact HLT.out)
          have q1 := hR.cells k FL.out
          have fz := hR.free (Nat.lt_of_le_of_lt (Nat.zero_le _) FL.out)
          rw [FG.out] at q1
          obtain ⟨x, hx⟩ : ∃ x, x = l.getD k zz := ⟨_, rfl⟩
          have PX := PVH.out.pin HLT.out
          rw [← hx] at q1 FS FW FG PX
          obtain ⟨S, hS⟩ : ∃ S, S = pl.fs (wv d) 0 l k := ⟨_, rfl⟩
          rw [← hS] at FS s0 s1 ⊢
          obtain ⟨L, hL⟩ : ∃ L, L = pl.fw (offF d) 0 l k := ⟨_, rfl⟩
          rw [← hL] at FW FG RR FL
          obtain ⟨e0, e1, p0, p1, i0, i1, f0, f1, a0, a1, c0, c1, h0, h1⟩ := PX
          clear hx hS hL hR
          have z1 : (k : Int) < (n : Int) := by omega
          have u1 : decide (k < n) = true := by simp; omega
          obtain ⟨x1, x2, x3, x4, x5, x6, x7⟩ := q1
          cases t1 : decide (d < x.1) with
          | false =>
            have WO := Lib.hid (show pl.woff d x = 0 from by unfold pl.woff; rw [if_neg (by simp at t1; omega)])
            go_wp2
            go_roundw
            case rel =>
              refine ⟨(seven.below_wN BB.out G2.out _ (x.1, x.2.1, x.2.2.1, x.2.2.2.1, x.2.1, x.2.2.1, x.2.2.2.1)).alloc (by rw [wN_size]; exact BB.out.size) _, by simp [World.setCell]; omega, k + 1, by omega, by go_num, by rw [FS.out]; unfold wv; rw [WO.out]; simp, ?_⟩
              rw [FW.out, show full (wvX d x) = (x.1, x.2.1, x.2.2.1, x.2.2.2.1, x.2.1, x.2.2.1, x.2.2.2.1) from by unfold full wvX; rw [WO.out]; simp]
              exact (rowPut RR.out FL.out (x.1, x.2.1, x.2.2.1, x.2.2.2.1, x.2.1, x.2.2.1, x.2.2.2.1)).keep fun _ => Below.heap_alloc _ _ _ (by simp [World.setCell]; exact hg2)
            case measure => simp [intOf]; omega
          | true =>
            have WO := Lib.hid (show pl.woff d x = x.2.2.1 - x.2.2.2.2.2.1 from by unfold pl.woff; rw [if_pos (by simp at t1; omega)])
            go_wp2
            go_roundw
            case rel =>
              refine ⟨(seven.below_wN BB.out G2.out _ (x.1, x.2.1, x.2.2.2.2.2.1, x.2.2.2.1, x.2.1, x.2.2.2.2.2.1, x.2.2.2.1)).alloc (by rw [wN_size]; exact BB.out.size) _, by simp [World.setCell]; omega, k + 1, by omega, by go_num, by rw [FS.out]; unfold wv; rw [WO.out]; dsimp only; congr 1; omega, ?_⟩
              rw [FW.out, show full (wvX d x) = (x.1, x.2.1, x.2.2.2.2.2.1, x.2.2.2.1, x.2.1, x.2.2.2.2.2.1, x.2.2.2.1) from by
                have e : x.2.2.1 - (x.2.2.1 - x.2.2.2.2.2.1) = x.2.2.2.2.2.1 := by omega
                unfold full wvX; rw [WO.out]; dsimp only; rw [e]]
              exact (rowPut RR.out FL.out (x.1, x.2.1, x.2.2.2.2.2.1, x.2.2.2.1, x.2.1, x.2.2.2.2.2.1, x.2.2.2.1)).keep fun _ => Below.heap_alloc _ _ _ (by simp [World.setCell]; exact hg2)
            case measure => simp [intOf]; omega
        · have u1 : decide (k < n) = false := by simp; omega
          obtain rfl : k = n := by omega
          clear hR
          go_wp2
          go_ret2
          rw [← YM.out]
          exact out_yes (by rw [YP.out, pl.fw_len, HNZ.out]) (by rw [YP.out]; exact RR.out) G2.out hg2 BB.out
end Go.Proofs.Ytmaejlfjdkkpdaa.base

namespace Go.Proofs.Ytmaejlfjdkkpdaa.ob
open Go.ChangeShapes Go.WideShapes Go.ChangeAt Go.RowKit
open gen
open seven (F7 zz Row At)
open four (F4)
open pl (inR)
open pls (nth Pls OL NewO)
open ord (Sc iok)
/-- The outcomes. -/
def setR (s : Sc) (l : List F4) (p : List (List F7)) (d : Int) (S0 S1 C : Int) (s' : Sc) (l' : List F4) (p' : List (List F7)) : Prop :=
  (ord.ok s l p = false ∧ 0 = S0 ∧ 0 = S1 ∧ 1 = C ∧ zs = s' ∧ [] = l' ∧ [] = p') ∨
  (ord.ok s l p = true ∧ inR d 0 100000 = false ∧ 0 = S0 ∧ 0 = S1 ∧ 5 = C ∧ zs = s' ∧ [] = l' ∧ [] = p') ∨
  (ord.ok s l p = true ∧ inR d 0 100000 = true ∧ (seNs p d).1 = S0 ∧ (seNs p d).2 = S1 ∧ 0 = C ∧ s = s' ∧ l = l' ∧ seLs p d = p')
theorem setR_ex (s : Sc) (l : List F4) (p : List (List F7)) (d : Int) : ∃ S0 S1 C s' l' p', setR s l p d S0 S1 C s' l' p' := by
  cases hk : ord.ok s l p with
  | false => exact ⟨0, 0, 1, zs, [], [], Or.inl ⟨hk, rfl, rfl, rfl, rfl, rfl, rfl⟩⟩
  | true =>
    cases ht : (inR d 0 100000) with
    | false => exact ⟨0, 0, 5, zs, [], [], Or.inr (Or.inl ⟨hk, ht, rfl, rfl, rfl, rfl, rfl, rfl⟩)⟩
    | true => exact ⟨_, _, 0, s, l, _, Or.inr (Or.inr ⟨hk, ht, rfl, rfl, rfl, rfl, rfl, rfl⟩)⟩
theorem setR_len {s : Sc} {l : List F4} {p : List (List F7)} {d S0 S1 C : Int} {s' : Sc} {l' : List F4} {p' : List (List F7)} (h : setR s l p d S0 S1 C s' l' p') : l'.length ≤ l.length ∧ p'.length ≤ p.length := by
  rcases h with ⟨_, _, _, _, _, rfl, rfl⟩ | ⟨_, _, _, _, _, _, rfl, rfl⟩ | ⟨_, _, _, _, _, _, rfl, rfl⟩
  · simp
  · simp
  · exact ⟨Nat.le_refl _, Nat.le_of_eq (wk.fw_len _ _ _ _)⟩
set_option maxRecDepth 100000 in
set_option maxHeartbeats 8000000 in
theorem sttI (d : Int) (w : World) (B : Nat) (s : Sc) (ci gi : Nat) (l : List F4) (cp gp : Nat) (p : List (List F7)) (gs cs : Nat → Nat) (h : OL w B l p (some ⟨gi, 0, none⟩) ci gi (some ⟨gp, 0, none⟩) cp gp gs cs) (hl : l.length ≤ 1048576) (hn : p.length ≤ 1048576) (hm : ∀ i, i < p.length → (nth p i).length ≤ 1048576) {S0 S1 C : Int} {s' : Sc} {l' : List F4} {p' : List (List F7)} (hr : setR s l p d S0 S1 C s' l' p') :
    Calls Try.prog 41 #[.agg #[.int .i64 s.id, .int .i64 s.co, .int .i64 s.me, .int .i64 s.cu, .int .i64 s.da, .int .i64 s.nn, .int .i64 s.ra, .int .i64 s.nu, .int .i64 s.de, .slice (some ⟨gi, 0, none⟩) l.length ci, .slice (some ⟨gp, 0, none⟩) p.length cp, .int .i64 s.op, .int .i64 s.up], .int .i64 d] w fun e w' => ∃ v, e = .returned (.tuple #[v, .int .i64 S0, .int .i64 S1, .int .i64 C]) ∧ Res w s' l' p' v w' := by
  have b0 : Below w.heap.size w ((w.alloc (.cells #[.int .i64 s.id, .int .i64 s.co, .int .i64 s.me, .int .i64 s.cu, .int .i64 s.da, .int .i64 s.nn, .int .i64 s.ra, .int .i64 s.nu, .int .i64 s.de, .slice (some ⟨gi, 0, none⟩) l.length ci, .slice (some ⟨gp, 0, none⟩) p.length cp, .int .i64 s.op, .int .i64 s.up] 31)).alloc (.cells #[.int .i64 0, .int .i64 0, .int .i64 0, .int .i64 0, .int .i64 0, .int .i64 0, .int .i64 0, .int .i64 0, .int .i64 0, .slice none 0 0, .slice none 0 0, .int .i64 0, .int .i64 0] 31)) := bAl (bAl (Below.refl _ _) (Nat.le_refl _) _) (Nat.le_refl _) _
  have B0 := Lib.hid b0
  have O0 := Lib.hid ((OB.new w s (some ⟨gi, 0, none⟩) l.length ci (some ⟨gp, 0, none⟩) p.length cp 31).keep (w' := (w.alloc (.cells #[.int .i64 s.id, .int .i64 s.co, .int .i64 s.me, .int .i64 s.cu, .int .i64 s.da, .int .i64 s.nn, .int .i64 s.ra, .int .i64 s.nu, .int .i64 s.de, .slice (some ⟨gi, 0, none⟩) l.length ci, .slice (some ⟨gp, 0, none⟩) p.length cp, .int .i64 s.op, .int .i64 s.up] 31)).alloc (.cells #[.int .i64 0, .int .i64 0, .int .i64 0, .int .i64 0, .int .i64 0, .int .i64 0, .int .i64 0, .int .i64 0, .int .i64 0, .slice none 0 0, .slice none 0 0, .int .i64 0, .int .i64 0] 31)) (Below.heap_alloc _ _ _ (by simp)))
  have X0 := Blk.new (w.alloc (.cells #[.int .i64 s.id, .int .i64 s.co, .int .i64 s.me, .int .i64 s.cu, .int .i64 s.da, .int .i64 s.nn, .int .i64 s.ra, .int .i64 s.nu, .int .i64 s.de, .slice (some ⟨gi, 0, none⟩) l.length ci, .slice (some ⟨gp, 0, none⟩) p.length cp, .int .i64 s.op, .int .i64 s.up] 31)) #[.int .i64 0, .int .i64 0, .int .i64 0, .int .i64 0, .int .i64 0, .int .i64 0, .int .i64 0, .int .i64 0, .int .i64 0, .slice none 0 0, .slice none 0 0, .int .i64 0, .int .i64 0] 31 13 rfl
  have z0 : ((w.alloc (.cells #[.int .i64 s.id, .int .i64 s.co, .int .i64 s.me, .int .i64 s.cu, .int .i64 s.da, .int .i64 s.nn, .int .i64 s.ra, .int .i64 s.nu, .int .i64 s.de, .slice (some ⟨gi, 0, none⟩) l.length ci, .slice (some ⟨gp, 0, none⟩) p.length cp, .int .i64 s.op, .int .i64 s.up] 31)).alloc (.cells #[.int .i64 0, .int .i64 0, .int .i64 0, .int .i64 0, .int .i64 0, .int .i64 0, .int .i64 0, .int .i64 0, .int .i64 0, .slice none 0 0, .slice none 0 0, .int .i64 0, .int .i64 0] 31)).heap.size = w.heap.size + 1 + 1 := by simp only [sz_al]
  simp only [sz_al] at X0
  have X0 := Lib.hid X0
  have hm' : ∀ i, i < p.length → (nth p i).length ≤ 1048577 := fun i hi => Nat.le_trans (hm i hi) (by omega)
  have CK := okI ((w.alloc (.cells #[.int .i64 s.id, .int .i64 s.co, .int .i64 s.me, .int .i64 s.cu, .int .i64 s.da, .int .i64 s.nn, .int .i64 s.ra, .int .i64 s.nu, .int .i64 s.de, .slice (some ⟨gi, 0, none⟩) l.length ci, .slice (some ⟨gp, 0, none⟩) p.length cp, .int .i64 s.op, .int .i64 s.up] 31)).alloc (.cells #[.int .i64 0, .int .i64 0, .int .i64 0, .int .i64 0, .int .i64 0, .int .i64 0, .int .i64 0, .int .i64 0, .int .i64 0, .slice none 0 0, .slice none 0 0, .int .i64 0, .int .i64 0] 31)) B s _ ci gi l _ cp gp p gs cs (h.below b0) (by omega) (by omega) hm'
  have L := Lib.hid h
  have HM := Lib.hid hm'
  clear h hm hm' b0
  rcases hr with ⟨hk, rfl, rfl, rfl, rfl, rfl, rfl⟩ | ⟨hk, ht, rfl, rfl, rfl, rfl, rfl, rfl⟩ | ⟨hk, ht, rfl, rfl, rfl, rfl, rfl, rfl⟩
  · rw [hk] at CK
    go_enter Try.func41, Try.ntmps41
    go_wp2_with fail
    generalize (w.alloc (.cells #[.int .i64 s.id, .int .i64 s.co, .int .i64 s.me, .int .i64 s.cu, .int .i64 s.da, .int .i64 s.nn, .int .i64 s.ra, .int .i64 s.nu, .int .i64 s.de, .slice (some ⟨gi, 0, none⟩) l.length ci, .slice (some ⟨gp, 0, none⟩) p.length cp, .int .i64 s.op, .int .i64 s.up] 31)).alloc (.cells #[.int .i64 0, .int .i64 0, .int .i64 0, .int .i64 0, .int .i64 0, .int .i64 0, .int .i64 0, .int .i64 0, .int .i64 0, .slice none 0 0, .slice none 0 0, .int .i64 0, .int .i64 0] 31) = W2 at B0 O0 X0 z0 CK ⊢
    refine CK.mono ?_
    rintro e w1 ⟨rfl, b1⟩
    have B1 := Lib.hid (B0.out.trans (b1.mono B0.out.size))
    have O1 := Lib.hid (O0.out.keep (b1.block w.heap.size (by omega)))
    have X1 := Lib.hid (X0.out.below b1 X0.out.lt)
    have z1 := b1.size
    clear b1 O0 X0 B0
    have x0 : w1.cell? ⟨w.heap.size + 1, 0, none⟩ = some (.int .i64 0) := X1.out.cell 0 (by decide)
    have x1 : w1.cell? ⟨w.heap.size + 1, 1, none⟩ = some (.int .i64 0) := X1.out.cell 1 (by decide)
    have x2 : w1.cell? ⟨w.heap.size + 1, 2, none⟩ = some (.int .i64 0) := X1.out.cell 2 (by decide)
    have x3 : w1.cell? ⟨w.heap.size + 1, 3, none⟩ = some (.int .i64 0) := X1.out.cell 3 (by decide)
    have x4 : w1.cell? ⟨w.heap.size + 1, 4, none⟩ = some (.int .i64 0) := X1.out.cell 4 (by decide)
    have x5 : w1.cell? ⟨w.heap.size + 1, 5, none⟩ = some (.int .i64 0) := X1.out.cell 5 (by decide)
    have x6 : w1.cell? ⟨w.heap.size + 1, 6, none⟩ = some (.int .i64 0) := X1.out.cell 6 (by decide)
    have x7 : w1.cell? ⟨w.heap.size + 1, 7, none⟩ = some (.int .i64 0) := X1.out.cell 7 (by decide)
    have x8 : w1.cell? ⟨w.heap.size + 1, 8, none⟩ = some (.int .i64 0) := X1.out.cell 8 (by decide)
    have x9 : w1.cell? ⟨w.heap.size + 1, 9, none⟩ = some (.slice none 0 0) := X1.out.cell 9 (by decide)
    have x10 : w1.cell? ⟨w.heap.size + 1, 10, none⟩ = some (.slice none 0 0) := X1.out.cell 10 (by decide)
    have x11 : w1.cell? ⟨w.heap.size + 1, 11, none⟩ = some (.int .i64 0) := X1.out.cell 11 (by decide)
    have x12 : w1.cell? ⟨w.heap.size + 1, 12, none⟩ = some (.int .i64 0) := X1.out.cell 12 (by decide)
    have f0 := X1.out.free 0
    have f1 := X1.out.free 1
    have f2 := X1.out.free 2
    have f3 := X1.out.free 3
    have f4 := X1.out.free 4
    have f5 := X1.out.free 5
    have f6 := X1.out.free 6
    have f7 := X1.out.free 7
    have f8 := X1.out.free 8
    have f9 := X1.out.free 9
    have f10 := X1.out.free 10
    have f11 := X1.out.free 11
    have f12 := X1.out.free 12
    have Y := Lib.hid (((((((((((((X1.out.set (k := 0) (by decide) (.int .i64 0)).set (k := 1) (by decide) (.int .i64 0)).set (k := 2) (by decide) (.int .i64 0)).set (k := 3) (by decide) (.int .i64 0)).set (k := 4) (by decide) (.int .i64 0)).set (k := 5) (by decide) (.int .i64 0)).set (k := 6) (by decide) (.int .i64 0)).set (k := 7) (by decide) (.int .i64 0)).set (k := 8) (by decide) (.int .i64 0)).set (k := 9) (by decide) (.slice none 0 0)).set (k := 10) (by decide) (.slice none 0 0)).set (k := 11) (by decide) (.int .i64 0)).set (k := 12) (by decide) (.int .i64 0))
    have BF := Lib.hid (show Below w.heap.size w (((((((((((((w1.setCell ⟨w.heap.size + 1, 0, none⟩ (.int .i64 0)).setCell ⟨w.heap.size + 1, 1, none⟩ (.int .i64 0)).setCell ⟨w.heap.size + 1, 2, none⟩ (.int .i64 0)).setCell ⟨w.heap.size + 1, 3, none⟩ (.int .i64 0)).setCell ⟨w.heap.size + 1, 4, none⟩ (.int .i64 0)).setCell ⟨w.heap.size + 1, 5, none⟩ (.int .i64 0)).setCell ⟨w.heap.size + 1, 6, none⟩ (.int .i64 0)).setCell ⟨w.heap.size + 1, 7, none⟩ (.int .i64 0)).setCell ⟨w.heap.size + 1, 8, none⟩ (.int .i64 0)).setCell ⟨w.heap.size + 1, 9, none⟩ (.slice none 0 0)).setCell ⟨w.heap.size + 1, 10, none⟩ (.slice none 0 0)).setCell ⟨w.heap.size + 1, 11, none⟩ (.int .i64 0)).setCell ⟨w.heap.size + 1, 12, none⟩ (.int .i64 0)) from (((((((((((((B1.out.setCell (p := ⟨w.heap.size + 1, 0, none⟩) (show w.heap.size ≤ w.heap.size + 1 by omega) (.int .i64 0)).setCell (p := ⟨w.heap.size + 1, 1, none⟩) (show w.heap.size ≤ w.heap.size + 1 by omega) (.int .i64 0)).setCell (p := ⟨w.heap.size + 1, 2, none⟩) (show w.heap.size ≤ w.heap.size + 1 by omega) (.int .i64 0)).setCell (p := ⟨w.heap.size + 1, 3, none⟩) (show w.heap.size ≤ w.heap.size + 1 by omega) (.int .i64 0)).setCell (p := ⟨w.heap.size + 1, 4, none⟩) (show w.heap.size ≤ w.heap.size + 1 by omega) (.int .i64 0)).setCell (p := ⟨w.heap.size + 1, 5, none⟩) (show w.heap.size ≤ w.heap.size + 1 by omega) (.int .i64 0)).setCell (p := ⟨w.heap.size + 1, 6, none⟩) (show w.heap.size ≤ w.heap.size + 1 by omega) (.int .i64 0)).setCell (p := ⟨w.heap.size + 1, 7, none⟩) (show w.heap.size ≤ w.heap.size + 1 by omega) (.int .i64 0)).setCell (p := ⟨w.heap.size + 1, 8, none⟩) (show w.heap.size ≤ w.heap.size + 1 by omega) (.int .i64 0)).setCell (p := ⟨w.heap.size + 1, 9, none⟩) (show w.heap.size ≤ w.heap.size + 1 by omega) (.slice none 0 0)).setCell (p := ⟨w.heap.size + 1, 10, none⟩) (show w.heap.size ≤ w.heap.size + 1 by omega) (.slice none 0 0)).setCell (p := ⟨w.heap.size + 1, 11, none⟩) (show w.heap.size ≤ w.heap.size + 1 by omega) (.int .i64 0)).setCell (p := ⟨w.heap.size + 1, 12, none⟩) (show w.heap.size ≤ w.heap.size + 1 by omega) (.int .i64 0)))
    go_wp2
    change bodyPost _ _ _ _ _ (((((((((((((w1.setCell ⟨w.heap.size + 1, 0, none⟩ (.int .i64 0)).setCell ⟨w.heap.size + 1, 1, none⟩ (.int .i64 0)).setCell ⟨w.heap.size + 1, 2, none⟩ (.int .i64 0)).setCell ⟨w.heap.size + 1, 3, none⟩ (.int .i64 0)).setCell ⟨w.heap.size + 1, 4, none⟩ (.int .i64 0)).setCell ⟨w.heap.size + 1, 5, none⟩ (.int .i64 0)).setCell ⟨w.heap.size + 1, 6, none⟩ (.int .i64 0)).setCell ⟨w.heap.size + 1, 7, none⟩ (.int .i64 0)).setCell ⟨w.heap.size + 1, 8, none⟩ (.int .i64 0)).setCell ⟨w.heap.size + 1, 9, none⟩ (.slice none 0 0)).setCell ⟨w.heap.size + 1, 10, none⟩ (.slice none 0 0)).setCell ⟨w.heap.size + 1, 11, none⟩ (.int .i64 0)).setCell ⟨w.heap.size + 1, 12, none⟩ (.int .i64 0))
    generalize ((((((((((((w1.setCell ⟨w.heap.size + 1, 0, none⟩ (.int .i64 0)).setCell ⟨w.heap.size + 1, 1, none⟩ (.int .i64 0)).setCell ⟨w.heap.size + 1, 2, none⟩ (.int .i64 0)).setCell ⟨w.heap.size + 1, 3, none⟩ (.int .i64 0)).setCell ⟨w.heap.size + 1, 4, none⟩ (.int .i64 0)).setCell ⟨w.heap.size + 1, 5, none⟩ (.int .i64 0)).setCell ⟨w.heap.size + 1, 6, none⟩ (.int .i64 0)).setCell ⟨w.heap.size + 1, 7, none⟩ (.int .i64 0)).setCell ⟨w.heap.size + 1, 8, none⟩ (.int .i64 0)).setCell ⟨w.heap.size + 1, 9, none⟩ (.slice none 0 0)).setCell ⟨w.heap.size + 1, 10, none⟩ (.slice none 0 0)).setCell ⟨w.heap.size + 1, 11, none⟩ (.int .i64 0)).setCell ⟨w.heap.size + 1, 12, none⟩ (.int .i64 0) = W9 at Y BF ⊢
    have y0 : W9.cell? ⟨w.heap.size + 1, 0, none⟩ = some (.int .i64 0) := Y.out.cell 0 (by decide)
    have y1 : W9.cell? ⟨w.heap.size + 1, 1, none⟩ = some (.int .i64 0) := Y.out.cell 1 (by decide)
    have y2 : W9.cell? ⟨w.heap.size + 1, 2, none⟩ = some (.int .i64 0) := Y.out.cell 2 (by decide)
    have y3 : W9.cell? ⟨w.heap.size + 1, 3, none⟩ = some (.int .i64 0) := Y.out.cell 3 (by decide)
    have y4 : W9.cell? ⟨w.heap.size + 1, 4, none⟩ = some (.int .i64 0) := Y.out.cell 4 (by decide)
    have y5 : W9.cell? ⟨w.heap.size + 1, 5, none⟩ = some (.int .i64 0) := Y.out.cell 5 (by decide)
    have y6 : W9.cell? ⟨w.heap.size + 1, 6, none⟩ = some (.int .i64 0) := Y.out.cell 6 (by decide)
    have y7 : W9.cell? ⟨w.heap.size + 1, 7, none⟩ = some (.int .i64 0) := Y.out.cell 7 (by decide)
    have y8 : W9.cell? ⟨w.heap.size + 1, 8, none⟩ = some (.int .i64 0) := Y.out.cell 8 (by decide)
    have y9 : W9.cell? ⟨w.heap.size + 1, 9, none⟩ = some (.slice none 0 0) := Y.out.cell 9 (by decide)
    have y10 : W9.cell? ⟨w.heap.size + 1, 10, none⟩ = some (.slice none 0 0) := Y.out.cell 10 (by decide)
    have y11 : W9.cell? ⟨w.heap.size + 1, 11, none⟩ = some (.int .i64 0) := Y.out.cell 11 (by decide)
    have y12 : W9.cell? ⟨w.heap.size + 1, 12, none⟩ = some (.int .i64 0) := Y.out.cell 12 (by decide)
    exact bodyPost_ret (v := .tuple #[.agg #[.int .i64 0, .int .i64 0, .int .i64 0, .int .i64 0, .int .i64 0, .int .i64 0, .int .i64 0, .int .i64 0, .int .i64 0, .slice none 0 0, .slice none 0 0, .int .i64 0, .int .i64 0], .int .i64 0, .int .i64 0, .int .i64 1]) (by simp [results, Try.results41, go_sem, y0, y1, y2, y3, y4, y5, y6, y7, y8, y9, y10, y11, y12]) rfl ⟨_, rfl, res_no BF.out⟩
  · rw [hk] at CK
    have CT := fun W => base.dayI d W
    rw [ht] at CT
    go_enter Try.func41, Try.ntmps41
    go_wp2_with fail
    generalize (w.alloc (.cells #[.int .i64 s.id, .int .i64 s.co, .int .i64 s.me, .int .i64 s.cu, .int .i64 s.da, .int .i64 s.nn, .int .i64 s.ra, .int .i64 s.nu, .int .i64 s.de, .slice (some ⟨gi, 0, none⟩) l.length ci, .slice (some ⟨gp, 0, none⟩) p.length cp, .int .i64 s.op, .int .i64 s.up] 31)).alloc (.cells #[.int .i64 0, .int .i64 0, .int .i64 0, .int .i64 0, .int .i64 0, .int .i64 0, .int .i64 0, .int .i64 0, .int .i64 0, .slice none 0 0, .slice none 0 0, .int .i64 0, .int .i64 0] 31) = W2 at B0 O0 X0 z0 CK ⊢
    refine CK.mono ?_
    rintro e w1 ⟨rfl, b1⟩
    have B1 := Lib.hid (B0.out.trans (b1.mono B0.out.size))
    have O1 := Lib.hid (O0.out.keep (b1.block w.heap.size (by omega)))
    have X1 := Lib.hid (X0.out.below b1 X0.out.lt)
    have z1 := b1.size
    clear b1 O0 X0 B0
    go_wp2_with fail
    refine (CT _).mono ?_
    rintro e w' ⟨rfl, rfl⟩
    have x0 : w1.cell? ⟨w.heap.size + 1, 0, none⟩ = some (.int .i64 0) := X1.out.cell 0 (by decide)
    have x1 : w1.cell? ⟨w.heap.size + 1, 1, none⟩ = some (.int .i64 0) := X1.out.cell 1 (by decide)
    have x2 : w1.cell? ⟨w.heap.size + 1, 2, none⟩ = some (.int .i64 0) := X1.out.cell 2 (by decide)
    have x3 : w1.cell? ⟨w.heap.size + 1, 3, none⟩ = some (.int .i64 0) := X1.out.cell 3 (by decide)
    have x4 : w1.cell? ⟨w.heap.size + 1, 4, none⟩ = some (.int .i64 0) := X1.out.cell 4 (by decide)
    have x5 : w1.cell? ⟨w.heap.size + 1, 5, none⟩ = some (.int .i64 0) := X1.out.cell 5 (by decide)
    have x6 : w1.cell? ⟨w.heap.size + 1, 6, none⟩ = some (.int .i64 0) := X1.out.cell 6 (by decide)
    have x7 : w1.cell? ⟨w.heap.size + 1, 7, none⟩ = some (.int .i64 0) := X1.out.cell 7 (by decide)
    have x8 : w1.cell? ⟨w.heap.size + 1, 8, none⟩ = some (.int .i64 0) := X1.out.cell 8 (by decide)
    have x9 : w1.cell? ⟨w.heap.size + 1, 9, none⟩ = some (.slice none 0 0) := X1.out.cell 9 (by decide)
    have x10 : w1.cell? ⟨w.heap.size + 1, 10, none⟩ = some (.slice none 0 0) := X1.out.cell 10 (by decide)
    have x11 : w1.cell? ⟨w.heap.size + 1, 11, none⟩ = some (.int .i64 0) := X1.out.cell 11 (by decide)
    have x12 : w1.cell? ⟨w.heap.size + 1, 12, none⟩ = some (.int .i64 0) := X1.out.cell 12 (by decide)
    have f0 := X1.out.free 0
    have f1 := X1.out.free 1
    have f2 := X1.out.free 2
    have f3 := X1.out.free 3
    have f4 := X1.out.free 4
    have f5 := X1.out.free 5
    have f6 := X1.out.free 6
    have f7 := X1.out.free 7
    have f8 := X1.out.free 8
    have f9 := X1.out.free 9
    have f10 := X1.out.free 10
    have f11 := X1.out.free 11
    have f12 := X1.out.free 12
    have Y := Lib.hid (((((((((((((X1.out.set (k := 0) (by decide) (.int .i64 0)).set (k := 1) (by decide) (.int .i64 0)).set (k := 2) (by decide) (.int .i64 0)).set (k := 3) (by decide) (.int .i64 0)).set (k := 4) (by decide) (.int .i64 0)).set (k := 5) (by decide) (.int .i64 0)).set (k := 6) (by decide) (.int .i64 0)).set (k := 7) (by decide) (.int .i64 0)).set (k := 8) (by decide) (.int .i64 0)).set (k := 9) (by decide) (.slice none 0 0)).set (k := 10) (by decide) (.slice none 0 0)).set (k := 11) (by decide) (.int .i64 0)).set (k := 12) (by decide) (.int .i64 0))
    have BF := Lib.hid (show Below w.heap.size w (((((((((((((w1.setCell ⟨w.heap.size + 1, 0, none⟩ (.int .i64 0)).setCell ⟨w.heap.size + 1, 1, none⟩ (.int .i64 0)).setCell ⟨w.heap.size + 1, 2, none⟩ (.int .i64 0)).setCell ⟨w.heap.size + 1, 3, none⟩ (.int .i64 0)).setCell ⟨w.heap.size + 1, 4, none⟩ (.int .i64 0)).setCell ⟨w.heap.size + 1, 5, none⟩ (.int .i64 0)).setCell ⟨w.heap.size + 1, 6, none⟩ (.int .i64 0)).setCell ⟨w.heap.size + 1, 7, none⟩ (.int .i64 0)).setCell ⟨w.heap.size + 1, 8, none⟩ (.int .i64 0)).setCell ⟨w.heap.size + 1, 9, none⟩ (.slice none 0 0)).setCell ⟨w.heap.size + 1, 10, none⟩ (.slice none 0 0)).setCell ⟨w.heap.size + 1, 11, none⟩ (.int .i64 0)).setCell ⟨w.heap.size + 1, 12, none⟩ (.int .i64 0)) from (((((((((((((B1.out.setCell (p := ⟨w.heap.size + 1, 0, none⟩) (show w.heap.size ≤ w.heap.size + 1 by omega) (.int .i64 0)).setCell (p := ⟨w.heap.size + 1, 1, none⟩) (show w.heap.size ≤ w.heap.size + 1 by omega) (.int .i64 0)).setCell (p := ⟨w.heap.size + 1, 2, none⟩) (show w.heap.size ≤ w.heap.size + 1 by omega) (.int .i64 0)).setCell (p := ⟨w.heap.size + 1, 3, none⟩) (show w.heap.size ≤ w.heap.size + 1 by omega) (.int .i64 0)).setCell (p := ⟨w.heap.size + 1, 4, none⟩) (show w.heap.size ≤ w.heap.size + 1 by omega) (.int .i64 0)).setCell (p := ⟨w.heap.size + 1, 5, none⟩) (show w.heap.size ≤ w.heap.size + 1 by omega) (.int .i64 0)).setCell (p := ⟨w.heap.size + 1, 6, none⟩) (show w.heap.size ≤ w.heap.size + 1 by omega) (.int .i64 0)).setCell (p := ⟨w.heap.size + 1, 7, none⟩) (show w.heap.size ≤ w.heap.size + 1 by omega) (.int .i64 0)).setCell (p := ⟨w.heap.size + 1, 8, none⟩) (show w.heap.size ≤ w.heap.size + 1 by omega) (.int .i64 0)).setCell (p := ⟨w.heap.size + 1, 9, none⟩) (show w.heap.size ≤ w.heap.size + 1 by omega) (.slice none 0 0)).setCell (p := ⟨w.heap.size + 1, 10, none⟩) (show w.heap.size ≤ w.heap.size + 1 by omega) (.slice none 0 0)).setCell (p := ⟨w.heap.size + 1, 11, none⟩) (show w.heap.size ≤ w.heap.size + 1 by omega) (.int .i64 0)).setCell (p := ⟨w.heap.size + 1, 12, none⟩) (show w.heap.size ≤ w.heap.size + 1 by omega) (.int .i64 0)))
    go_wp2
    change bodyPost _ _ _ _ _ (((((((((((((w1.setCell ⟨w.heap.size + 1, 0, none⟩ (.int .i64 0)).setCell ⟨w.heap.size + 1, 1, none⟩ (.int .i64 0)).setCell ⟨w.heap.size + 1, 2, none⟩ (.int .i64 0)).setCell ⟨w.heap.size + 1, 3, none⟩ (.int .i64 0)).setCell ⟨w.heap.size + 1, 4, none⟩ (.int .i64 0)).setCell ⟨w.heap.size + 1, 5, none⟩ (.int .i64 0)).setCell ⟨w.heap.size + 1, 6, none⟩ (.int .i64 0)).setCell ⟨w.heap.size + 1, 7, none⟩ (.int .i64 0)).setCell ⟨w.heap.size + 1, 8, none⟩ (.int .i64 0)).setCell ⟨w.heap.size + 1, 9, none⟩ (.slice none 0 0)).setCell ⟨w.heap.size + 1, 10, none⟩ (.slice none 0 0)).setCell ⟨w.heap.size + 1, 11, none⟩ (.int .i64 0)).setCell ⟨w.heap.size + 1, 12, none⟩ (.int .i64 0))
    generalize ((((((((((((w1.setCell ⟨w.heap.size + 1, 0, none⟩ (.int .i64 0)).setCell ⟨w.heap.size + 1, 1, none⟩ (.int .i64 0)).setCell ⟨w.heap.size + 1, 2, none⟩ (.int .i64 0)).setCell ⟨w.heap.size + 1, 3, none⟩ (.int .i64 0)).setCell ⟨w.heap.size + 1, 4, none⟩ (.int .i64 0)).setCell ⟨w.heap.size + 1, 5, none⟩ (.int .i64 0)).setCell ⟨w.heap.size + 1, 6, none⟩ (.int .i64 0)).setCell ⟨w.heap.size + 1, 7, none⟩ (.int .i64 0)).setCell ⟨w.heap.size + 1, 8, none⟩ (.int .i64 0)).setCell ⟨w.heap.size + 1, 9, none⟩ (.slice none 0 0)).setCell ⟨w.heap.size + 1, 10, none⟩ (.slice none 0 0)).setCell ⟨w.heap.size + 1, 11, none⟩ (.int .i64 0)).setCell ⟨w.heap.size + 1, 12, none⟩ (.int .i64 0) = W9 at Y BF ⊢
    have y0 : W9.cell? ⟨w.heap.size + 1, 0, none⟩ = some (.int .i64 0) := Y.out.cell 0 (by decide)
    have y1 : W9.cell? ⟨w.heap.size + 1, 1, none⟩ = some (.int .i64 0) := Y.out.cell 1 (by decide)
    have y2 : W9.cell? ⟨w.heap.size + 1, 2, none⟩ = some (.int .i64 0) := Y.out.cell 2 (by decide)
    have y3 : W9.cell? ⟨w.heap.size + 1, 3, none⟩ = some (.int .i64 0) := Y.out.cell 3 (by decide)
    have y4 : W9.cell? ⟨w.heap.size + 1, 4, none⟩ = some (.int .i64 0) := Y.out.cell 4 (by decide)
    have y5 : W9.cell? ⟨w.heap.size + 1, 5, none⟩ = some (.int .i64 0) := Y.out.cell 5 (by decide)
    have y6 : W9.cell? ⟨w.heap.size + 1, 6, none⟩ = some (.int .i64 0) := Y.out.cell 6 (by decide)
    have y7 : W9.cell? ⟨w.heap.size + 1, 7, none⟩ = some (.int .i64 0) := Y.out.cell 7 (by decide)
    have y8 : W9.cell? ⟨w.heap.size + 1, 8, none⟩ = some (.int .i64 0) := Y.out.cell 8 (by decide)
    have y9 : W9.cell? ⟨w.heap.size + 1, 9, none⟩ = some (.slice none 0 0) := Y.out.cell 9 (by decide)
    have y10 : W9.cell? ⟨w.heap.size + 1, 10, none⟩ = some (.slice none 0 0) := Y.out.cell 10 (by decide)
    have y11 : W9.cell? ⟨w.heap.size + 1, 11, none⟩ = some (.int .i64 0) := Y.out.cell 11 (by decide)
    have y12 : W9.cell? ⟨w.heap.size + 1, 12, none⟩ = some (.int .i64 0) := Y.out.cell 12 (by decide)
    exact bodyPost_ret (v := .tuple #[.agg #[.int .i64 0, .int .i64 0, .int .i64 0, .int .i64 0, .int .i64 0, .int .i64 0, .int .i64 0, .int .i64 0, .int .i64 0, .slice none 0 0, .slice none 0 0, .int .i64 0, .int .i64 0], .int .i64 0, .int .i64 0, .int .i64 5]) (by simp [results, Try.results41, go_sem, y0, y1, y2, y3, y4, y5, y6, y7, y8, y9, y10, y11, y12]) rfl ⟨_, rfl, res_no BF.out⟩
  · have OKV := ord.ok_iff.1 hk
    rw [hk] at CK
    have CT := fun W => base.dayI d W
    rw [ht] at CT
    have HT := Lib.hid ht
    have PVh := Lib.hid OKV.pv
    have p8 := OKV.p1
    clear OKV hk ht
    go_enter Try.func41, Try.ntmps41
    go_wp2_with fail
    generalize (w.alloc (.cells #[.int .i64 s.id, .int .i64 s.co, .int .i64 s.me, .int .i64 s.cu, .int .i64 s.da, .int .i64 s.nn, .int .i64 s.ra, .int .i64 s.nu, .int .i64 s.de, .slice (some ⟨gi, 0, none⟩) l.length ci, .slice (some ⟨gp, 0, none⟩) p.length cp, .int .i64 s.op, .int .i64 s.up] 31)).alloc (.cells #[.int .i64 0, .int .i64 0, .int .i64 0, .int .i64 0, .int .i64 0, .int .i64 0, .int .i64 0, .int .i64 0, .int .i64 0, .slice none 0 0, .slice none 0 0, .int .i64 0, .int .i64 0] 31) = W2 at B0 O0 X0 z0 CK ⊢
    refine CK.mono ?_
    rintro e w1 ⟨rfl, b1⟩
    have B1 := Lib.hid (B0.out.trans (b1.mono B0.out.size))
    have O1 := Lib.hid (O0.out.keep (b1.block w.heap.size (by omega)))
    have X1 := Lib.hid (X0.out.below b1 X0.out.lt)
    have z1 := b1.size
    clear b1 O0 X0 B0
    go_wp2_with fail
    refine (CT _).mono ?_
    rintro e w' ⟨rfl, rfl⟩
    have CC := copI w1 B w.heap.size s ci gi l cp gp p gs cs O1.out (L.out.below B1.out) hl hn HM.out
    go_wp2_with fail
    refine CC.mono ?_
    rintro e w2 ⟨v, rfl, ci', gi', cp', gp', gs', cs', rfl, ol, a1, a2, a3, a4, ne, b2⟩
    have B2 := Lib.hid ((B1.out.trans (b2.mono B1.out.size)).alloc (B1.out.trans (b2.mono B1.out.size)).size (.cells #[.int .i64 s.id, .int .i64 s.co, .int .i64 s.me, .int .i64 s.cu, .int .i64 s.da, .int .i64 s.nn, .int .i64 s.ra, .int .i64 s.nu, .int .i64 s.de, .slice (some ⟨gi', 0, none⟩) l.length ci', .slice (some ⟨gp', 0, none⟩) p.length cp', .int .i64 s.op, .int .i64 s.up] 31))
    have al := fun c hc => Below.heap_alloc w2 (.cells #[.int .i64 s.id, .int .i64 s.co, .int .i64 s.me, .int .i64 s.cu, .int .i64 s.da, .int .i64 s.nn, .int .i64 s.ra, .int .i64 s.nu, .int .i64 s.de, .slice (some ⟨gi', 0, none⟩) l.length ci', .slice (some ⟨gp', 0, none⟩) p.length cp', .int .i64 s.op, .int .i64 s.up] 31) c hc
    have N2 := Lib.hid (Blk.new w2 #[.int .i64 s.id, .int .i64 s.co, .int .i64 s.me, .int .i64 s.cu, .int .i64 s.da, .int .i64 s.nn, .int .i64 s.ra, .int .i64 s.nu, .int .i64 s.de, .slice (some ⟨gi', 0, none⟩) l.length ci', .slice (some ⟨gp', 0, none⟩) p.length cp', .int .i64 s.op, .int .i64 s.up] 31 13 rfl)
    have NO2 := Lib.hid (OB.new w2 s (some ⟨gi', 0, none⟩) l.length ci' (some ⟨gp', 0, none⟩) p.length cp' 31)
    have L2 := Lib.hid (ol.below ((Below.refl w2.heap.size w2).alloc (Nat.le_refl _) (.cells #[.int .i64 s.id, .int .i64 s.co, .int .i64 s.me, .int .i64 s.cu, .int .i64 s.da, .int .i64 s.nn, .int .i64 s.ra, .int .i64 s.nu, .int .i64 s.de, .slice (some ⟨gi', 0, none⟩) l.length ci', .slice (some ⟨gp', 0, none⟩) p.length cp', .int .i64 s.op, .int .i64 s.up] 31)))
    have X2 := Lib.hid ((X1.out.below b2 X1.out.lt).keep (w' := w2.alloc (.cells #[.int .i64 s.id, .int .i64 s.co, .int .i64 s.me, .int .i64 s.cu, .int .i64 s.da, .int .i64 s.nn, .int .i64 s.ra, .int .i64 s.nu, .int .i64 s.de, .slice (some ⟨gi', 0, none⟩) l.length ci', .slice (some ⟨gp', 0, none⟩) p.length cp', .int .i64 s.op, .int .i64 s.up] 31)) (al _ (X1.out.below b2 X1.out.lt).lt) (by simp))
    have z2 := b2.size
    have z2' : (w2.alloc (.cells #[.int .i64 s.id, .int .i64 s.co, .int .i64 s.me, .int .i64 s.cu, .int .i64 s.da, .int .i64 s.nn, .int .i64 s.ra, .int .i64 s.nu, .int .i64 s.de, .slice (some ⟨gi', 0, none⟩) l.length ci', .slice (some ⟨gp', 0, none⟩) p.length cp', .int .i64 s.op, .int .i64 s.up] 31)).heap.size = w2.heap.size + 1 := by simp only [sz_al]
    have DD := Lib.hid (show w.heap.size + 1 + 1 ≤ w1.heap.size ∧ w1.heap.size ≤ gi' ∧ gi' < w2.heap.size ∧ w1.heap.size ≤ gp' ∧ gp' < w2.heap.size ∧ gi' ≠ gp' from ⟨by omega, a1, a2, a3, a4, ne⟩)
    clear b2 al ol a1 a2 a3 a4 ne CC O1 X1 B1
    go_wp2_with fail
    obtain ⟨nb, hnb⟩ : ∃ nb, nb = w2.heap.size := ⟨_, rfl⟩
    have HNB := Lib.hid hnb
    rw [← hnb] at N2 NO2 z2' ⊢
    generalize w2.alloc (.cells #[.int .i64 s.id, .int .i64 s.co, .int .i64 s.me, .int .i64 s.cu, .int .i64 s.da, .int .i64 s.nn, .int .i64 s.ra, .int .i64 s.nu, .int .i64 s.de, .slice (some ⟨gi', 0, none⟩) l.length ci', .slice (some ⟨gp', 0, none⟩) p.length cp', .int .i64 s.op, .int .i64 s.up] 31) = W3 at B2 N2 NO2 L2 X2 z2' ⊢
    clear hnb
    have CL := setI d W3 nb s (some ⟨gi', 0, none⟩) l.length ci' cp' gp' p gs' cs' NO2.out L2.out.plans (by have := DD.out; have := HNB.out; omega) (by have := DD.out; have := HNB.out; omega) PVh.out p8 HT.out
    refine CL.mono ?_
    rintro e w4 ⟨gs2, cs2, rfl, pl4, fr, T⟩
    have B5 := Lib.hid (B2.out.trans (T.1.mono (show w.heap.size ≤ gp' by have := DD.out; omega)))
    have X5 := Lib.hid (X2.out.keep (w' := w4) (T.2 _ (by have := DD.out; omega) X2.out.lt) T.1.size)
    have N5 := Lib.hid (N2.out.keep (w' := w4) (T.2 _ (by have := DD.out; have := HNB.out; omega) N2.out.lt) T.1.size)
    have PLEN := Lib.hid (show (seLs p d).length = p.length from wk.fw_len _ _ _ _)
    have L5 := Lib.hid (show OL w4 (w.heap.size + 1 + 1) l (seLs p d) (some ⟨gi', 0, none⟩) ci' gi' (some ⟨gp', 0, none⟩) cp' gp' gs2 cs2 from
      ⟨L2.out.items.keep fun hh => T.2 gi' (by have := DD.out; omega) (L2.out.gi1 hh), pl4, fun _ => by have := DD.out; omega, fun _ => by have := DD.out; omega, fun i hi => by have := fr i (by rw [← PLEN.out]; exact hi); have := DD.out; have := HNB.out; omega, fun _ _ => by have := DD.out; omega, fun i hi _ => by have := fr i (by rw [← PLEN.out]; exact hi); have := DD.out; have := HNB.out; omega⟩)
    clear T pl4 fr B2 N2 NO2 L2 X2
    have x0 : w4.cell? ⟨w.heap.size + 1, 0, none⟩ = some (.int .i64 0) := X5.out.cell 0 (by decide)
    have x1 : w4.cell? ⟨w.heap.size + 1, 1, none⟩ = some (.int .i64 0) := X5.out.cell 1 (by decide)
    have x2 : w4.cell? ⟨w.heap.size + 1, 2, none⟩ = some (.int .i64 0) := X5.out.cell 2 (by decide)
    have x3 : w4.cell? ⟨w.heap.size + 1, 3, none⟩ = some (.int .i64 0) := X5.out.cell 3 (by decide)
    have x4 : w4.cell? ⟨w.heap.size + 1, 4, none⟩ = some (.int .i64 0) := X5.out.cell 4 (by decide)
    have x5 : w4.cell? ⟨w.heap.size + 1, 5, none⟩ = some (.int .i64 0) := X5.out.cell 5 (by decide)
    have x6 : w4.cell? ⟨w.heap.size + 1, 6, none⟩ = some (.int .i64 0) := X5.out.cell 6 (by decide)
    have x7 : w4.cell? ⟨w.heap.size + 1, 7, none⟩ = some (.int .i64 0) := X5.out.cell 7 (by decide)
    have x8 : w4.cell? ⟨w.heap.size + 1, 8, none⟩ = some (.int .i64 0) := X5.out.cell 8 (by decide)
    have x9 : w4.cell? ⟨w.heap.size + 1, 9, none⟩ = some (.slice none 0 0) := X5.out.cell 9 (by decide)
    have x10 : w4.cell? ⟨w.heap.size + 1, 10, none⟩ = some (.slice none 0 0) := X5.out.cell 10 (by decide)
    have x11 : w4.cell? ⟨w.heap.size + 1, 11, none⟩ = some (.int .i64 0) := X5.out.cell 11 (by decide)
    have x12 : w4.cell? ⟨w.heap.size + 1, 12, none⟩ = some (.int .i64 0) := X5.out.cell 12 (by decide)
    have f0 := X5.out.free 0
    have f1 := X5.out.free 1
    have f2 := X5.out.free 2
    have f3 := X5.out.free 3
    have f4 := X5.out.free 4
    have f5 := X5.out.free 5
    have f6 := X5.out.free 6
    have f7 := X5.out.free 7
    have f8 := X5.out.free 8
    have f9 := X5.out.free 9
    have f10 := X5.out.free 10
    have f11 := X5.out.free 11
    have f12 := X5.out.free 12
    have n0 : w4.cell? ⟨nb, 0, none⟩ = some (.int .i64 s.id) := N5.out.cell 0 (by decide)
    have n1 : w4.cell? ⟨nb, 1, none⟩ = some (.int .i64 s.co) := N5.out.cell 1 (by decide)
    have n2 : w4.cell? ⟨nb, 2, none⟩ = some (.int .i64 s.me) := N5.out.cell 2 (by decide)
    have n3 : w4.cell? ⟨nb, 3, none⟩ = some (.int .i64 s.cu) := N5.out.cell 3 (by decide)
    have n4 : w4.cell? ⟨nb, 4, none⟩ = some (.int .i64 s.da) := N5.out.cell 4 (by decide)
    have n5 : w4.cell? ⟨nb, 5, none⟩ = some (.int .i64 s.nn) := N5.out.cell 5 (by decide)
    have n6 : w4.cell? ⟨nb, 6, none⟩ = some (.int .i64 s.ra) := N5.out.cell 6 (by decide)
    have n7 : w4.cell? ⟨nb, 7, none⟩ = some (.int .i64 s.nu) := N5.out.cell 7 (by decide)
    have n8 : w4.cell? ⟨nb, 8, none⟩ = some (.int .i64 s.de) := N5.out.cell 8 (by decide)
    have n9 : w4.cell? ⟨nb, 9, none⟩ = some (.slice (some ⟨gi', 0, none⟩) l.length ci') := N5.out.cell 9 (by decide)
    have n10 : w4.cell? ⟨nb, 10, none⟩ = some (.slice (some ⟨gp', 0, none⟩) p.length cp') := N5.out.cell 10 (by decide)
    have n11 : w4.cell? ⟨nb, 11, none⟩ = some (.int .i64 s.op) := N5.out.cell 11 (by decide)
    have n12 : w4.cell? ⟨nb, 12, none⟩ = some (.int .i64 s.up) := N5.out.cell 12 (by decide)
    have Y := Lib.hid (((((((((((((X5.out.set (k := 0) (by decide) (.int .i64 s.id)).set (k := 1) (by decide) (.int .i64 s.co)).set (k := 2) (by decide) (.int .i64 s.me)).set (k := 3) (by decide) (.int .i64 s.cu)).set (k := 4) (by decide) (.int .i64 s.da)).set (k := 5) (by decide) (.int .i64 s.nn)).set (k := 6) (by decide) (.int .i64 s.ra)).set (k := 7) (by decide) (.int .i64 s.nu)).set (k := 8) (by decide) (.int .i64 s.de)).set (k := 9) (by decide) (.slice (some ⟨gi', 0, none⟩) l.length ci')).set (k := 10) (by decide) (.slice (some ⟨gp', 0, none⟩) p.length cp')).set (k := 11) (by decide) (.int .i64 s.op)).set (k := 12) (by decide) (.int .i64 s.up))
    have BF := Lib.hid (show Below w.heap.size w (((((((((((((w4.setCell ⟨w.heap.size + 1, 0, none⟩ (.int .i64 s.id)).setCell ⟨w.heap.size + 1, 1, none⟩ (.int .i64 s.co)).setCell ⟨w.heap.size + 1, 2, none⟩ (.int .i64 s.me)).setCell ⟨w.heap.size + 1, 3, none⟩ (.int .i64 s.cu)).setCell ⟨w.heap.size + 1, 4, none⟩ (.int .i64 s.da)).setCell ⟨w.heap.size + 1, 5, none⟩ (.int .i64 s.nn)).setCell ⟨w.heap.size + 1, 6, none⟩ (.int .i64 s.ra)).setCell ⟨w.heap.size + 1, 7, none⟩ (.int .i64 s.nu)).setCell ⟨w.heap.size + 1, 8, none⟩ (.int .i64 s.de)).setCell ⟨w.heap.size + 1, 9, none⟩ (.slice (some ⟨gi', 0, none⟩) l.length ci')).setCell ⟨w.heap.size + 1, 10, none⟩ (.slice (some ⟨gp', 0, none⟩) p.length cp')).setCell ⟨w.heap.size + 1, 11, none⟩ (.int .i64 s.op)).setCell ⟨w.heap.size + 1, 12, none⟩ (.int .i64 s.up)) from (((((((((((((B5.out.setCell (p := ⟨w.heap.size + 1, 0, none⟩) (show w.heap.size ≤ w.heap.size + 1 by omega) (.int .i64 s.id)).setCell (p := ⟨w.heap.size + 1, 1, none⟩) (show w.heap.size ≤ w.heap.size + 1 by omega) (.int .i64 s.co)).setCell (p := ⟨w.heap.size + 1, 2, none⟩) (show w.heap.size ≤ w.heap.size + 1 by omega) (.int .i64 s.me)).setCell (p := ⟨w.heap.size + 1, 3, none⟩) (show w.heap.size ≤ w.heap.size + 1 by omega) (.int .i64 s.cu)).setCell (p := ⟨w.heap.size + 1, 4, none⟩) (show w.heap.size ≤ w.heap.size + 1 by omega) (.int .i64 s.da)).setCell (p := ⟨w.heap.size + 1, 5, none⟩) (show w.heap.size ≤ w.heap.size + 1 by omega) (.int .i64 s.nn)).setCell (p := ⟨w.heap.size + 1, 6, none⟩) (show w.heap.size ≤ w.heap.size + 1 by omega) (.int .i64 s.ra)).setCell (p := ⟨w.heap.size + 1, 7, none⟩) (show w.heap.size ≤ w.heap.size + 1 by omega) (.int .i64 s.nu)).setCell (p := ⟨w.heap.size + 1, 8, none⟩) (show w.heap.size ≤ w.heap.size + 1 by omega) (.int .i64 s.de)).setCell (p := ⟨w.heap.size + 1, 9, none⟩) (show w.heap.size ≤ w.heap.size + 1 by omega) (.slice (some ⟨gi', 0, none⟩) l.length ci')).setCell (p := ⟨w.heap.size + 1, 10, none⟩) (show w.heap.size ≤ w.heap.size + 1 by omega) (.slice (some ⟨gp', 0, none⟩) p.length cp')).setCell (p := ⟨w.heap.size + 1, 11, none⟩) (show w.heap.size ≤ w.heap.size + 1 by omega) (.int .i64 s.op)).setCell (p := ⟨w.heap.size + 1, 12, none⟩) (show w.heap.size ≤ w.heap.size + 1 by omega) (.int .i64 s.up)))
    have LF := Lib.hid (show OL (((((((((((((w4.setCell ⟨w.heap.size + 1, 0, none⟩ (.int .i64 s.id)).setCell ⟨w.heap.size + 1, 1, none⟩ (.int .i64 s.co)).setCell ⟨w.heap.size + 1, 2, none⟩ (.int .i64 s.me)).setCell ⟨w.heap.size + 1, 3, none⟩ (.int .i64 s.cu)).setCell ⟨w.heap.size + 1, 4, none⟩ (.int .i64 s.da)).setCell ⟨w.heap.size + 1, 5, none⟩ (.int .i64 s.nn)).setCell ⟨w.heap.size + 1, 6, none⟩ (.int .i64 s.ra)).setCell ⟨w.heap.size + 1, 7, none⟩ (.int .i64 s.nu)).setCell ⟨w.heap.size + 1, 8, none⟩ (.int .i64 s.de)).setCell ⟨w.heap.size + 1, 9, none⟩ (.slice (some ⟨gi', 0, none⟩) l.length ci')).setCell ⟨w.heap.size + 1, 10, none⟩ (.slice (some ⟨gp', 0, none⟩) p.length cp')).setCell ⟨w.heap.size + 1, 11, none⟩ (.int .i64 s.op)).setCell ⟨w.heap.size + 1, 12, none⟩ (.int .i64 s.up)) w.heap.size l (seLs p d) (some ⟨gi', 0, none⟩) ci' gi' (some ⟨gp', 0, none⟩) cp' gp' gs2 cs2 from ⟨L5.out.items.keep fun _ => (((((((((((((Below.heap_setCell _ _ _ _ (show gi' ≠ w.heap.size + 1 by have := DD.out; omega)).trans (Below.heap_setCell _ _ _ _ (show gi' ≠ w.heap.size + 1 by have := DD.out; omega))).trans (Below.heap_setCell _ _ _ _ (show gi' ≠ w.heap.size + 1 by have := DD.out; omega))).trans (Below.heap_setCell _ _ _ _ (show gi' ≠ w.heap.size + 1 by have := DD.out; omega))).trans (Below.heap_setCell _ _ _ _ (show gi' ≠ w.heap.size + 1 by have := DD.out; omega))).trans (Below.heap_setCell _ _ _ _ (show gi' ≠ w.heap.size + 1 by have := DD.out; omega))).trans (Below.heap_setCell _ _ _ _ (show gi' ≠ w.heap.size + 1 by have := DD.out; omega))).trans (Below.heap_setCell _ _ _ _ (show gi' ≠ w.heap.size + 1 by have := DD.out; omega))).trans (Below.heap_setCell _ _ _ _ (show gi' ≠ w.heap.size + 1 by have := DD.out; omega))).trans (Below.heap_setCell _ _ _ _ (show gi' ≠ w.heap.size + 1 by have := DD.out; omega))).trans (Below.heap_setCell _ _ _ _ (show gi' ≠ w.heap.size + 1 by have := DD.out; omega))).trans (Below.heap_setCell _ _ _ _ (show gi' ≠ w.heap.size + 1 by have := DD.out; omega))).trans (Below.heap_setCell _ _ _ _ (show gi' ≠ w.heap.size + 1 by have := DD.out; omega))), L5.out.plans.keep (fun _ => (((((((((((((Below.heap_setCell _ _ _ _ (show gp' ≠ w.heap.size + 1 by have := DD.out; omega)).trans (Below.heap_setCell _ _ _ _ (show gp' ≠ w.heap.size + 1 by have := DD.out; omega))).trans (Below.heap_setCell _ _ _ _ (show gp' ≠ w.heap.size + 1 by have := DD.out; omega))).trans (Below.heap_setCell _ _ _ _ (show gp' ≠ w.heap.size + 1 by have := DD.out; omega))).trans (Below.heap_setCell _ _ _ _ (show gp' ≠ w.heap.size + 1 by have := DD.out; omega))).trans (Below.heap_setCell _ _ _ _ (show gp' ≠ w.heap.size + 1 by have := DD.out; omega))).trans (Below.heap_setCell _ _ _ _ (show gp' ≠ w.heap.size + 1 by have := DD.out; omega))).trans (Below.heap_setCell _ _ _ _ (show gp' ≠ w.heap.size + 1 by have := DD.out; omega))).trans (Below.heap_setCell _ _ _ _ (show gp' ≠ w.heap.size + 1 by have := DD.out; omega))).trans (Below.heap_setCell _ _ _ _ (show gp' ≠ w.heap.size + 1 by have := DD.out; omega))).trans (Below.heap_setCell _ _ _ _ (show gp' ≠ w.heap.size + 1 by have := DD.out; omega))).trans (Below.heap_setCell _ _ _ _ (show gp' ≠ w.heap.size + 1 by have := DD.out; omega))).trans (Below.heap_setCell _ _ _ _ (show gp' ≠ w.heap.size + 1 by have := DD.out; omega)))) (fun i hi => (((((((((((((Below.heap_setCell _ _ _ _ (show gs2 i ≠ w.heap.size + 1 by have := L5.out.gs0 i hi; omega)).trans (Below.heap_setCell _ _ _ _ (show gs2 i ≠ w.heap.size + 1 by have := L5.out.gs0 i hi; omega))).trans (Below.heap_setCell _ _ _ _ (show gs2 i ≠ w.heap.size + 1 by have := L5.out.gs0 i hi; omega))).trans (Below.heap_setCell _ _ _ _ (show gs2 i ≠ w.heap.size + 1 by have := L5.out.gs0 i hi; omega))).trans (Below.heap_setCell _ _ _ _ (show gs2 i ≠ w.heap.size + 1 by have := L5.out.gs0 i hi; omega))).trans (Below.heap_setCell _ _ _ _ (show gs2 i ≠ w.heap.size + 1 by have := L5.out.gs0 i hi; omega))).trans (Below.heap_setCell _ _ _ _ (show gs2 i ≠ w.heap.size + 1 by have := L5.out.gs0 i hi; omega))).trans (Below.heap_setCell _ _ _ _ (show gs2 i ≠ w.heap.size + 1 by have := L5.out.gs0 i hi; omega))).trans (Below.heap_setCell _ _ _ _ (show gs2 i ≠ w.heap.size + 1 by have := L5.out.gs0 i hi; omega))).trans (Below.heap_setCell _ _ _ _ (show gs2 i ≠ w.heap.size + 1 by have := L5.out.gs0 i hi; omega))).trans (Below.heap_setCell _ _ _ _ (show gs2 i ≠ w.heap.size + 1 by have := L5.out.gs0 i hi; omega))).trans (Below.heap_setCell _ _ _ _ (show gs2 i ≠ w.heap.size + 1 by have := L5.out.gs0 i hi; omega))).trans (Below.heap_setCell _ _ _ _ (show gs2 i ≠ w.heap.size + 1 by have := L5.out.gs0 i hi; omega)))) (by simp only [sz_set]; exact Nat.le_refl _), fun h => Nat.le_trans (show w.heap.size ≤ w.heap.size + 1 + 1 by omega) (L5.out.gi0 h), fun h => Nat.le_trans (show w.heap.size ≤ w.heap.size + 1 + 1 by omega) (L5.out.gp0 h), fun i h => Nat.le_trans (show w.heap.size ≤ w.heap.size + 1 + 1 by omega) (L5.out.gs0 i h), L5.out.ip, L5.out.is_⟩)
    clear X5 N5 L5 B5
    go_wp2
    change bodyPost _ _ _ _ _ (((((((((((((w4.setCell ⟨w.heap.size + 1, 0, none⟩ (.int .i64 s.id)).setCell ⟨w.heap.size + 1, 1, none⟩ (.int .i64 s.co)).setCell ⟨w.heap.size + 1, 2, none⟩ (.int .i64 s.me)).setCell ⟨w.heap.size + 1, 3, none⟩ (.int .i64 s.cu)).setCell ⟨w.heap.size + 1, 4, none⟩ (.int .i64 s.da)).setCell ⟨w.heap.size + 1, 5, none⟩ (.int .i64 s.nn)).setCell ⟨w.heap.size + 1, 6, none⟩ (.int .i64 s.ra)).setCell ⟨w.heap.size + 1, 7, none⟩ (.int .i64 s.nu)).setCell ⟨w.heap.size + 1, 8, none⟩ (.int .i64 s.de)).setCell ⟨w.heap.size + 1, 9, none⟩ (.slice (some ⟨gi', 0, none⟩) l.length ci')).setCell ⟨w.heap.size + 1, 10, none⟩ (.slice (some ⟨gp', 0, none⟩) p.length cp')).setCell ⟨w.heap.size + 1, 11, none⟩ (.int .i64 s.op)).setCell ⟨w.heap.size + 1, 12, none⟩ (.int .i64 s.up))
    generalize ((((((((((((w4.setCell ⟨w.heap.size + 1, 0, none⟩ (.int .i64 s.id)).setCell ⟨w.heap.size + 1, 1, none⟩ (.int .i64 s.co)).setCell ⟨w.heap.size + 1, 2, none⟩ (.int .i64 s.me)).setCell ⟨w.heap.size + 1, 3, none⟩ (.int .i64 s.cu)).setCell ⟨w.heap.size + 1, 4, none⟩ (.int .i64 s.da)).setCell ⟨w.heap.size + 1, 5, none⟩ (.int .i64 s.nn)).setCell ⟨w.heap.size + 1, 6, none⟩ (.int .i64 s.ra)).setCell ⟨w.heap.size + 1, 7, none⟩ (.int .i64 s.nu)).setCell ⟨w.heap.size + 1, 8, none⟩ (.int .i64 s.de)).setCell ⟨w.heap.size + 1, 9, none⟩ (.slice (some ⟨gi', 0, none⟩) l.length ci')).setCell ⟨w.heap.size + 1, 10, none⟩ (.slice (some ⟨gp', 0, none⟩) p.length cp')).setCell ⟨w.heap.size + 1, 11, none⟩ (.int .i64 s.op)).setCell ⟨w.heap.size + 1, 12, none⟩ (.int .i64 s.up) = W9 at Y BF LF ⊢
    have y0 : W9.cell? ⟨w.heap.size + 1, 0, none⟩ = some (.int .i64 s.id) := Y.out.cell 0 (by decide)
    have y1 : W9.cell? ⟨w.heap.size + 1, 1, none⟩ = some (.int .i64 s.co) := Y.out.cell 1 (by decide)
    have y2 : W9.cell? ⟨w.heap.size + 1, 2, none⟩ = some (.int .i64 s.me) := Y.out.cell 2 (by decide)
    have y3 : W9.cell? ⟨w.heap.size + 1, 3, none⟩ = some (.int .i64 s.cu) := Y.out.cell 3 (by decide)
    have y4 : W9.cell? ⟨w.heap.size + 1, 4, none⟩ = some (.int .i64 s.da) := Y.out.cell 4 (by decide)
    have y5 : W9.cell? ⟨w.heap.size + 1, 5, none⟩ = some (.int .i64 s.nn) := Y.out.cell 5 (by decide)
    have y6 : W9.cell? ⟨w.heap.size + 1, 6, none⟩ = some (.int .i64 s.ra) := Y.out.cell 6 (by decide)
    have y7 : W9.cell? ⟨w.heap.size + 1, 7, none⟩ = some (.int .i64 s.nu) := Y.out.cell 7 (by decide)
    have y8 : W9.cell? ⟨w.heap.size + 1, 8, none⟩ = some (.int .i64 s.de) := Y.out.cell 8 (by decide)
    have y9 : W9.cell? ⟨w.heap.size + 1, 9, none⟩ = some (.slice (some ⟨gi', 0, none⟩) l.length ci') := Y.out.cell 9 (by decide)
    have y10 : W9.cell? ⟨w.heap.size + 1, 10, none⟩ = some (.slice (some ⟨gp', 0, none⟩) p.length cp') := Y.out.cell 10 (by decide)
    have y11 : W9.cell? ⟨w.heap.size + 1, 11, none⟩ = some (.int .i64 s.op) := Y.out.cell 11 (by decide)
    have y12 : W9.cell? ⟨w.heap.size + 1, 12, none⟩ = some (.int .i64 s.up) := Y.out.cell 12 (by decide)
    refine bodyPost_ret (v := .tuple #[.agg #[.int .i64 s.id, .int .i64 s.co, .int .i64 s.me, .int .i64 s.cu, .int .i64 s.da, .int .i64 s.nn, .int .i64 s.ra, .int .i64 s.nu, .int .i64 s.de, .slice (some ⟨gi', 0, none⟩) l.length ci', .slice (some ⟨gp', 0, none⟩) p.length cp', .int .i64 s.op, .int .i64 s.up], .int .i64 (seNs p d).1, .int .i64 (seNs p d).2, .int .i64 0]) (by simp [results, Try.results41, go_sem, y0, y1, y2, y3, y4, y5, y6, y7, y8, y9, y10, y11, y12]) rfl ⟨_, rfl, _, _, _, _, _, _, _, _, ?_, LF.out, BF.out⟩
    rw [PLEN.out]
end Go.Proofs.Ytmaejlfjdkkpdaa.ob

namespace Go.Proofs.Ytmaejlfjdkkpdaa.ob
open Go.ChangeShapes Go.WideShapes Go.ChangeAt Go.RowKit
open gen
open seven (F7 zz Row At)
open four (F4)
open pl (inR)
open pls (nth Pls OL NewO)
open ord (Sc iok)
set_option maxRecDepth 100000 in
set_option maxHeartbeats 8000000 in
theorem sttS (d : Int) (w : World) (B : Nat) (s : Sc) (ci gi : Nat) (l : List F4) (cp gp : Nat) (p : List (List F7)) (gs cs : Nat → Nat) (h : OL w B l p (some ⟨gi, 0, none⟩) ci gi (some ⟨gp, 0, none⟩) cp gp gs cs) (hl : l.length ≤ 1048576) (hn : p.length ≤ 1048576) (hm : ∀ i, i < p.length → (nth p i).length ≤ 1048576) {S0 S1 C : Int} {s' : Sc} {l' : List F4} {p' : List (List F7)} (hr : setR s l p d S0 S1 C s' l' p') :
    Calls Try.prog 40 #[.agg #[.int .i64 s.id, .int .i64 s.co, .int .i64 s.me, .int .i64 s.cu, .int .i64 s.da, .int .i64 s.nn, .int .i64 s.ra, .int .i64 s.nu, .int .i64 s.de, .slice (some ⟨gi, 0, none⟩) l.length ci, .slice (some ⟨gp, 0, none⟩) p.length cp, .int .i64 s.op, .int .i64 s.up], .int .i64 d] w fun e w' => ∃ v, e = .returned (.tuple #[v, .int .i64 S0, .int .i64 S1, .int .i64 C]) ∧ Res w s' l' p' v w' := by
  have b0 : Below w.heap.size w ((w.alloc (.cells #[.int .i64 s.id, .int .i64 s.co, .int .i64 s.me, .int .i64 s.cu, .int .i64 s.da, .int .i64 s.nn, .int .i64 s.ra, .int .i64 s.nu, .int .i64 s.de, .slice (some ⟨gi, 0, none⟩) l.length ci, .slice (some ⟨gp, 0, none⟩) p.length cp, .int .i64 s.op, .int .i64 s.up] 31)).alloc (.cells #[.int .i64 0, .int .i64 0, .int .i64 0, .int .i64 0, .int .i64 0, .int .i64 0, .int .i64 0, .int .i64 0, .int .i64 0, .slice none 0 0, .slice none 0 0, .int .i64 0, .int .i64 0] 31)) := bAl (bAl (Below.refl _ _) (Nat.le_refl _) _) (Nat.le_refl _) _
  have B0 := Lib.hid b0
  have O0 := Lib.hid ((OB.new w s (some ⟨gi, 0, none⟩) l.length ci (some ⟨gp, 0, none⟩) p.length cp 31).keep (w' := (w.alloc (.cells #[.int .i64 s.id, .int .i64 s.co, .int .i64 s.me, .int .i64 s.cu, .int .i64 s.da, .int .i64 s.nn, .int .i64 s.ra, .int .i64 s.nu, .int .i64 s.de, .slice (some ⟨gi, 0, none⟩) l.length ci, .slice (some ⟨gp, 0, none⟩) p.length cp, .int .i64 s.op, .int .i64 s.up] 31)).alloc (.cells #[.int .i64 0, .int .i64 0, .int .i64 0, .int .i64 0, .int .i64 0, .int .i64 0, .int .i64 0, .int .i64 0, .int .i64 0, .slice none 0 0, .slice none 0 0, .int .i64 0, .int .i64 0] 31)) (Below.heap_alloc _ _ _ (by simp)))
  have X0 := Blk.new (w.alloc (.cells #[.int .i64 s.id, .int .i64 s.co, .int .i64 s.me, .int .i64 s.cu, .int .i64 s.da, .int .i64 s.nn, .int .i64 s.ra, .int .i64 s.nu, .int .i64 s.de, .slice (some ⟨gi, 0, none⟩) l.length ci, .slice (some ⟨gp, 0, none⟩) p.length cp, .int .i64 s.op, .int .i64 s.up] 31)) #[.int .i64 0, .int .i64 0, .int .i64 0, .int .i64 0, .int .i64 0, .int .i64 0, .int .i64 0, .int .i64 0, .int .i64 0, .slice none 0 0, .slice none 0 0, .int .i64 0, .int .i64 0] 31 13 rfl
  have z0 : ((w.alloc (.cells #[.int .i64 s.id, .int .i64 s.co, .int .i64 s.me, .int .i64 s.cu, .int .i64 s.da, .int .i64 s.nn, .int .i64 s.ra, .int .i64 s.nu, .int .i64 s.de, .slice (some ⟨gi, 0, none⟩) l.length ci, .slice (some ⟨gp, 0, none⟩) p.length cp, .int .i64 s.op, .int .i64 s.up] 31)).alloc (.cells #[.int .i64 0, .int .i64 0, .int .i64 0, .int .i64 0, .int .i64 0, .int .i64 0, .int .i64 0, .int .i64 0, .int .i64 0, .slice none 0 0, .slice none 0 0, .int .i64 0, .int .i64 0] 31)).heap.size = w.heap.size + 1 + 1 := by simp only [sz_al]
  simp only [sz_al] at X0
  have X0 := Lib.hid X0
  have hm' : ∀ i, i < p.length → (nth p i).length ≤ 1048577 := fun i hi => Nat.le_trans (hm i hi) (by omega)
  have CK := okS ((w.alloc (.cells #[.int .i64 s.id, .int .i64 s.co, .int .i64 s.me, .int .i64 s.cu, .int .i64 s.da, .int .i64 s.nn, .int .i64 s.ra, .int .i64 s.nu, .int .i64 s.de, .slice (some ⟨gi, 0, none⟩) l.length ci, .slice (some ⟨gp, 0, none⟩) p.length cp, .int .i64 s.op, .int .i64 s.up] 31)).alloc (.cells #[.int .i64 0, .int .i64 0, .int .i64 0, .int .i64 0, .int .i64 0, .int .i64 0, .int .i64 0, .int .i64 0, .int .i64 0, .slice none 0 0, .slice none 0 0, .int .i64 0, .int .i64 0] 31)) B s _ ci gi l _ cp gp p gs cs (h.below b0) hl hn hm'
  have L := Lib.hid h
  have HM := Lib.hid hm'
  clear h hm hm' b0
  rcases hr with ⟨hk, rfl, rfl, rfl, rfl, rfl, rfl⟩ | ⟨hk, ht, rfl, rfl, rfl, rfl, rfl, rfl⟩ | ⟨hk, ht, rfl, rfl, rfl, rfl, rfl, rfl⟩
  · rw [hk] at CK
    go_enter Try.func40, Try.ntmps40
    go_wp2_with fail
    generalize (w.alloc (.cells #[.int .i64 s.id, .int .i64 s.co, .int .i64 s.me, .int .i64 s.cu, .int .i64 s.da, .int .i64 s.nn, .int .i64 s.ra, .int .i64 s.nu, .int .i64 s.de, .slice (some ⟨gi, 0, none⟩) l.length ci, .slice (some ⟨gp, 0, none⟩) p.length cp, .int .i64 s.op, .int .i64 s.up] 31)).alloc (.cells #[.int .i64 0, .int .i64 0, .int .i64 0, .int .i64 0, .int .i64 0, .int .i64 0, .int .i64 0, .int .i64 0, .int .i64 0, .slice none 0 0, .slice none 0 0, .int .i64 0, .int .i64 0] 31) = W2 at B0 O0 X0 z0 CK ⊢
    refine CK.mono ?_
    rintro e w1 ⟨rfl, b1⟩
    have B1 := Lib.hid (B0.out.trans (b1.mono B0.out.size))
    have O1 := Lib.hid (O0.out.keep (b1.block w.heap.size (by omega)))
    have X1 := Lib.hid (X0.out.below b1 X0.out.lt)
    have z1 := b1.size
    clear b1 O0 X0 B0
    have x0 : w1.cell? ⟨w.heap.size + 1, 0, none⟩ = some (.int .i64 0) := X1.out.cell 0 (by decide)
    have x1 : w1.cell? ⟨w.heap.size + 1, 1, none⟩ = some (.int .i64 0) := X1.out.cell 1 (by decide)
    have x2 : w1.cell? ⟨w.heap.size + 1, 2, none⟩ = some (.int .i64 0) := X1.out.cell 2 (by decide)
    have x3 : w1.cell? ⟨w.heap.size + 1, 3, none⟩ = some (.int .i64 0) := X1.out.cell 3 (by decide)
    have x4 : w1.cell? ⟨w.heap.size + 1, 4, none⟩ = some (.int .i64 0) := X1.out.cell 4 (by decide)
    have x5 : w1.cell? ⟨w.heap.size + 1, 5, none⟩ = some (.int .i64 0) := X1.out.cell 5 (by decide)
    have x6 : w1.cell? ⟨w.heap.size + 1, 6, none⟩ = some (.int .i64 0) := X1.out.cell 6 (by decide)
    have x7 : w1.cell? ⟨w.heap.size + 1, 7, none⟩ = some (.int .i64 0) := X1.out.cell 7 (by decide)
    have x8 : w1.cell? ⟨w.heap.size + 1, 8, none⟩ = some (.int .i64 0) := X1.out.cell 8 (by decide)
    have x9 : w1.cell? ⟨w.heap.size + 1, 9, none⟩ = some (.slice none 0 0) := X1.out.cell 9 (by decide)
    have x10 : w1.cell? ⟨w.heap.size + 1, 10, none⟩ = some (.slice none 0 0) := X1.out.cell 10 (by decide)
    have x11 : w1.cell? ⟨w.heap.size + 1, 11, none⟩ = some (.int .i64 0) := X1.out.cell 11 (by decide)
    have x12 : w1.cell? ⟨w.heap.size + 1, 12, none⟩ = some (.int .i64 0) := X1.out.cell 12 (by decide)
    have f0 := X1.out.free 0
    have f1 := X1.out.free 1
    have f2 := X1.out.free 2
    have f3 := X1.out.free 3
    have f4 := X1.out.free 4
    have f5 := X1.out.free 5
    have f6 := X1.out.free 6
    have f7 := X1.out.free 7
    have f8 := X1.out.free 8
    have f9 := X1.out.free 9
    have f10 := X1.out.free 10
    have f11 := X1.out.free 11
    have f12 := X1.out.free 12
    have Y := Lib.hid (((((((((((((X1.out.set (k := 0) (by decide) (.int .i64 0)).set (k := 1) (by decide) (.int .i64 0)).set (k := 2) (by decide) (.int .i64 0)).set (k := 3) (by decide) (.int .i64 0)).set (k := 4) (by decide) (.int .i64 0)).set (k := 5) (by decide) (.int .i64 0)).set (k := 6) (by decide) (.int .i64 0)).set (k := 7) (by decide) (.int .i64 0)).set (k := 8) (by decide) (.int .i64 0)).set (k := 9) (by decide) (.slice none 0 0)).set (k := 10) (by decide) (.slice none 0 0)).set (k := 11) (by decide) (.int .i64 0)).set (k := 12) (by decide) (.int .i64 0))
    have BF := Lib.hid (show Below w.heap.size w (((((((((((((w1.setCell ⟨w.heap.size + 1, 0, none⟩ (.int .i64 0)).setCell ⟨w.heap.size + 1, 1, none⟩ (.int .i64 0)).setCell ⟨w.heap.size + 1, 2, none⟩ (.int .i64 0)).setCell ⟨w.heap.size + 1, 3, none⟩ (.int .i64 0)).setCell ⟨w.heap.size + 1, 4, none⟩ (.int .i64 0)).setCell ⟨w.heap.size + 1, 5, none⟩ (.int .i64 0)).setCell ⟨w.heap.size + 1, 6, none⟩ (.int .i64 0)).setCell ⟨w.heap.size + 1, 7, none⟩ (.int .i64 0)).setCell ⟨w.heap.size + 1, 8, none⟩ (.int .i64 0)).setCell ⟨w.heap.size + 1, 9, none⟩ (.slice none 0 0)).setCell ⟨w.heap.size + 1, 10, none⟩ (.slice none 0 0)).setCell ⟨w.heap.size + 1, 11, none⟩ (.int .i64 0)).setCell ⟨w.heap.size + 1, 12, none⟩ (.int .i64 0)) from (((((((((((((B1.out.setCell (p := ⟨w.heap.size + 1, 0, none⟩) (show w.heap.size ≤ w.heap.size + 1 by omega) (.int .i64 0)).setCell (p := ⟨w.heap.size + 1, 1, none⟩) (show w.heap.size ≤ w.heap.size + 1 by omega) (.int .i64 0)).setCell (p := ⟨w.heap.size + 1, 2, none⟩) (show w.heap.size ≤ w.heap.size + 1 by omega) (.int .i64 0)).setCell (p := ⟨w.heap.size + 1, 3, none⟩) (show w.heap.size ≤ w.heap.size + 1 by omega) (.int .i64 0)).setCell (p := ⟨w.heap.size + 1, 4, none⟩) (show w.heap.size ≤ w.heap.size + 1 by omega) (.int .i64 0)).setCell (p := ⟨w.heap.size + 1, 5, none⟩) (show w.heap.size ≤ w.heap.size + 1 by omega) (.int .i64 0)).setCell (p := ⟨w.heap.size + 1, 6, none⟩) (show w.heap.size ≤ w.heap.size + 1 by omega) (.int .i64 0)).setCell (p := ⟨w.heap.size + 1, 7, none⟩) (show w.heap.size ≤ w.heap.size + 1 by omega) (.int .i64 0)).setCell (p := ⟨w.heap.size + 1, 8, none⟩) (show w.heap.size ≤ w.heap.size + 1 by omega) (.int .i64 0)).setCell (p := ⟨w.heap.size + 1, 9, none⟩) (show w.heap.size ≤ w.heap.size + 1 by omega) (.slice none 0 0)).setCell (p := ⟨w.heap.size + 1, 10, none⟩) (show w.heap.size ≤ w.heap.size + 1 by omega) (.slice none 0 0)).setCell (p := ⟨w.heap.size + 1, 11, none⟩) (show w.heap.size ≤ w.heap.size + 1 by omega) (.int .i64 0)).setCell (p := ⟨w.heap.size + 1, 12, none⟩) (show w.heap.size ≤ w.heap.size + 1 by omega) (.int .i64 0)))
    go_wp2
    change bodyPost _ _ _ _ _ (((((((((((((w1.setCell ⟨w.heap.size + 1, 0, none⟩ (.int .i64 0)).setCell ⟨w.heap.size + 1, 1, none⟩ (.int .i64 0)).setCell ⟨w.heap.size + 1, 2, none⟩ (.int .i64 0)).setCell ⟨w.heap.size + 1, 3, none⟩ (.int .i64 0)).setCell ⟨w.heap.size + 1, 4, none⟩ (.int .i64 0)).setCell ⟨w.heap.size + 1, 5, none⟩ (.int .i64 0)).setCell ⟨w.heap.size + 1, 6, none⟩ (.int .i64 0)).setCell ⟨w.heap.size + 1, 7, none⟩ (.int .i64 0)).setCell ⟨w.heap.size + 1, 8, none⟩ (.int .i64 0)).setCell ⟨w.heap.size + 1, 9, none⟩ (.slice none 0 0)).setCell ⟨w.heap.size + 1, 10, none⟩ (.slice none 0 0)).setCell ⟨w.heap.size + 1, 11, none⟩ (.int .i64 0)).setCell ⟨w.heap.size + 1, 12, none⟩ (.int .i64 0))
    generalize ((((((((((((w1.setCell ⟨w.heap.size + 1, 0, none⟩ (.int .i64 0)).setCell ⟨w.heap.size + 1, 1, none⟩ (.int .i64 0)).setCell ⟨w.heap.size + 1, 2, none⟩ (.int .i64 0)).setCell ⟨w.heap.size + 1, 3, none⟩ (.int .i64 0)).setCell ⟨w.heap.size + 1, 4, none⟩ (.int .i64 0)).setCell ⟨w.heap.size + 1, 5, none⟩ (.int .i64 0)).setCell ⟨w.heap.size + 1, 6, none⟩ (.int .i64 0)).setCell ⟨w.heap.size + 1, 7, none⟩ (.int .i64 0)).setCell ⟨w.heap.size + 1, 8, none⟩ (.int .i64 0)).setCell ⟨w.heap.size + 1, 9, none⟩ (.slice none 0 0)).setCell ⟨w.heap.size + 1, 10, none⟩ (.slice none 0 0)).setCell ⟨w.heap.size + 1, 11, none⟩ (.int .i64 0)).setCell ⟨w.heap.size + 1, 12, none⟩ (.int .i64 0) = W9 at Y BF ⊢
    have y0 : W9.cell? ⟨w.heap.size + 1, 0, none⟩ = some (.int .i64 0) := Y.out.cell 0 (by decide)
    have y1 : W9.cell? ⟨w.heap.size + 1, 1, none⟩ = some (.int .i64 0) := Y.out.cell 1 (by decide)
    have y2 : W9.cell? ⟨w.heap.size + 1, 2, none⟩ = some (.int .i64 0) := Y.out.cell 2 (by decide)
    have y3 : W9.cell? ⟨w.heap.size + 1, 3, none⟩ = some (.int .i64 0) := Y.out.cell 3 (by decide)
    have y4 : W9.cell? ⟨w.heap.size + 1, 4, none⟩ = some (.int .i64 0) := Y.out.cell 4 (by decide)
    have y5 : W9.cell? ⟨w.heap.size + 1, 5, none⟩ = some (.int .i64 0) := Y.out.cell 5 (by decide)
    have y6 : W9.cell? ⟨w.heap.size + 1, 6, none⟩ = some (.int .i64 0) := Y.out.cell 6 (by decide)
    have y7 : W9.cell? ⟨w.heap.size + 1, 7, none⟩ = some (.int .i64 0) := Y.out.cell 7 (by decide)
    have y8 : W9.cell? ⟨w.heap.size + 1, 8, none⟩ = some (.int .i64 0) := Y.out.cell 8 (by decide)
    have y9 : W9.cell? ⟨w.heap.size + 1, 9, none⟩ = some (.slice none 0 0) := Y.out.cell 9 (by decide)
    have y10 : W9.cell? ⟨w.heap.size + 1, 10, none⟩ = some (.slice none 0 0) := Y.out.cell 10 (by decide)
    have y11 : W9.cell? ⟨w.heap.size + 1, 11, none⟩ = some (.int .i64 0) := Y.out.cell 11 (by decide)
    have y12 : W9.cell? ⟨w.heap.size + 1, 12, none⟩ = some (.int .i64 0) := Y.out.cell 12 (by decide)
    exact bodyPost_ret (v := .tuple #[.agg #[.int .i64 0, .int .i64 0, .int .i64 0, .int .i64 0, .int .i64 0, .int .i64 0, .int .i64 0, .int .i64 0, .int .i64 0, .slice none 0 0, .slice none 0 0, .int .i64 0, .int .i64 0], .int .i64 0, .int .i64 0, .int .i64 1]) (by simp [results, Try.results40, go_sem, y0, y1, y2, y3, y4, y5, y6, y7, y8, y9, y10, y11, y12]) rfl ⟨_, rfl, res_no BF.out⟩
  · rw [hk] at CK
    go_enter Try.func40, Try.ntmps40
    go_wp2_with fail
    generalize (w.alloc (.cells #[.int .i64 s.id, .int .i64 s.co, .int .i64 s.me, .int .i64 s.cu, .int .i64 s.da, .int .i64 s.nn, .int .i64 s.ra, .int .i64 s.nu, .int .i64 s.de, .slice (some ⟨gi, 0, none⟩) l.length ci, .slice (some ⟨gp, 0, none⟩) p.length cp, .int .i64 s.op, .int .i64 s.up] 31)).alloc (.cells #[.int .i64 0, .int .i64 0, .int .i64 0, .int .i64 0, .int .i64 0, .int .i64 0, .int .i64 0, .int .i64 0, .int .i64 0, .slice none 0 0, .slice none 0 0, .int .i64 0, .int .i64 0] 31) = W2 at B0 O0 X0 z0 CK ⊢
    refine CK.mono ?_
    rintro e w1 ⟨rfl, b1⟩
    have B1 := Lib.hid (B0.out.trans (b1.mono B0.out.size))
    have O1 := Lib.hid (O0.out.keep (b1.block w.heap.size (by omega)))
    have X1 := Lib.hid (X0.out.below b1 X0.out.lt)
    have z1 := b1.size
    clear b1 O0 X0 B0
    have c0 := fun W => base.dayS d W
    cases t0 : inR d 0 100000
    · skip
      rw [t0] at c0
      go_wp2_with fail
      refine (c0 _).mono ?_
      rintro e w' ⟨rfl, rfl⟩
      have x0 : w1.cell? ⟨w.heap.size + 1, 0, none⟩ = some (.int .i64 0) := X1.out.cell 0 (by decide)
      have x1 : w1.cell? ⟨w.heap.size + 1, 1, none⟩ = some (.int .i64 0) := X1.out.cell 1 (by decide)
      have x2 : w1.cell? ⟨w.heap.size + 1, 2, none⟩ = some (.int .i64 0) := X1.out.cell 2 (by decide)
      have x3 : w1.cell? ⟨w.heap.size + 1, 3, none⟩ = some (.int .i64 0) := X1.out.cell 3 (by decide)
      have x4 : w1.cell? ⟨w.heap.size + 1, 4, none⟩ = some (.int .i64 0) := X1.out.cell 4 (by decide)
      have x5 : w1.cell? ⟨w.heap.size + 1, 5, none⟩ = some (.int .i64 0) := X1.out.cell 5 (by decide)
      have x6 : w1.cell? ⟨w.heap.size + 1, 6, none⟩ = some (.int .i64 0) := X1.out.cell 6 (by decide)
      have x7 : w1.cell? ⟨w.heap.size + 1, 7, none⟩ = some (.int .i64 0) := X1.out.cell 7 (by decide)
      have x8 : w1.cell? ⟨w.heap.size + 1, 8, none⟩ = some (.int .i64 0) := X1.out.cell 8 (by decide)
      have x9 : w1.cell? ⟨w.heap.size + 1, 9, none⟩ = some (.slice none 0 0) := X1.out.cell 9 (by decide)
      have x10 : w1.cell? ⟨w.heap.size + 1, 10, none⟩ = some (.slice none 0 0) := X1.out.cell 10 (by decide)
      have x11 : w1.cell? ⟨w.heap.size + 1, 11, none⟩ = some (.int .i64 0) := X1.out.cell 11 (by decide)
      have x12 : w1.cell? ⟨w.heap.size + 1, 12, none⟩ = some (.int .i64 0) := X1.out.cell 12 (by decide)
      have f0 := X1.out.free 0
      have f1 := X1.out.free 1
      have f2 := X1.out.free 2
      have f3 := X1.out.free 3
      have f4 := X1.out.free 4
      have f5 := X1.out.free 5
      have f6 := X1.out.free 6
      have f7 := X1.out.free 7
      have f8 := X1.out.free 8
      have f9 := X1.out.free 9
      have f10 := X1.out.free 10
      have f11 := X1.out.free 11
      have f12 := X1.out.free 12
      have Y := Lib.hid (((((((((((((X1.out.set (k := 0) (by decide) (.int .i64 0)).set (k := 1) (by decide) (.int .i64 0)).set (k := 2) (by decide) (.int .i64 0)).set (k := 3) (by decide) (.int .i64 0)).set (k := 4) (by decide) (.int .i64 0)).set (k := 5) (by decide) (.int .i64 0)).set (k := 6) (by decide) (.int .i64 0)).set (k := 7) (by decide) (.int .i64 0)).set (k := 8) (by decide) (.int .i64 0)).set (k := 9) (by decide) (.slice none 0 0)).set (k := 10) (by decide) (.slice none 0 0)).set (k := 11) (by decide) (.int .i64 0)).set (k := 12) (by decide) (.int .i64 0))
      have BF := Lib.hid (show Below w.heap.size w (((((((((((((w1.setCell ⟨w.heap.size + 1, 0, none⟩ (.int .i64 0)).setCell ⟨w.heap.size + 1, 1, none⟩ (.int .i64 0)).setCell ⟨w.heap.size + 1, 2, none⟩ (.int .i64 0)).setCell ⟨w.heap.size + 1, 3, none⟩ (.int .i64 0)).setCell ⟨w.heap.size + 1, 4, none⟩ (.int .i64 0)).setCell ⟨w.heap.size + 1, 5, none⟩ (.int .i64 0)).setCell ⟨w.heap.size + 1, 6, none⟩ (.int .i64 0)).setCell ⟨w.heap.size + 1, 7, none⟩ (.int .i64 0)).setCell ⟨w.heap.size + 1, 8, none⟩ (.int .i64 0)).setCell ⟨w.heap.size + 1, 9, none⟩ (.slice none 0 0)).setCell ⟨w.heap.size + 1, 10, none⟩ (.slice none 0 0)).setCell ⟨w.heap.size + 1, 11, none⟩ (.int .i64 0)).setCell ⟨w.heap.size + 1, 12, none⟩ (.int .i64 0)) from (((((((((((((B1.out.setCell (p := ⟨w.heap.size + 1, 0, none⟩) (show w.heap.size ≤ w.heap.size + 1 by omega) (.int .i64 0)).setCell (p := ⟨w.heap.size + 1, 1, none⟩) (show w.heap.size ≤ w.heap.size + 1 by omega) (.int .i64 0)).setCell (p := ⟨w.heap.size + 1, 2, none⟩) (show w.heap.size ≤ w.heap.size + 1 by omega) (.int .i64 0)).setCell (p := ⟨w.heap.size + 1, 3, none⟩) (show w.heap.size ≤ w.heap.size + 1 by omega) (.int .i64 0)).setCell (p := ⟨w.heap.size + 1, 4, none⟩) (show w.heap.size ≤ w.heap.size + 1 by omega) (.int .i64 0)).setCell (p := ⟨w.heap.size + 1, 5, none⟩) (show w.heap.size ≤ w.heap.size + 1 by omega) (.int .i64 0)).setCell (p := ⟨w.heap.size + 1, 6, none⟩) (show w.heap.size ≤ w.heap.size + 1 by omega) (.int .i64 0)).setCell (p := ⟨w.heap.size + 1, 7, none⟩) (show w.heap.size ≤ w.heap.size + 1 by omega) (.int .i64 0)).setCell (p := ⟨w.heap.size + 1, 8, none⟩) (show w.heap.size ≤ w.heap.size + 1 by omega) (.int .i64 0)).setCell (p := ⟨w.heap.size + 1, 9, none⟩) (show w.heap.size ≤ w.heap.size + 1 by omega) (.slice none 0 0)).setCell (p := ⟨w.heap.size + 1, 10, none⟩) (show w.heap.size ≤ w.heap.size + 1 by omega) (.slice none 0 0)).setCell (p := ⟨w.heap.size + 1, 11, none⟩) (show w.heap.size ≤ w.heap.size + 1 by omega) (.int .i64 0)).setCell (p := ⟨w.heap.size + 1, 12, none⟩) (show w.heap.size ≤ w.heap.size + 1 by omega) (.int .i64 0)))
      go_wp2
      change bodyPost _ _ _ _ _ (((((((((((((w1.setCell ⟨w.heap.size + 1, 0, none⟩ (.int .i64 0)).setCell ⟨w.heap.size + 1, 1, none⟩ (.int .i64 0)).setCell ⟨w.heap.size + 1, 2, none⟩ (.int .i64 0)).setCell ⟨w.heap.size + 1, 3, none⟩ (.int .i64 0)).setCell ⟨w.heap.size + 1, 4, none⟩ (.int .i64 0)).setCell ⟨w.heap.size + 1, 5, none⟩ (.int .i64 0)).setCell ⟨w.heap.size + 1, 6, none⟩ (.int .i64 0)).setCell ⟨w.heap.size + 1, 7, none⟩ (.int .i64 0)).setCell ⟨w.heap.size + 1, 8, none⟩ (.int .i64 0)).setCell ⟨w.heap.size + 1, 9, none⟩ (.slice none 0 0)).setCell ⟨w.heap.size + 1, 10, none⟩ (.slice none 0 0)).setCell ⟨w.heap.size + 1, 11, none⟩ (.int .i64 0)).setCell ⟨w.heap.size + 1, 12, none⟩ (.int .i64 0))
      generalize ((((((((((((w1.setCell ⟨w.heap.size + 1, 0, none⟩ (.int .i64 0)).setCell ⟨w.heap.size + 1, 1, none⟩ (.int .i64 0)).setCell ⟨w.heap.size + 1, 2, none⟩ (.int .i64 0)).setCell ⟨w.heap.size + 1, 3, none⟩ (.int .i64 0)).setCell ⟨w.heap.size + 1, 4, none⟩ (.int .i64 0)).setCell ⟨w.heap.size + 1, 5, none⟩ (.int .i64 0)).setCell ⟨w.heap.size + 1, 6, none⟩ (.int .i64 0)).setCell ⟨w.heap.size + 1, 7, none⟩ (.int .i64 0)).setCell ⟨w.heap.size + 1, 8, none⟩ (.int .i64 0)).setCell ⟨w.heap.size + 1, 9, none⟩ (.slice none 0 0)).setCell ⟨w.heap.size + 1, 10, none⟩ (.slice none 0 0)).setCell ⟨w.heap.size + 1, 11, none⟩ (.int .i64 0)).setCell ⟨w.heap.size + 1, 12, none⟩ (.int .i64 0) = W9 at Y BF ⊢
      have y0 : W9.cell? ⟨w.heap.size + 1, 0, none⟩ = some (.int .i64 0) := Y.out.cell 0 (by decide)
      have y1 : W9.cell? ⟨w.heap.size + 1, 1, none⟩ = some (.int .i64 0) := Y.out.cell 1 (by decide)
      have y2 : W9.cell? ⟨w.heap.size + 1, 2, none⟩ = some (.int .i64 0) := Y.out.cell 2 (by decide)
      have y3 : W9.cell? ⟨w.heap.size + 1, 3, none⟩ = some (.int .i64 0) := Y.out.cell 3 (by decide)
      have y4 : W9.cell? ⟨w.heap.size + 1, 4, none⟩ = some (.int .i64 0) := Y.out.cell 4 (by decide)
      have y5 : W9.cell? ⟨w.heap.size + 1, 5, none⟩ = some (.int .i64 0) := Y.out.cell 5 (by decide)
      have y6 : W9.cell? ⟨w.heap.size + 1, 6, none⟩ = some (.int .i64 0) := Y.out.cell 6 (by decide)
      have y7 : W9.cell? ⟨w.heap.size + 1, 7, none⟩ = some (.int .i64 0) := Y.out.cell 7 (by decide)
      have y8 : W9.cell? ⟨w.heap.size + 1, 8, none⟩ = some (.int .i64 0) := Y.out.cell 8 (by decide)
      have y9 : W9.cell? ⟨w.heap.size + 1, 9, none⟩ = some (.slice none 0 0) := Y.out.cell 9 (by decide)
      have y10 : W9.cell? ⟨w.heap.size + 1, 10, none⟩ = some (.slice none 0 0) := Y.out.cell 10 (by decide)
      have y11 : W9.cell? ⟨w.heap.size + 1, 11, none⟩ = some (.int .i64 0) := Y.out.cell 11 (by decide)
      have y12 : W9.cell? ⟨w.heap.size + 1, 12, none⟩ = some (.int .i64 0) := Y.out.cell 12 (by decide)
      exact bodyPost_ret (v := .tuple #[.agg #[.int .i64 0, .int .i64 0, .int .i64 0, .int .i64 0, .int .i64 0, .int .i64 0, .int .i64 0, .int .i64 0, .int .i64 0, .slice none 0 0, .slice none 0 0, .int .i64 0, .int .i64 0], .int .i64 0, .int .i64 0, .int .i64 5]) (by simp [results, Try.results40, go_sem, y0, y1, y2, y3, y4, y5, y6, y7, y8, y9, y10, y11, y12]) rfl ⟨_, rfl, res_no BF.out⟩
    · skip
      rw [t0] at c0
      rw [t0] at ht
      cases ht
  · have OKV := ord.ok_iff.1 hk
    rw [hk] at CK
    have HT := Lib.hid ht
    have HT0 := ht
    have HD := Lib.hid ht
    have c0 := fun W => base.dayS d W
    rw [HT0] at c0
    have PVh := Lib.hid OKV.pv
    have p8 := OKV.p1
    clear OKV hk ht HT0
    go_enter Try.func40, Try.ntmps40
    go_wp2_with fail
    generalize (w.alloc (.cells #[.int .i64 s.id, .int .i64 s.co, .int .i64 s.me, .int .i64 s.cu, .int .i64 s.da, .int .i64 s.nn, .int .i64 s.ra, .int .i64 s.nu, .int .i64 s.de, .slice (some ⟨gi, 0, none⟩) l.length ci, .slice (some ⟨gp, 0, none⟩) p.length cp, .int .i64 s.op, .int .i64 s.up] 31)).alloc (.cells #[.int .i64 0, .int .i64 0, .int .i64 0, .int .i64 0, .int .i64 0, .int .i64 0, .int .i64 0, .int .i64 0, .int .i64 0, .slice none 0 0, .slice none 0 0, .int .i64 0, .int .i64 0] 31) = W2 at B0 O0 X0 z0 CK ⊢
    refine CK.mono ?_
    rintro e w1 ⟨rfl, b1⟩
    have B1 := Lib.hid (B0.out.trans (b1.mono B0.out.size))
    have O1 := Lib.hid (O0.out.keep (b1.block w.heap.size (by omega)))
    have X1 := Lib.hid (X0.out.below b1 X0.out.lt)
    have z1 := b1.size
    clear b1 O0 X0 B0
    go_wp2_with fail
    refine (c0 _).mono ?_
    rintro e w' ⟨rfl, rfl⟩
    have CC := copS w1 B s ci gi l cp gp p gs cs (L.out.below B1.out) hl hn HM.out
    obtain ⟨u0, u1, u2, u3, u4, u5, u6, u7, u8, u9, u10, u11, u12⟩ := O1.out
    go_wp2_with fail
    refine CC.mono ?_
    rintro e w2 ⟨v, rfl, ci', gi', cp', gp', gs', cs', rfl, ol, a1, a2, a3, a4, ne, b2⟩
    have B2 := Lib.hid ((B1.out.trans (b2.mono B1.out.size)).alloc (B1.out.trans (b2.mono B1.out.size)).size (.cells #[.int .i64 s.id, .int .i64 s.co, .int .i64 s.me, .int .i64 s.cu, .int .i64 s.da, .int .i64 s.nn, .int .i64 s.ra, .int .i64 s.nu, .int .i64 s.de, .slice (some ⟨gi', 0, none⟩) l.length ci', .slice (some ⟨gp', 0, none⟩) p.length cp', .int .i64 s.op, .int .i64 s.up] 31))
    have al := fun c hc => Below.heap_alloc w2 (.cells #[.int .i64 s.id, .int .i64 s.co, .int .i64 s.me, .int .i64 s.cu, .int .i64 s.da, .int .i64 s.nn, .int .i64 s.ra, .int .i64 s.nu, .int .i64 s.de, .slice (some ⟨gi', 0, none⟩) l.length ci', .slice (some ⟨gp', 0, none⟩) p.length cp', .int .i64 s.op, .int .i64 s.up] 31) c hc
    have N2 := Lib.hid (Blk.new w2 #[.int .i64 s.id, .int .i64 s.co, .int .i64 s.me, .int .i64 s.cu, .int .i64 s.da, .int .i64 s.nn, .int .i64 s.ra, .int .i64 s.nu, .int .i64 s.de, .slice (some ⟨gi', 0, none⟩) l.length ci', .slice (some ⟨gp', 0, none⟩) p.length cp', .int .i64 s.op, .int .i64 s.up] 31 13 rfl)
    have NO2 := Lib.hid (OB.new w2 s (some ⟨gi', 0, none⟩) l.length ci' (some ⟨gp', 0, none⟩) p.length cp' 31)
    have L2 := Lib.hid (ol.below ((Below.refl w2.heap.size w2).alloc (Nat.le_refl _) (.cells #[.int .i64 s.id, .int .i64 s.co, .int .i64 s.me, .int .i64 s.cu, .int .i64 s.da, .int .i64 s.nn, .int .i64 s.ra, .int .i64 s.nu, .int .i64 s.de, .slice (some ⟨gi', 0, none⟩) l.length ci', .slice (some ⟨gp', 0, none⟩) p.length cp', .int .i64 s.op, .int .i64 s.up] 31)))
    have X2 := Lib.hid ((X1.out.below b2 X1.out.lt).keep (w' := w2.alloc (.cells #[.int .i64 s.id, .int .i64 s.co, .int .i64 s.me, .int .i64 s.cu, .int .i64 s.da, .int .i64 s.nn, .int .i64 s.ra, .int .i64 s.nu, .int .i64 s.de, .slice (some ⟨gi', 0, none⟩) l.length ci', .slice (some ⟨gp', 0, none⟩) p.length cp', .int .i64 s.op, .int .i64 s.up] 31)) (al _ (X1.out.below b2 X1.out.lt).lt) (by simp))
    have z2 := b2.size
    have z2' : (w2.alloc (.cells #[.int .i64 s.id, .int .i64 s.co, .int .i64 s.me, .int .i64 s.cu, .int .i64 s.da, .int .i64 s.nn, .int .i64 s.ra, .int .i64 s.nu, .int .i64 s.de, .slice (some ⟨gi', 0, none⟩) l.length ci', .slice (some ⟨gp', 0, none⟩) p.length cp', .int .i64 s.op, .int .i64 s.up] 31)).heap.size = w2.heap.size + 1 := by simp only [sz_al]
    have DD := Lib.hid (show w.heap.size + 1 + 1 ≤ w1.heap.size ∧ w1.heap.size ≤ gi' ∧ gi' < w2.heap.size ∧ w1.heap.size ≤ gp' ∧ gp' < w2.heap.size ∧ gi' ≠ gp' from ⟨by omega, a1, a2, a3, a4, ne⟩)
    clear b2 al ol a1 a2 a3 a4 ne CC O1 X1 B1 u0 u1 u2 u3 u4 u5 u6 u7 u8 u9 u10 u11 u12 c0
    have m1 := L2.out.plans.room
    obtain ⟨n, hnz⟩ : ∃ n, n = p.length := ⟨_, rfl⟩
    go_wp2_with fail
    obtain ⟨nb, hnb⟩ : ∃ nb, nb = w2.heap.size := ⟨_, rfl⟩
    have HNB := Lib.hid hnb
    rw [← hnb] at N2 NO2 z2' ⊢
    generalize w2.alloc (.cells #[.int .i64 s.id, .int .i64 s.co, .int .i64 s.me, .int .i64 s.cu, .int .i64 s.da, .int .i64 s.nn, .int .i64 s.ra, .int .i64 s.nu, .int .i64 s.de, .slice (some ⟨gi', 0, none⟩) l.length ci', .slice (some ⟨gp', 0, none⟩) p.length cp', .int .i64 s.op, .int .i64 s.up] 31) = W3 at B2 N2 NO2 L2 X2 z2' ⊢
    clear hnb
    have HNZ := Lib.hid hnz
    rw [← hnz] at m1 p8
    clear hnz
    have hgp : gp' < W3.heap.size := by have := DD.out; have := HNB.out; omega
    have hne : nb ≠ gp' := by have := DD.out; have := HNB.out; omega
    have bl : nb < W3.heap.size := by omega
    go_loopw [9, 10, 11] (fun a1 a2 i wr => ∃ (k : Nat) (gs3 cs3 : Nat → Nat), k ≤ n ∧ i = .int .i64 k ∧ a1 = .int .i64 (wk.fs (stS d) (0, 0) p k).1 ∧ a2 = .int .i64 (wk.fs (stS d) (0, 0) p k).2 ∧ Pls wr (some ⟨gp', 0, none⟩) cp' gp' (wk.fw (stS d) (0, 0) p k) gs3 cs3 ∧ base.Turned gp' W3 wr ∧ ∀ j, j < n → (j < k → W3.heap.size ≤ gs3 j) ∧ (k ≤ j → gs3 j = gs' j)) (fun _ _ i _ => n - (intOf i).toNat)
    case atStart => exact ⟨0, gs', cs', by omega, rfl, by rw [wk.fs_zero], by rw [wk.fs_zero], by rw [wk.fw_zero]; exact L2.out.plans, base.Turned.refl _ _, fun j _ => ⟨fun h => by omega, fun _ => rfl⟩⟩
    case round =>
      obtain ⟨k, gs3, cs3, hk, rfl, rfl, rfl, hP, hT, hG⟩ := hrel
      have PP := Lib.hid hP
      have TT := Lib.hid hT
      have GG := Lib.hid hG
      have SB := se_fs d PVh.out HD.out (p := p) k (by rw [← HNZ.out]; exact hk)
      obtain ⟨S, hS⟩ : ∃ S, S = wk.fs (stS d) (0, 0) p k := ⟨_, rfl⟩
      rw [← hS] at SB ⊢
      have HS := Lib.hid hS
      obtain ⟨SA, SC⟩ := S
      dsimp only at SB ⊢
      obtain ⟨⟨s0, s1⟩, s2, s3⟩ := SB
      have s1 : SA ≤ 576000000000000 := by omega
      have s3 : SC ≤ 192000000000000 := by omega
      have y10 := (NO2.out.keep (hT.2 nb hne bl)).c10
      try rw [← HNZ.out] at y10
      clear hS
      by_cases hlt : k < n
      · have HLT := Lib.hid (show k < p.length from by rw [← HNZ.out]; exact hlt)
        have FL := Lib.hid (show k < (wk.fw (stS d) (0, 0) p k).length from by rw [wk.fw_len]; exact HLT.out)
        have NK : nth (wk.fw (stS d) (0, 0) p k) k = nth p k := wk.fw_get [] _ _ HLT.out
        have q1 := hP.cells k FL.out
        have RQ := Lib.hid (fun W (hb : Below wr.heap.size wr W) => (hP.below hb).rows k FL.out)
        have CQ := Lib.hid (fun W (hb : Below wr.heap.size wr W) => (hP.below hb).cells k FL.out)
        rw [NK] at q1 RQ CQ
        have OK : (pl.pv (nth p k) && inR d 0 100000) = true := by rw [HD.out, Bool.and_true]; exact PVh.out k HLT.out
        have NI := po_in (PVh.out k HLT.out) HD.out
        rw [show p.getD k [] = nth p k from rfl] at NI
        have FS : wk.fs (stS d) (0, 0) p (k + 1) = (SA + base.pof (nth p k) d, SC + base.poN (nth p k) d) := by rw [wk.fs_succ [] _ _ HLT.out, ← HS.out]; rfl
        have FW : wk.fw (stS d) (0, 0) p (k + 1) = (wk.fw (stS d) (0, 0) p k).set k (base.poL (nth p k) d) := by rw [wk.fw_succ [] _ _ HLT.out]; rfl
        have h24 : (nth p k).length ≤ 1048577 := Nat.le_trans (show (nth p k).length ≤ 24 from (pl.pv_iff.1 (PVh.out k HLT.out)).1) (by omega)
        have C0 := Lib.hid (base.poS d wr (cs3 k) (gs3 k) (nth p k) (RQ.out wr (Below.refl _ _)) h24)
        have C1 := Lib.hid (fun W (hb : Below wr.heap.size wr W) => base.pdS d W (cs3 k) (gs3 k) (nth p k) (RQ.out W hb) h24)
        obtain ⟨P, hP'⟩ : ∃ P, P = base.poL (nth p k) d := ⟨_, rfl⟩
        obtain ⟨M0, hM0⟩ : ∃ M, M = base.pof (nth p k) d := ⟨_, rfl⟩
        obtain ⟨M1, hM1⟩ : ∃ M, M = base.poN (nth p k) d := ⟨_, rfl⟩
        rw [← hP'] at C1 FW
        rw [← hM0] at C0 FS NI
        rw [← hM1] at C1 FS NI
        rw [OK] at C1
        have FSh := Lib.hid FS
        have FWh := Lib.hid FW
        clear FS FW hP' hM0 hM1 OK NK RQ hP hT hG h24
        generalize (nth p k).length = ln at q1 C0 C1 CQ
        generalize hgk : gs3 k = gk at q1 C0 C1 CQ
        generalize hck : cs3 k = ck at q1 C0 C1 CQ
        clear hgk hck
        obtain ⟨⟨m0, m9⟩, m1', m8⟩ := NI
        have z1' : (k : Int) < (n : Int) := by omega
        have v1 : decide (k < n) = true := by simp; omega
        go_wp2_with fail
        refine C0.out.mono ?_
        rintro e w0 ⟨rfl, b0⟩
        have B0 := Lib.hid b0
        have T0 := Lib.hid (pls.Turned.of TT.out b0 (Nat.le_of_lt (Nat.lt_of_lt_of_le hgp TT.out.1.size)))
        have y10 := (NO2.out.keep (T0.out.2 nb hne bl)).c10
        try rw [← HNZ.out] at y10
        have q1 := CQ.out w0 b0
        clear b0
        go_wp2_with fail
        refine (C1.out w0 B0.out).mono ?_
        rintro e w1 ⟨a1, c1, g1, rfl, r1, -, b1, o1⟩
        obtain ⟨rfl, l1, k1⟩ := o1 rfl
        have BB1 := B0.out.trans (b1.mono B0.out.size)
        have P1 := Lib.hid (PP.out.below BB1)
        have R1 := Lib.hid r1
        have T1 := Lib.hid (pls.Turned.of TT.out BB1 (Nat.le_of_lt (Nat.lt_of_lt_of_le hgp TT.out.1.size)))
        have y10 := (NO2.out.keep (T1.out.2 nb hne bl)).c10
        try rw [← HNZ.out] at y10
        have x1 := P1.out.cells k FL.out
        have f1 := P1.out.free (by have := FL.out; omega) k
        have L1 := Lib.hid (show wr.heap.size ≤ g1 ∧ g1 < w1.heap.size from ⟨Nat.le_trans B0.out.size l1, k1⟩)
        clear r1 b1 o1 q1 C0 C1 l1 k1 BB1 CQ
        go_wp2
        go_roundw
        case rel =>
          have hw := TT.out.1.size
          refine ⟨k + 1, pls.up gs3 k g1, pls.up cs3 k c1, by omega, by go_num, by rw [FSh.out], by rw [FSh.out], ?_, pls.Turned.trans T1.out ((base.Turned.refl gp' w1).set k _), fun j hj => ⟨fun h => ?_, fun h => ?_⟩⟩
          · rw [show wk.fw (stS d) (0, 0) p (k + 1) = (wk.fw (stS d) (0, 0) p k).set k P from FWh.out]
            exact P1.out.set FL.out R1.out L1.out.2 (by have := L1.out; omega) (fun i hi hne' => by have := PP.out.lt i hi; have := L1.out; omega)
          · unfold pls.up
            by_cases e : j = k
            · rw [if_pos e]; have := L1.out; omega
            · rw [if_neg e]; exact (GG.out j hj).1 (by omega)
          · unfold pls.up
            rw [if_neg (by omega)]; exact (GG.out j hj).2 (by omega)
        case measure => simp [intOf]; omega
      · have v1 : decide (k < n) = false := by simp; omega
        obtain rfl : k = n := by omega
        have v2 : decide (k < p.length) = false := by have := HNZ.out; simp; omega
        have SE := Lib.hid (show (SA, SC) = seNs p d from by rw [HS.out]; unfold seNs; rw [← HNZ.out])
        have PE := Lib.hid (show wk.fw (stS d) (0, 0) p k = seLs p d from by unfold seLs; rw [← HNZ.out])
        have T := hT
        have pl4 := hP
        rw [PE.out] at pl4
        have fr : ∀ i, i < p.length → W3.heap.size ≤ gs3 i := fun i hi => (GG.out i (by rw [HNZ.out]; exact hi)).1 (by rw [HNZ.out]; exact hi)
        clear hP hT hG y10
        have B5 := Lib.hid (B2.out.trans (T.1.mono (show w.heap.size ≤ gp' by have := DD.out; omega)))
        have X5 := Lib.hid (X2.out.keep (w' := wr) (T.2 _ (by have := DD.out; omega) X2.out.lt) T.1.size)
        have N5 := Lib.hid (N2.out.keep (w' := wr) (T.2 _ (by have := DD.out; have := HNB.out; omega) N2.out.lt) T.1.size)
        have PLEN := Lib.hid (show (seLs p d).length = p.length from wk.fw_len _ _ _ _)
        have L5 := Lib.hid (show OL wr (w.heap.size + 1 + 1) l (seLs p d) (some ⟨gi', 0, none⟩) ci' gi' (some ⟨gp', 0, none⟩) cp' gp' gs3 cs3 from
          ⟨L2.out.items.keep fun hh => T.2 gi' (by have := DD.out; omega) (L2.out.gi1 hh), pl4, fun _ => by have := DD.out; omega, fun _ => by have := DD.out; omega, fun i hi => by have := fr i (by rw [← PLEN.out]; exact hi); have := DD.out; have := HNB.out; omega, fun _ _ => by have := DD.out; omega, fun i hi _ => by have := fr i (by rw [← PLEN.out]; exact hi); have := DD.out; have := HNB.out; omega⟩)
        clear T pl4 fr B2 N2 NO2 L2 X2
        have x0 : wr.cell? ⟨w.heap.size + 1, 0, none⟩ = some (.int .i64 0) := X5.out.cell 0 (by decide)
        have x1 : wr.cell? ⟨w.heap.size + 1, 1, none⟩ = some (.int .i64 0) := X5.out.cell 1 (by decide)
        have x2 : wr.cell? ⟨w.heap.size + 1, 2, none⟩ = some (.int .i64 0) := X5.out.cell 2 (by decide)
        have x3 : wr.cell? ⟨w.heap.size + 1, 3, none⟩ = some (.int .i64 0) := X5.out.cell 3 (by decide)
        have x4 : wr.cell? ⟨w.heap.size + 1, 4, none⟩ = some (.int .i64 0) := X5.out.cell 4 (by decide)
        have x5 : wr.cell? ⟨w.heap.size + 1, 5, none⟩ = some (.int .i64 0) := X5.out.cell 5 (by decide)
        have x6 : wr.cell? ⟨w.heap.size + 1, 6, none⟩ = some (.int .i64 0) := X5.out.cell 6 (by decide)
        have x7 : wr.cell? ⟨w.heap.size + 1, 7, none⟩ = some (.int .i64 0) := X5.out.cell 7 (by decide)
        have x8 : wr.cell? ⟨w.heap.size + 1, 8, none⟩ = some (.int .i64 0) := X5.out.cell 8 (by decide)
        have x9 : wr.cell? ⟨w.heap.size + 1, 9, none⟩ = some (.slice none 0 0) := X5.out.cell 9 (by decide)
        have x10 : wr.cell? ⟨w.heap.size + 1, 10, none⟩ = some (.slice none 0 0) := X5.out.cell 10 (by decide)
        have x11 : wr.cell? ⟨w.heap.size + 1, 11, none⟩ = some (.int .i64 0) := X5.out.cell 11 (by decide)
        have x12 : wr.cell? ⟨w.heap.size + 1, 12, none⟩ = some (.int .i64 0) := X5.out.cell 12 (by decide)
        have f0 := X5.out.free 0
        have f1 := X5.out.free 1
        have f2 := X5.out.free 2
        have f3 := X5.out.free 3
        have f4 := X5.out.free 4
        have f5 := X5.out.free 5
        have f6 := X5.out.free 6
        have f7 := X5.out.free 7
        have f8 := X5.out.free 8
        have f9 := X5.out.free 9
        have f10 := X5.out.free 10
        have f11 := X5.out.free 11
        have f12 := X5.out.free 12
        have n0 : wr.cell? ⟨nb, 0, none⟩ = some (.int .i64 s.id) := N5.out.cell 0 (by decide)
        have n1 : wr.cell? ⟨nb, 1, none⟩ = some (.int .i64 s.co) := N5.out.cell 1 (by decide)
        have n2 : wr.cell? ⟨nb, 2, none⟩ = some (.int .i64 s.me) := N5.out.cell 2 (by decide)
        have n3 : wr.cell? ⟨nb, 3, none⟩ = some (.int .i64 s.cu) := N5.out.cell 3 (by decide)
        have n4 : wr.cell? ⟨nb, 4, none⟩ = some (.int .i64 s.da) := N5.out.cell 4 (by decide)
        have n5 : wr.cell? ⟨nb, 5, none⟩ = some (.int .i64 s.nn) := N5.out.cell 5 (by decide)
        have n6 : wr.cell? ⟨nb, 6, none⟩ = some (.int .i64 s.ra) := N5.out.cell 6 (by decide)
        have n7 : wr.cell? ⟨nb, 7, none⟩ = some (.int .i64 s.nu) := N5.out.cell 7 (by decide)
        have n8 : wr.cell? ⟨nb, 8, none⟩ = some (.int .i64 s.de) := N5.out.cell 8 (by decide)
        have n9 : wr.cell? ⟨nb, 9, none⟩ = some (.slice (some ⟨gi', 0, none⟩) l.length ci') := N5.out.cell 9 (by decide)
        have n10 : wr.cell? ⟨nb, 10, none⟩ = some (.slice (some ⟨gp', 0, none⟩) p.length cp') := N5.out.cell 10 (by decide)
        have n11 : wr.cell? ⟨nb, 11, none⟩ = some (.int .i64 s.op) := N5.out.cell 11 (by decide)
        have n12 : wr.cell? ⟨nb, 12, none⟩ = some (.int .i64 s.up) := N5.out.cell 12 (by decide)
        have Y := Lib.hid (((((((((((((X5.out.set (k := 0) (by decide) (.int .i64 s.id)).set (k := 1) (by decide) (.int .i64 s.co)).set (k := 2) (by decide) (.int .i64 s.me)).set (k := 3) (by decide) (.int .i64 s.cu)).set (k := 4) (by decide) (.int .i64 s.da)).set (k := 5) (by decide) (.int .i64 s.nn)).set (k := 6) (by decide) (.int .i64 s.ra)).set (k := 7) (by decide) (.int .i64 s.nu)).set (k := 8) (by decide) (.int .i64 s.de)).set (k := 9) (by decide) (.slice (some ⟨gi', 0, none⟩) l.length ci')).set (k := 10) (by decide) (.slice (some ⟨gp', 0, none⟩) p.length cp')).set (k := 11) (by decide) (.int .i64 s.op)).set (k := 12) (by decide) (.int .i64 s.up))
        have BF := Lib.hid (show Below w.heap.size w (((((((((((((wr.setCell ⟨w.heap.size + 1, 0, none⟩ (.int .i64 s.id)).setCell ⟨w.heap.size + 1, 1, none⟩ (.int .i64 s.co)).setCell ⟨w.heap.size + 1, 2, none⟩ (.int .i64 s.me)).setCell ⟨w.heap.size + 1, 3, none⟩ (.int .i64 s.cu)).setCell ⟨w.heap.size + 1, 4, none⟩ (.int .i64 s.da)).setCell ⟨w.heap.size + 1, 5, none⟩ (.int .i64 s.nn)).setCell ⟨w.heap.size + 1, 6, none⟩ (.int .i64 s.ra)).setCell ⟨w.heap.size + 1, 7, none⟩ (.int .i64 s.nu)).setCell ⟨w.heap.size + 1, 8, none⟩ (.int .i64 s.de)).setCell ⟨w.heap.size + 1, 9, none⟩ (.slice (some ⟨gi', 0, none⟩) l.length ci')).setCell ⟨w.heap.size + 1, 10, none⟩ (.slice (some ⟨gp', 0, none⟩) p.length cp')).setCell ⟨w.heap.size + 1, 11, none⟩ (.int .i64 s.op)).setCell ⟨w.heap.size + 1, 12, none⟩ (.int .i64 s.up)) from (((((((((((((B5.out.setCell (p := ⟨w.heap.size + 1, 0, none⟩) (show w.heap.size ≤ w.heap.size + 1 by omega) (.int .i64 s.id)).setCell (p := ⟨w.heap.size + 1, 1, none⟩) (show w.heap.size ≤ w.heap.size + 1 by omega) (.int .i64 s.co)).setCell (p := ⟨w.heap.size + 1, 2, none⟩) (show w.heap.size ≤ w.heap.size + 1 by omega) (.int .i64 s.me)).setCell (p := ⟨w.heap.size + 1, 3, none⟩) (show w.heap.size ≤ w.heap.size + 1 by omega) (.int .i64 s.cu)).setCell (p := ⟨w.heap.size + 1, 4, none⟩) (show w.heap.size ≤ w.heap.size + 1 by omega) (.int .i64 s.da)).setCell (p := ⟨w.heap.size + 1, 5, none⟩) (show w.heap.size ≤ w.heap.size + 1 by omega) (.int .i64 s.nn)).setCell (p := ⟨w.heap.size + 1, 6, none⟩) (show w.heap.size ≤ w.heap.size + 1 by omega) (.int .i64 s.ra)).setCell (p := ⟨w.heap.size + 1, 7, none⟩) (show w.heap.size ≤ w.heap.size + 1 by omega) (.int .i64 s.nu)).setCell (p := ⟨w.heap.size + 1, 8, none⟩) (show w.heap.size ≤ w.heap.size + 1 by omega) (.int .i64 s.de)).setCell (p := ⟨w.heap.size + 1, 9, none⟩) (show w.heap.size ≤ w.heap.size + 1 by omega) (.slice (some ⟨gi', 0, none⟩) l.length ci')).setCell (p := ⟨w.heap.size + 1, 10, none⟩) (show w.heap.size ≤ w.heap.size + 1 by omega) (.slice (some ⟨gp', 0, none⟩) p.length cp')).setCell (p := ⟨w.heap.size + 1, 11, none⟩) (show w.heap.size ≤ w.heap.size + 1 by omega) (.int .i64 s.op)).setCell (p := ⟨w.heap.size + 1, 12, none⟩) (show w.heap.size ≤ w.heap.size + 1 by omega) (.int .i64 s.up)))
        have LF := Lib.hid (show OL (((((((((((((wr.setCell ⟨w.heap.size + 1, 0, none⟩ (.int .i64 s.id)).setCell ⟨w.heap.size + 1, 1, none⟩ (.int .i64 s.co)).setCell ⟨w.heap.size + 1, 2, none⟩ (.int .i64 s.me)).setCell ⟨w.heap.size + 1, 3, none⟩ (.int .i64 s.cu)).setCell ⟨w.heap.size + 1, 4, none⟩ (.int .i64 s.da)).setCell ⟨w.heap.size + 1, 5, none⟩ (.int .i64 s.nn)).setCell ⟨w.heap.size + 1, 6, none⟩ (.int .i64 s.ra)).setCell ⟨w.heap.size + 1, 7, none⟩ (.int .i64 s.nu)).setCell ⟨w.heap.size + 1, 8, none⟩ (.int .i64 s.de)).setCell ⟨w.heap.size + 1, 9, none⟩ (.slice (some ⟨gi', 0, none⟩) l.length ci')).setCell ⟨w.heap.size + 1, 10, none⟩ (.slice (some ⟨gp', 0, none⟩) p.length cp')).setCell ⟨w.heap.size + 1, 11, none⟩ (.int .i64 s.op)).setCell ⟨w.heap.size + 1, 12, none⟩ (.int .i64 s.up)) w.heap.size l (seLs p d) (some ⟨gi', 0, none⟩) ci' gi' (some ⟨gp', 0, none⟩) cp' gp' gs3 cs3 from ⟨L5.out.items.keep fun _ => (((((((((((((Below.heap_setCell _ _ _ _ (show gi' ≠ w.heap.size + 1 by have := DD.out; omega)).trans (Below.heap_setCell _ _ _ _ (show gi' ≠ w.heap.size + 1 by have := DD.out; omega))).trans (Below.heap_setCell _ _ _ _ (show gi' ≠ w.heap.size + 1 by have := DD.out; omega))).trans (Below.heap_setCell _ _ _ _ (show gi' ≠ w.heap.size + 1 by have := DD.out; omega))).trans (Below.heap_setCell _ _ _ _ (show gi' ≠ w.heap.size + 1 by have := DD.out; omega))).trans (Below.heap_setCell _ _ _ _ (show gi' ≠ w.heap.size + 1 by have := DD.out; omega))).trans (Below.heap_setCell _ _ _ _ (show gi' ≠ w.heap.size + 1 by have := DD.out; omega))).trans (Below.heap_setCell _ _ _ _ (show gi' ≠ w.heap.size + 1 by have := DD.out; omega))).trans (Below.heap_setCell _ _ _ _ (show gi' ≠ w.heap.size + 1 by have := DD.out; omega))).trans (Below.heap_setCell _ _ _ _ (show gi' ≠ w.heap.size + 1 by have := DD.out; omega))).trans (Below.heap_setCell _ _ _ _ (show gi' ≠ w.heap.size + 1 by have := DD.out; omega))).trans (Below.heap_setCell _ _ _ _ (show gi' ≠ w.heap.size + 1 by have := DD.out; omega))).trans (Below.heap_setCell _ _ _ _ (show gi' ≠ w.heap.size + 1 by have := DD.out; omega))), L5.out.plans.keep (fun _ => (((((((((((((Below.heap_setCell _ _ _ _ (show gp' ≠ w.heap.size + 1 by have := DD.out; omega)).trans (Below.heap_setCell _ _ _ _ (show gp' ≠ w.heap.size + 1 by have := DD.out; omega))).trans (Below.heap_setCell _ _ _ _ (show gp' ≠ w.heap.size + 1 by have := DD.out; omega))).trans (Below.heap_setCell _ _ _ _ (show gp' ≠ w.heap.size + 1 by have := DD.out; omega))).trans (Below.heap_setCell _ _ _ _ (show gp' ≠ w.heap.size + 1 by have := DD.out; omega))).trans (Below.heap_setCell _ _ _ _ (show gp' ≠ w.heap.size + 1 by have := DD.out; omega))).trans (Below.heap_setCell _ _ _ _ (show gp' ≠ w.heap.size + 1 by have := DD.out; omega))).trans (Below.heap_setCell _ _ _ _ (show gp' ≠ w.heap.size + 1 by have := DD.out; omega))).trans (Below.heap_setCell _ _ _ _ (show gp' ≠ w.heap.size + 1 by have := DD.out; omega))).trans (Below.heap_setCell _ _ _ _ (show gp' ≠ w.heap.size + 1 by have := DD.out; omega))).trans (Below.heap_setCell _ _ _ _ (show gp' ≠ w.heap.size + 1 by have := DD.out; omega))).trans (Below.heap_setCell _ _ _ _ (show gp' ≠ w.heap.size + 1 by have := DD.out; omega))).trans (Below.heap_setCell _ _ _ _ (show gp' ≠ w.heap.size + 1 by have := DD.out; omega)))) (fun i hi => (((((((((((((Below.heap_setCell _ _ _ _ (show gs3 i ≠ w.heap.size + 1 by have := L5.out.gs0 i hi; omega)).trans (Below.heap_setCell _ _ _ _ (show gs3 i ≠ w.heap.size + 1 by have := L5.out.gs0 i hi; omega))).trans (Below.heap_setCell _ _ _ _ (show gs3 i ≠ w.heap.size + 1 by have := L5.out.gs0 i hi; omega))).trans (Below.heap_setCell _ _ _ _ (show gs3 i ≠ w.heap.size + 1 by have := L5.out.gs0 i hi; omega))).trans (Below.heap_setCell _ _ _ _ (show gs3 i ≠ w.heap.size + 1 by have := L5.out.gs0 i hi; omega))).trans (Below.heap_setCell _ _ _ _ (show gs3 i ≠ w.heap.size + 1 by have := L5.out.gs0 i hi; omega))).trans (Below.heap_setCell _ _ _ _ (show gs3 i ≠ w.heap.size + 1 by have := L5.out.gs0 i hi; omega))).trans (Below.heap_setCell _ _ _ _ (show gs3 i ≠ w.heap.size + 1 by have := L5.out.gs0 i hi; omega))).trans (Below.heap_setCell _ _ _ _ (show gs3 i ≠ w.heap.size + 1 by have := L5.out.gs0 i hi; omega))).trans (Below.heap_setCell _ _ _ _ (show gs3 i ≠ w.heap.size + 1 by have := L5.out.gs0 i hi; omega))).trans (Below.heap_setCell _ _ _ _ (show gs3 i ≠ w.heap.size + 1 by have := L5.out.gs0 i hi; omega))).trans (Below.heap_setCell _ _ _ _ (show gs3 i ≠ w.heap.size + 1 by have := L5.out.gs0 i hi; omega))).trans (Below.heap_setCell _ _ _ _ (show gs3 i ≠ w.heap.size + 1 by have := L5.out.gs0 i hi; omega)))) (by simp only [sz_set]; exact Nat.le_refl _), fun h => Nat.le_trans (show w.heap.size ≤ w.heap.size + 1 + 1 by omega) (L5.out.gi0 h), fun h => Nat.le_trans (show w.heap.size ≤ w.heap.size + 1 + 1 by omega) (L5.out.gp0 h), fun i h => Nat.le_trans (show w.heap.size ≤ w.heap.size + 1 + 1 by omega) (L5.out.gs0 i h), L5.out.ip, L5.out.is_⟩)
        clear X5 N5 L5 B5
        go_wp2
        change bodyPost _ _ _ _ _ (((((((((((((wr.setCell ⟨w.heap.size + 1, 0, none⟩ (.int .i64 s.id)).setCell ⟨w.heap.size + 1, 1, none⟩ (.int .i64 s.co)).setCell ⟨w.heap.size + 1, 2, none⟩ (.int .i64 s.me)).setCell ⟨w.heap.size + 1, 3, none⟩ (.int .i64 s.cu)).setCell ⟨w.heap.size + 1, 4, none⟩ (.int .i64 s.da)).setCell ⟨w.heap.size + 1, 5, none⟩ (.int .i64 s.nn)).setCell ⟨w.heap.size + 1, 6, none⟩ (.int .i64 s.ra)).setCell ⟨w.heap.size + 1, 7, none⟩ (.int .i64 s.nu)).setCell ⟨w.heap.size + 1, 8, none⟩ (.int .i64 s.de)).setCell ⟨w.heap.size + 1, 9, none⟩ (.slice (some ⟨gi', 0, none⟩) l.length ci')).setCell ⟨w.heap.size + 1, 10, none⟩ (.slice (some ⟨gp', 0, none⟩) p.length cp')).setCell ⟨w.heap.size + 1, 11, none⟩ (.int .i64 s.op)).setCell ⟨w.heap.size + 1, 12, none⟩ (.int .i64 s.up))
        generalize ((((((((((((wr.setCell ⟨w.heap.size + 1, 0, none⟩ (.int .i64 s.id)).setCell ⟨w.heap.size + 1, 1, none⟩ (.int .i64 s.co)).setCell ⟨w.heap.size + 1, 2, none⟩ (.int .i64 s.me)).setCell ⟨w.heap.size + 1, 3, none⟩ (.int .i64 s.cu)).setCell ⟨w.heap.size + 1, 4, none⟩ (.int .i64 s.da)).setCell ⟨w.heap.size + 1, 5, none⟩ (.int .i64 s.nn)).setCell ⟨w.heap.size + 1, 6, none⟩ (.int .i64 s.ra)).setCell ⟨w.heap.size + 1, 7, none⟩ (.int .i64 s.nu)).setCell ⟨w.heap.size + 1, 8, none⟩ (.int .i64 s.de)).setCell ⟨w.heap.size + 1, 9, none⟩ (.slice (some ⟨gi', 0, none⟩) l.length ci')).setCell ⟨w.heap.size + 1, 10, none⟩ (.slice (some ⟨gp', 0, none⟩) p.length cp')).setCell ⟨w.heap.size + 1, 11, none⟩ (.int .i64 s.op)).setCell ⟨w.heap.size + 1, 12, none⟩ (.int .i64 s.up) = W9 at Y BF LF ⊢
        have y0 : W9.cell? ⟨w.heap.size + 1, 0, none⟩ = some (.int .i64 s.id) := Y.out.cell 0 (by decide)
        have y1 : W9.cell? ⟨w.heap.size + 1, 1, none⟩ = some (.int .i64 s.co) := Y.out.cell 1 (by decide)
        have y2 : W9.cell? ⟨w.heap.size + 1, 2, none⟩ = some (.int .i64 s.me) := Y.out.cell 2 (by decide)
        have y3 : W9.cell? ⟨w.heap.size + 1, 3, none⟩ = some (.int .i64 s.cu) := Y.out.cell 3 (by decide)
        have y4 : W9.cell? ⟨w.heap.size + 1, 4, none⟩ = some (.int .i64 s.da) := Y.out.cell 4 (by decide)
        have y5 : W9.cell? ⟨w.heap.size + 1, 5, none⟩ = some (.int .i64 s.nn) := Y.out.cell 5 (by decide)
        have y6 : W9.cell? ⟨w.heap.size + 1, 6, none⟩ = some (.int .i64 s.ra) := Y.out.cell 6 (by decide)
        have y7 : W9.cell? ⟨w.heap.size + 1, 7, none⟩ = some (.int .i64 s.nu) := Y.out.cell 7 (by decide)
        have y8 : W9.cell? ⟨w.heap.size + 1, 8, none⟩ = some (.int .i64 s.de) := Y.out.cell 8 (by decide)
        have y9 : W9.cell? ⟨w.heap.size + 1, 9, none⟩ = some (.slice (some ⟨gi', 0, none⟩) l.length ci') := Y.out.cell 9 (by decide)
        have y10 : W9.cell? ⟨w.heap.size + 1, 10, none⟩ = some (.slice (some ⟨gp', 0, none⟩) p.length cp') := Y.out.cell 10 (by decide)
        have y11 : W9.cell? ⟨w.heap.size + 1, 11, none⟩ = some (.int .i64 s.op) := Y.out.cell 11 (by decide)
        have y12 : W9.cell? ⟨w.heap.size + 1, 12, none⟩ = some (.int .i64 s.up) := Y.out.cell 12 (by decide)
        refine bodyPost_ret (v := .tuple #[.agg #[.int .i64 s.id, .int .i64 s.co, .int .i64 s.me, .int .i64 s.cu, .int .i64 s.da, .int .i64 s.nn, .int .i64 s.ra, .int .i64 s.nu, .int .i64 s.de, .slice (some ⟨gi', 0, none⟩) l.length ci', .slice (some ⟨gp', 0, none⟩) p.length cp', .int .i64 s.op, .int .i64 s.up], .int .i64 SA, .int .i64 SC, .int .i64 0]) (by simp [results, Try.results40, go_sem, y0, y1, y2, y3, y4, y5, y6, y7, y8, y9, y10, y11, y12]) rfl ⟨_, by rw [← SE.out], _, _, _, _, _, _, _, _, ?_, LF.out, BF.out⟩
        rw [PLEN.out]
end Go.Proofs.Ytmaejlfjdkkpdaa.ob

namespace Go.Proofs.Ytmaejlfjdkkpdaa.ob
open Go.ChangeShapes Go.WideShapes Go.ChangeAt Go.RowKit
open gen
open seven (F7 zz Row At)
open four (F4)
open pl (inR)
open pls (nth Pls OL)
open ord (Sc iok)
theorem setR_short {s : Sc} {l : List F4} {p : List (List F7)} {d S0 S1 C : Int} {s' : Sc} {l' : List F4} {p' : List (List F7)} (h : setR s l p d S0 S1 C s' l' p') : Short l' p' := by
  rcases h with ⟨_, _, _, _, _, rfl, rfl⟩ | ⟨_, _, _, _, _, _, rfl, rfl⟩ | ⟨hk, _, _, _, _, _, rfl, rfl⟩
  · exact short_nil
  · exact short_nil
  · have o := ord.ok_iff.1 hk
    have e : (seLs p d).length = p.length := wk.fw_len _ _ _ _
    refine short_24 o.i1 (by rw [e]; exact o.p1) fun i hi => ?_
    rw [e] at hi
    unfold seLs
    rw [nth_fw _ _ p p.length (Nat.le_refl _) i hi]
    exact Nat.le_trans (base.poL_len (nth p i) d) (pl.pv_iff.1 (o.pv i hi)).1
end Go.Proofs.Ytmaejlfjdkkpdaa.ob
