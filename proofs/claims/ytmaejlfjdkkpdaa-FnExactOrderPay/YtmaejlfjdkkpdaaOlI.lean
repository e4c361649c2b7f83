/-
  Plain helpers of this seat's proofs: the outcomes of late fees of an order; the contract of the landed OrderLate. Conditions: none.
-/
import Derived.Test.YtmaejlfjdkkpdaaOut
import Derived.Test.YtmaejlfjdkkpdaaPlSt
import Derived.Test.YtmaejlfjdkkpdaaSi
import Derived.Test.YtmaejlfjdkkpdaaLn7
import Derived.Test.YtmaejlfjdkkpdaaRs6
import Derived.Test.YtmaejlfjdkkpdaaOk6
import Derived.Test.YtmaejlfjdkkpdaaCp6
namespace Go.Proofs.Ytmaejlfjdkkpdaa.base
open Go.ChangeShapes Go.WideShapes Go.ChangeAt Go.RowKit
open seven (F7 zz Row At)
open pl (inR prOk pok)
open gen
set_option maxRecDepth 40000 in
set_option maxHeartbeats 4000000 in
theorem ltI (d f p : Int) (w : World) (cap g : Nat) (l : List F7) (r : Row w (some ⟨g, 0, none⟩) cap g l) (hn : l.length ≤ 1048577) : Calls Try.prog 110 #[.slice (some ⟨g, 0, none⟩) l.length cap, .int .i64 d, .int .i64 f, .int .i64 p] w (Out w (ltOk l d f p) (ltL l d f p) (ltN l d f p)) := by
  obtain ⟨P, hP⟩ : ∃ P, P = ltL l d f p := ⟨_, rfl⟩
  obtain ⟨M, hM⟩ : ∃ M, M = ltN l d f p := ⟨_, rfl⟩
  rw [← hP, ← hM]
  have HP := Lib.hid hP
  have HM := Lib.hid hM
  clear hP hM
  have GL := Lib.hid (fun h : 0 < l.length => r.lt h)
  have C := Lib.hid (pkI w (some ⟨g, 0, none⟩) cap g l r hn)
  have R := Lib.hid r
  have CP := Lib.hid (fun w1 (h : Row w1 (some ⟨g, 0, none⟩) cap g l) => seven.cpI w1 g cap l h hn)
  clear r
  obtain ⟨n, hnz⟩ : ∃ n, n = l.length := ⟨_, rfl⟩
  rw [← hnz] at hn C CP ⊢
  have HNZ := Lib.hid hnz
  clear hnz
  have CT := Lib.hid (fun w1 => termsI d f p w1)
  go_enter Try.func110, Try.ntmps110
  go_wp2_with fail
  refine C.out.mono ?_
  rintro e w1 ⟨rfl, b1⟩
  have BN := Lib.hid b1
  have R1 := Lib.hid (R.out.keep (w' := w1) fun h => b1.block g (GL.out h))
  clear b1 R C
  cases hv : pl.pv l with
  | false =>
    have NOK := Lib.hid (show ltOk l d f p = false from (by unfold ltOk; rw [hv]; rfl))
    have NOL := Lib.hid (HP.out.trans (lt_no (by unfold ltOk; rw [hv]; rfl)).1)
    have NON := Lib.hid (HM.out.trans (lt_no (by unfold ltOk; rw [hv]; rfl)).2)
    clear hv
    go_wp2
    go_ret2
    exact out_no NOK.out NOL.out NON.out BN.out
  | true =>
    have HV := Lib.hid hv
    have PVH := Lib.hid (pl.pv_iff.1 hv)
    clear hv
    cases ht : (inR d 0 100000 && inR f 0 100000 && inR p 0 60) with
    | false =>
      rw [ht] at CT
      have NOK := Lib.hid (show ltOk l d f p = false from (by unfold ltOk; rw [HV.out, ht]; rfl))
      have NOL := Lib.hid (HP.out.trans (lt_no (by unfold ltOk; rw [HV.out, ht]; rfl)).1)
      have NON := Lib.hid (HM.out.trans (lt_no (by unfold ltOk; rw [HV.out, ht]; rfl)).2)
      clear ht
      go_wp2_with fail
      refine (CT.out _).mono ?_
      rintro e w' ⟨rfl, rfl⟩
      go_wp2
      go_ret2
      exact out_no NOK.out NOL.out NON.out BN.out
    | true =>
      rw [ht] at CT
      have HT := Lib.hid ht
      clear ht
      go_wp2_with fail
      refine (CT.out _).mono ?_
      rintro e w' ⟨rfl, rfl⟩
      have hb := HT.out
      rw [Bool.and_eq_true, Bool.and_eq_true, pl.inR_iff, pl.inR_iff, pl.inR_iff] at hb
      obtain ⟨⟨⟨d0, d1⟩, f0, f1⟩, p0, p1⟩ := hb
      have OK := Lib.hid (show ltOk l d f p = true from by unfold ltOk; rw [HV.out, HT.out]; rfl)
      have hn24 : n ≤ 24 := by rw [HNZ.out]; exact PVH.out.1
      have LS := Lib.hid (fun k hk => late_sum (d := d) (f := f) (g := p) (l := l) f0 f1 k hk)
      go_wp2_with fail
      refine (CP.out w1 R1.out).mono ?_
      rintro e w2 ⟨v, rfl, c2, g2, hv2, r2, l2, k2, b2⟩
      rw [← HNZ.out] at hv2
      subst hv2
      have B2 := Lib.hid (BN.out.trans (b2.mono BN.out.size))
      have R2 := Lib.hid r2
      have G2 := Lib.hid (show w.heap.size ≤ g2 from Nat.le_trans BN.out.size l2)
      clear r2 b2 l2
      go_wp2
      go_loopw [11, 28] (fun sv iv wr => Below w.heap.size w wr ∧ g2 < wr.heap.size ∧ ∃ k : Nat, k ≤ n ∧ iv = .int .i64 k ∧ sv = .int .i64 (pl.fs (pl.late d f p) 0 l k) ∧ Row wr (some ⟨g2, 0, none⟩) c2 g2 (pl.fw (pl.late d f p) 0 l k)) (fun _ iv _ => n - (intOf iv).toNat)
      case atStart => exact ⟨B2.out, k2, 0, by omega, rfl, by rw [pl.fs_zero], by rw [pl.fw_zero]; exact R2.out⟩
      case round =>
        obtain ⟨hB, hg2, k, hk, rfl, rfl, hR⟩ := hrel
        have BB := Lib.hid hB
        have RR := Lib.hid hR
        have m2 := R2.out.room
        rw [← HNZ.out] at m2
        clear hB
        have sB := LS.out k (by rw [← HNZ.out]; exact hk)
        obtain ⟨s0, s1⟩ := sB
        replace s1 : pl.fs (pl.late d f p) 0 l k ≤ 2400000 := by omega
        by_cases hlt : k < n
        · have HLT := Lib.hid (show k < l.length from by rw [← HNZ.out]; exact hlt)
          have FS := Lib.hid (pl.fs_succ (pl.late d f p) 0 HLT.out)
          have FW := Lib.hid (pl.fw_succ (pl.late d f p) 0 HLT.out)
          have FG := Lib.hid (pl.fw_get (pl.late d f p) 0 HLT.out)
          have FL := Lib.hid (show k < (pl.fw (pl.late d f p) 0 l k).length from by rw [pl.fw_len]; exact HLT.out)
          have q1 := hR.cells k FL.out
          have fz := hR.free (Nat.lt_of_le_of_lt (Nat.zero_le _) FL.out) (k * 7 + 3)
          rw [FG.out] at q1
          obtain ⟨x, hx⟩ : ∃ x, x = l.getD k zz := ⟨_, rfl⟩
          have PX := PVH.out.pin HLT.out
          rw [← hx] at q1 FS FW FG PX
          obtain ⟨S, hS⟩ : ∃ S, S = pl.fs (pl.late d f p) 0 l k := ⟨_, rfl⟩
          rw [← hS] at FS FW s0 s1 ⊢
          obtain ⟨L, hL⟩ : ∃ L, L = pl.fw (pl.late d f p) 0 l k := ⟨_, rfl⟩
          rw [← hL] at FW FG RR FL
          have dx0 := PX.d0
          have dx1 := PX.d1
          clear hx hS hL hR PX
          have mixed : Try.prog.follows .mixedOrders = true := Try.checked.mixed
          have z1 : (k : Int) < (n : Int) := by omega
          have u1 : decide (k < n) = true := by simp; omega
          have x1 := fun n os => (q1.grown n os).c0
          have x2 := fun n os => (q1.grown n os).c1
          have x3 := fun n os => (q1.grown n os).c2
          have x4 := fun n os => (q1.grown n os).c3
          have x5 := fun n os => (q1.grown n os).c4
          have x6 := fun n os => (q1.grown n os).c5
          have x7 := fun n os => (q1.grown n os).c6
          clear q1
          cases t1 : decide (x.1 + p < d) with
          | false =>
            have LT := Lib.hid (isLate_of (d := d) (g := p) (x := x) (b := false) (by rw [t1]; simp))
            go_wp2_with fail
            refine wp_region_quiet_grown mixed (by kernel_rfl) ?_
            repeat (go_big_quiet_step (fail))
            refine wpQuiet_nil ?_
            intro w3 hw'
            have G1 := Lib.hid (show Grew wr w3 from by obtain ⟨p, h⟩ := hw'; exact ⟨p.n, p.os, h⟩)
            clear hw'
            go_wp2
            go_roundw
            case rel =>
              refine ⟨Grew.step BB.out (Nat.le_refl _) G1.out, by have := G1.out.below.size; omega, k + 1, by omega, by go_num, by rw [FS.out, late_f LT.out], ?_⟩
              rw [FW.out, late_f LT.out, ← FG.out, set_self FL.out]
              exact RR.out.keep fun _ => G1.out.below.block g2 hg2
            case measure => simp [intOf]; omega
          | true =>
            cases t2 : (x.2.2.2.1 == 0) with
            | false =>
              have LT := Lib.hid (isLate_of (d := d) (g := p) (x := x) (b := false) (by rw [t1, t2]; simp))
              go_wp2_with fail
              refine wp_region_quiet_grown mixed (by kernel_rfl) ?_
              repeat (go_big_quiet_step (fail))
              refine wpQuiet_nil ?_
              intro w3 hw'
              have G1 := Lib.hid (show Grew wr w3 from by obtain ⟨p, h⟩ := hw'; exact ⟨p.n, p.os, h⟩)
              clear hw'
              go_wp2
              go_roundw
              case rel =>
                refine ⟨Grew.step BB.out (Nat.le_refl _) G1.out, by have := G1.out.below.size; omega, k + 1, by omega, by go_num, by rw [FS.out, late_f LT.out], ?_⟩
                rw [FW.out, late_f LT.out, ← FG.out, set_self FL.out]
                exact RR.out.keep fun _ => G1.out.below.block g2 hg2
              case measure => simp [intOf]; omega
            | true =>
              cases t3 : decide (x.2.2.2.2.1 < x.2.1) with
              | true =>
                have LT := Lib.hid (isLate_of (d := d) (g := p) (x := x) (b := true) (by rw [t1, t2, t3]; simp))
                go_wp2_with fail
                refine wp_region_quiet_grown mixed (by kernel_rfl) ?_
                repeat (go_big_quiet_step (fail))
                refine wpQuiet_nil ?_
                intro w3 hw'
                have G1 := Lib.hid (show Grew wr w3 from by obtain ⟨p, h⟩ := hw'; exact ⟨p.n, p.os, h⟩)
                clear hw'
                have R3 := Lib.hid (RR.out.keep (w' := w3) fun _ => G1.out.below.block g2 hg2)
                have y3 := (R3.out.cells k FL.out).c3
                have fz3 := R3.out.free (Nat.lt_of_le_of_lt (Nat.zero_le _) FL.out) (k * 7 + 3)
                go_wp2
                go_roundw
                case rel =>
                  refine ⟨((Grew.step BB.out (Nat.le_refl _) G1.out).setCell (p := ⟨g2, k * 7 + 3, none⟩) G2.out _), by have := G1.out.below.size; simp [World.setCell]; omega, k + 1, by omega, by go_num, by rw [FS.out, late_t LT.out]; try go_num, ?_⟩
                  rw [FW.out, late_t LT.out]
                  exact seven.rowSet3 R3.out FL.out FG.out _
                case measure => simp [intOf]; omega
              | false =>
                cases t4 : decide (x.2.2.2.2.2.1 < x.2.2.1) with
                | true =>
                  have LT := Lib.hid (isLate_of (d := d) (g := p) (x := x) (b := true) (by rw [t1, t2, t3, t4]; simp))
                  go_wp2_with fail
                  refine wp_region_quiet_grown mixed (by kernel_rfl) ?_
                  repeat (go_big_quiet_step (fail))
                  refine wpQuiet_nil ?_
                  intro w3 hw'
                  have G1 := Lib.hid (show Grew wr w3 from by obtain ⟨p, h⟩ := hw'; exact ⟨p.n, p.os, h⟩)
                  clear hw'
                  have R3 := Lib.hid (RR.out.keep (w' := w3) fun _ => G1.out.below.block g2 hg2)
                  have y3 := (R3.out.cells k FL.out).c3
                  have fz3 := R3.out.free (Nat.lt_of_le_of_lt (Nat.zero_le _) FL.out) (k * 7 + 3)
                  go_wp2
                  go_roundw
                  case rel =>
                    refine ⟨((Grew.step BB.out (Nat.le_refl _) G1.out).setCell (p := ⟨g2, k * 7 + 3, none⟩) G2.out _), by have := G1.out.below.size; simp [World.setCell]; omega, k + 1, by omega, by go_num, by rw [FS.out, late_t LT.out]; try go_num, ?_⟩
                    rw [FW.out, late_t LT.out]
                    exact seven.rowSet3 R3.out FL.out FG.out _
                  case measure => simp [intOf]; omega
                | false =>
                  have LT := Lib.hid (isLate_of (d := d) (g := p) (x := x) (b := false) (by rw [t1, t2, t3, t4]; simp))
                  go_wp2_with fail
                  refine wp_region_quiet_grown mixed (by kernel_rfl) ?_
                  repeat (go_big_quiet_step (fail))
                  refine wpQuiet_nil ?_
                  intro w3 hw'
                  have G1 := Lib.hid (show Grew wr w3 from by obtain ⟨p, h⟩ := hw'; exact ⟨p.n, p.os, h⟩)
                  clear hw'
                  go_wp2
                  go_roundw
                  case rel =>
                    refine ⟨Grew.step BB.out (Nat.le_refl _) G1.out, by have := G1.out.below.size; omega, k + 1, by omega, by go_num, by rw [FS.out, late_f LT.out], ?_⟩
                    rw [FW.out, late_f LT.out, ← FG.out, set_self FL.out]
                    exact RR.out.keep fun _ => G1.out.below.block g2 hg2
                  case measure => simp [intOf]; omega
        · have u1 : decide (k < n) = false := by simp; omega
          obtain rfl : k = n := by omega
          have E1 := Lib.hid (show P = pl.fw (pl.late d f p) 0 l k from by rw [HP.out, (lt_yes OK.out).1, ← HNZ.out])
          have E2 := Lib.hid (show M = pl.fs (pl.late d f p) 0 l k from by rw [HM.out, (lt_yes OK.out).2, ← HNZ.out])
          clear hR
          go_wp2
          go_ret2
          rw [← E2.out]
          exact out_yes (by rw [E1.out, pl.fw_len, HNZ.out]) (by rw [E1.out]; exact RR.out) G2.out hg2 BB.out
end Go.Proofs.Ytmaejlfjdkkpdaa.base

namespace Go.Proofs.Ytmaejlfjdkkpdaa.ob
open Go.ChangeShapes Go.WideShapes Go.ChangeAt Go.RowKit
open gen
open seven (F7 zz Row At)
open four (F4)
open pl (inR)
open pls (nth Pls OL)
open ord (Sc iok)
/-- Late fees of one plan. -/
noncomputable def stL (d f g : Int) (S : Int) (q : List F7) : List F7 × Int := (base.ltL q d f g, S + base.ltN q d f g)
noncomputable def ltLs (p : List (List F7)) (d f g : Int) : List (List F7) := wk.fw (stL d f g) 0 p p.length
noncomputable def ltNs (p : List (List F7)) (d f g : Int) : Int := wk.fs (stL d f g) 0 p p.length
theorem ltN_in (q : List F7) (d f g : Int) : 0 ≤ base.ltN q d f g ∧ base.ltN q d f g ≤ 2400000 := by
  cases h : base.ltOk q d f g with
  | false => rw [(base.lt_no h).2]; omega
  | true =>
    rw [(base.lt_yes h).2]
    unfold base.ltOk at h
    simp only [Bool.and_eq_true, pl.inR_iff] at h
    have := base.late_sum (d := d) (f := f) (g := g) (l := q) h.2.1.2.1 h.2.1.2.2 q.length (Nat.le_refl _)
    have := (pl.pv_iff.1 h.1).1
    omega
theorem lt_fs (d f g : Int) {p : List (List F7)} : ∀ k, k ≤ p.length → 0 ≤ wk.fs (stL d f g) 0 p k ∧ wk.fs (stL d f g) 0 p k ≤ k * 2400000
  | 0, _ => by rw [wk.fs_zero]; simp
  | k + 1, hk => by
    have h1 := lt_fs d f g (p := p) k (by omega)
    have h2 := ltN_in (p.getD k []) d f g
    rw [wk.fs_succ [] _ _ (show k < p.length by omega)]
    show 0 ≤ wk.fs (stL d f g) 0 p k + base.ltN (p.getD k []) d f g ∧ wk.fs (stL d f g) 0 p k + base.ltN (p.getD k []) d f g ≤ _
    omega
set_option maxRecDepth 40000 in
set_option maxHeartbeats 4000000 in
theorem lateI (d f g : Int) (w : World) (b : Nat) (s : Sc) (ai : Option Addr) (ni ci : Nat) (cp gp : Nat) (p : List (List F7)) (gs cs : Nat → Nat) (hb : OB w b s ai ni ci (some ⟨gp, 0, none⟩) p.length cp) (rp : Pls w (some ⟨gp, 0, none⟩) cp gp p gs cs) (hgp : gp < w.heap.size) (hne : b ≠ gp) (pv : ord.PVs p) (hn : p.length ≤ 8)
    (ht : (inR d 0 100000 && inR f 0 100000 && inR g 0 60) = true) :
    Calls Try.prog 76 #[.pointer (some ⟨b, 0, none⟩), .int .i64 d, .int .i64 f, .int .i64 g] w fun e w' => ∃ gs' cs', e = .returned (.int .i64 (ltNs p d f g)) ∧ Pls w' (some ⟨gp, 0, none⟩) cp gp (ltLs p d f g) gs' cs' ∧ (∀ i, i < p.length → w.heap.size ≤ gs' i) ∧ base.Turned gp w w' := by
  have R := Lib.hid rp
  have OBh := Lib.hid hb
  have PV := Lib.hid pv
  have HT := Lib.hid ht
  have m1 := rp.room
  have bl := hb.lt
  have y10 := hb.c10
  unfold ltNs ltLs
  clear rp hb pv ht
  obtain ⟨n, hnz⟩ : ∃ n, n = p.length := ⟨_, rfl⟩
  rw [← hnz] at hn m1 y10 ⊢
  have HNZ := Lib.hid hnz
  clear hnz
  go_enter Try.func76, Try.ntmps76
  go_wp2
  go_loopw [9, 18] (fun a i wr => ∃ (k : Nat) (gs' cs' : Nat → Nat), k ≤ n ∧ i = .int .i64 k ∧ a = .int .i64 (wk.fs (stL d f g) 0 p k) ∧ Pls wr (some ⟨gp, 0, none⟩) cp gp (wk.fw (stL d f g) 0 p k) gs' cs' ∧ base.Turned gp w wr ∧ ∀ j, j < n → (j < k → w.heap.size ≤ gs' j) ∧ (k ≤ j → gs' j = gs j)) (fun _ i _ => n - (intOf i).toNat)
  case atStart => exact ⟨0, gs, cs, by omega, rfl, by rw [wk.fs_zero], by rw [wk.fw_zero]; exact R.out, base.Turned.refl _ _, fun j _ => ⟨fun h => by omega, fun _ => rfl⟩⟩
  case round =>
    obtain ⟨k, gs', cs', hk, rfl, rfl, hP, hT, hG⟩ := hrel
    have PP := Lib.hid hP
    have TT := Lib.hid hT
    have GG := Lib.hid hG
    have SB := lt_fs d f g (p := p) k (by rw [← HNZ.out]; exact hk)
    obtain ⟨S, hS⟩ : ∃ S, S = wk.fs (stL d f g) 0 p k := ⟨_, rfl⟩
    rw [← hS] at SB ⊢
    have HS := Lib.hid hS
    obtain ⟨s0, s1⟩ := SB
    have s1 : S ≤ 19200000 := by omega
    have y10 := (OBh.out.keep (hT.2 b hne bl)).c10
    clear hS
    by_cases hlt : k < n
    · have HLT := Lib.hid (show k < p.length from by rw [← HNZ.out]; exact hlt)
      have FL := Lib.hid (show k < (wk.fw (stL d f g) 0 p k).length from by rw [wk.fw_len]; exact HLT.out)
      have NK : nth (wk.fw (stL d f g) 0 p k) k = nth p k := wk.fw_get [] _ _ HLT.out
      have q1 := hP.cells k FL.out
      have q2 := hP.rows k FL.out
      rw [NK] at q1 q2
      have OK : base.ltOk (nth p k) d f g = true := by unfold base.ltOk; rw [HT.out, Bool.and_true]; exact PV.out k HLT.out
      have NI := ltN_in (nth p k) d f g
      have FS : wk.fs (stL d f g) 0 p (k + 1) = S + base.ltN (nth p k) d f g := by rw [wk.fs_succ [] _ _ HLT.out, ← HS.out]; rfl
      have FW : wk.fw (stL d f g) 0 p (k + 1) = (wk.fw (stL d f g) 0 p k).set k (base.ltL (nth p k) d f g) := by rw [wk.fw_succ [] _ _ HLT.out]; rfl
      have C := base.ltI d f g wr (cs' k) (gs' k) (nth p k) q2 (Nat.le_trans (show (nth p k).length ≤ 24 from (pl.pv_iff.1 (PV.out k HLT.out)).1) (by omega))
      obtain ⟨P, hP'⟩ : ∃ P, P = base.ltL (nth p k) d f g := ⟨_, rfl⟩
      obtain ⟨M, hM⟩ : ∃ M, M = base.ltN (nth p k) d f g := ⟨_, rfl⟩
      rw [← hP'] at C FW
      rw [← hM] at C FS NI
      rw [OK] at C
      have FSh := Lib.hid FS
      have FWh := Lib.hid FW
      have CH := Lib.hid C
      have LGK := Lib.hid (show gs' k < wr.heap.size from hP.lt k FL.out)
      clear FS FW C hP' hM OK NK q2 hP hT hG
      generalize (nth p k).length = ln at q1 CH
      generalize gs' k = gk at q1 CH
      generalize cs' k = ck at q1 CH
      obtain ⟨m0, m9⟩ := NI
      have z1 : (k : Int) < (n : Int) := by omega
      have v1 : decide (k < n) = true := by simp; omega
      go_wp2_with fail
      refine CH.out.mono ?_
      rintro e w1 ⟨a1, c1, g1, rfl, r1, -, b1, o1⟩
      obtain ⟨rfl, l1, k1⟩ := o1 rfl
      have P1 := Lib.hid (PP.out.below b1)
      have R1 := Lib.hid r1
      have T1 := Lib.hid (pls.Turned.of TT.out b1 (Nat.le_of_lt (Nat.lt_of_lt_of_le hgp TT.out.1.size)))
      have y10 := (OBh.out.keep (T1.out.2 b hne bl)).c10
      have x1 := P1.out.cells k FL.out
      have f1 := P1.out.free (by have := FL.out; omega) k
      have L1 := Lib.hid (show wr.heap.size ≤ g1 ∧ g1 < w1.heap.size from ⟨l1, k1⟩)
      clear r1 b1 o1 q1 CH l1 k1
      go_wp2
      go_roundw
      case rel =>
        have hw := TT.out.1.size
        refine ⟨k + 1, pls.up gs' k g1, pls.up cs' k c1, by omega, by go_num, by rw [FSh.out], ?_, pls.Turned.trans T1.out ((base.Turned.refl gp w1).set k _), fun j hj => ⟨fun h => ?_, fun h => ?_⟩⟩
        · show Pls _ _ _ _ (wk.fw (stL d f g) 0 p (k + 1)) _ _
          rw [show wk.fw (stL d f g) 0 p (k + 1) = (wk.fw (stL d f g) 0 p k).set k P from FWh.out]
          exact P1.out.set FL.out R1.out L1.out.2 (by have := L1.out; omega) (fun i hi hne' => by have := PP.out.lt i hi; have := L1.out; omega)
        · unfold pls.up
          by_cases e : j = k
          · rw [if_pos e]; have := L1.out; omega
          · rw [if_neg e]; exact (GG.out j hj).1 (by omega)
        · unfold pls.up
          rw [if_neg (by omega)]; exact (GG.out j hj).2 (by omega)
      case measure => simp [intOf]; omega
    · have v1 : decide (k < n) = false := by simp; omega
      obtain rfl : k = n := by omega
      clear hP hT hG
      go_wp2
      go_ret
      exact ⟨gs', cs', show Ending.returned (Value.int .i64 S) = _ from by rw [HS.out], PP.out, fun i hi => (GG.out i hi).1 hi, TT.out⟩
end Go.Proofs.Ytmaejlfjdkkpdaa.ob

namespace Go.Proofs.Ytmaejlfjdkkpdaa.ob
open Go.ChangeShapes Go.WideShapes Go.ChangeAt Go.RowKit
open gen
open seven (F7 zz Row At)
open four (F4)
open pl (inR)
open pls (nth Pls OL NewO)
open ord (Sc iok)
/-- The outcomes. -/
def lateR (s : Sc) (l : List F4) (p : List (List F7)) (d f g : Int) (S0 C : Int) (s' : Sc) (l' : List F4) (p' : List (List F7)) : Prop :=
  (ord.ok s l p = false ∧ 0 = S0 ∧ 1 = C ∧ zs = s' ∧ [] = l' ∧ [] = p') ∨
  (ord.ok s l p = true ∧ (inR d 0 100000 && inR f 0 100000 && inR g 0 60) = false ∧ 0 = S0 ∧ 5 = C ∧ zs = s' ∧ [] = l' ∧ [] = p') ∨
  (ord.ok s l p = true ∧ (inR d 0 100000 && inR f 0 100000 && inR g 0 60) = true ∧ ltNs p d f g = S0 ∧ 0 = C ∧ s = s' ∧ l = l' ∧ ltLs p d f g = p')
theorem lateR_ex (s : Sc) (l : List F4) (p : List (List F7)) (d f g : Int) : ∃ S0 C s' l' p', lateR s l p d f g S0 C s' l' p' := by
  cases hk : ord.ok s l p with
  | false => exact ⟨0, 1, zs, [], [], Or.inl ⟨hk, rfl, rfl, rfl, rfl, rfl⟩⟩
  | true =>
    cases ht : ((inR d 0 100000 && inR f 0 100000 && inR g 0 60)) with
    | false => exact ⟨0, 5, zs, [], [], Or.inr (Or.inl ⟨hk, ht, rfl, rfl, rfl, rfl, rfl⟩)⟩
    | true => exact ⟨_, 0, s, l, _, Or.inr (Or.inr ⟨hk, ht, rfl, rfl, rfl, rfl, rfl⟩)⟩
theorem lateR_len {s : Sc} {l : List F4} {p : List (List F7)} {d f g S0 C : Int} {s' : Sc} {l' : List F4} {p' : List (List F7)} (h : lateR s l p d f g S0 C s' l' p') : l'.length ≤ l.length ∧ p'.length ≤ p.length := by
  rcases h with ⟨_, _, _, _, rfl, rfl⟩ | ⟨_, _, _, _, _, rfl, rfl⟩ | ⟨_, _, _, _, _, rfl, rfl⟩
  · simp
  · simp
  · exact ⟨Nat.le_refl _, Nat.le_of_eq (wk.fw_len _ _ _ _)⟩
set_option maxRecDepth 100000 in
set_option maxHeartbeats 8000000 in
theorem olI (d f g : Int) (w : World) (B : Nat) (s : Sc) (ci gi : Nat) (l : List F4) (cp gp : Nat) (p : List (List F7)) (gs cs : Nat → Nat) (h : OL w B l p (some ⟨gi, 0, none⟩) ci gi (some ⟨gp, 0, none⟩) cp gp gs cs) (hl : l.length ≤ 1048576) (hn : p.length ≤ 1048576) (hm : ∀ i, i < p.length → (nth p i).length ≤ 1048576) {S0 C : Int} {s' : Sc} {l' : List F4} {p' : List (List F7)} (hr : lateR s l p d f g S0 C s' l' p') :
    Calls Try.prog 39 #[.agg #[.int .i64 s.id, .int .i64 s.co, .int .i64 s.me, .int .i64 s.cu, .int .i64 s.da, .int .i64 s.nn, .int .i64 s.ra, .int .i64 s.nu, .int .i64 s.de, .slice (some ⟨gi, 0, none⟩) l.length ci, .slice (some ⟨gp, 0, none⟩) p.length cp, .int .i64 s.op, .int .i64 s.up], .int .i64 d, .int .i64 f, .int .i64 g] w fun e w' => ∃ v, e = .returned (.tuple #[v, .int .i64 S0, .int .i64 C]) ∧ Res w s' l' p' v w' := by
  have b0 : Below w.heap.size w ((w.alloc (.cells #[.int .i64 s.id, .int .i64 s.co, .int .i64 s.me, .int .i64 s.cu, .int .i64 s.da, .int .i64 s.nn, .int .i64 s.ra, .int .i64 s.nu, .int .i64 s.de, .slice (some ⟨gi, 0, none⟩) l.length ci, .slice (some ⟨gp, 0, none⟩) p.length cp, .int .i64 s.op, .int .i64 s.up] 31)).alloc (.cells #[.int .i64 0, .int .i64 0, .int .i64 0, .int .i64 0, .int .i64 0, .int .i64 0, .int .i64 0, .int .i64 0, .int .i64 0, .slice none 0 0, .slice none 0 0, .int .i64 0, .int .i64 0] 31)) := bAl (bAl (Below.refl _ _) (Nat.le_refl _) _) (Nat.le_refl _) _
  have B0 := Lib.hid b0
  have O0 := Lib.hid ((OB.new w s (some ⟨gi, 0, none⟩) l.length ci (some ⟨gp, 0, none⟩) p.length cp 31).keep (w' := (w.alloc (.cells #[.int .i64 s.id, .int .i64 s.co, .int .i64 s.me, .int .i64 s.cu, .int .i64 s.da, .int .i64 s.nn, .int .i64 s.ra, .int .i64 s.nu, .int .i64 s.de, .slice (some ⟨gi, 0, none⟩) l.length ci, .slice (some ⟨gp, 0, none⟩) p.length cp, .int .i64 s.op, .int .i64 s.up] 31)).alloc (.cells #[.int .i64 0, .int .i64 0, .int .i64 0, .int .i64 0, .int .i64 0, .int .i64 0, .int .i64 0, .int .i64 0, .int .i64 0, .slice none 0 0, .slice none 0 0, .int .i64 0, .int .i64 0] 31)) (Below.heap_alloc _ _ _ (by simp)))
  have X0 := Blk.new (w.alloc (.cells #[.int .i64 s.id, .int .i64 s.co, .int .i64 s.me, .int .i64 s.cu, .int .i64 s.da, .int .i64 s.nn, .int .i64 s.ra, .int .i64 s.nu, .int .i64 s.de, .slice (some ⟨gi, 0, none⟩) l.length ci, .slice (some ⟨gp, 0, none⟩) p.length cp, .int .i64 s.op, .int .i64 s.up] 31)) #[.int .i64 0, .int .i64 0, .int .i64 0, .int .i64 0, .int .i64 0, .int .i64 0, .int .i64 0, .int .i64 0, .int .i64 0, .slice none 0 0, .slice none 0 0, .int .i64 0, .int .i64 0] 31 13 rfl
  have z0 : ((w.alloc (.cells #[.int .i64 s.id, .int .i64 s.co, .int .i64 s.me, .int .i64 s.cu, .int .i64 s.da, .int .i64 s.nn, .int .i64 s.ra, .int .i64 s.nu, .int .i64 s.de, .slice (some ⟨gi, 0, none⟩) l.length ci, .slice (some ⟨gp, 0, none⟩) p.length cp, .int .i64 s.op, .int .i64 s.up] 31)).alloc (.cells #[.int .i64 0, .int .i64 0, .int .i64 0, .int .i64 0, .int .i64 0, .int .i64 0, .int .i64 0, .int .i64 0, .int .i64 0, .slice none 0 0, .slice none 0 0, .int .i64 0, .int .i64 0] 31)).heap.size = w.heap.size + 1 + 1 := by simp only [sz_al]
  simp only [sz_al] at X0
  have X0 := Lib.hid X0
  have hm' : ∀ i, i < p.length → (nth p i).length ≤ 1048577 := fun i hi => Nat.le_trans (hm i hi) (by omega)
  have CK := okI ((w.alloc (.cells #[.int .i64 s.id, .int .i64 s.co, .int .i64 s.me, .int .i64 s.cu, .int .i64 s.da, .int .i64 s.nn, .int .i64 s.ra, .int .i64 s.nu, .int .i64 s.de, .slice (some ⟨gi, 0, none⟩) l.length ci, .slice (some ⟨gp, 0, none⟩) p.length cp, .int .i64 s.op, .int .i64 s.up] 31)).alloc (.cells #[.int .i64 0, .int .i64 0, .int .i64 0, .int .i64 0, .int .i64 0, .int .i64 0, .int .i64 0, .int .i64 0, .int .i64 0, .slice none 0 0, .slice none 0 0, .int .i64 0, .int .i64 0] 31)) B s _ ci gi l _ cp gp p gs cs (h.below b0) (by omega) (by omega) hm'
  have L := Lib.hid h
  have HM := Lib.hid hm'
  clear h hm hm' b0
  rcases hr with ⟨hk, rfl, rfl, rfl, rfl, rfl⟩ | ⟨hk, ht, rfl, rfl, rfl, rfl, rfl⟩ | ⟨hk, ht, rfl, rfl, rfl, rfl, rfl⟩
  · rw [hk] at CK
    go_enter Try.func39, Try.ntmps39
    go_wp2_with fail
    generalize (w.alloc (.cells #[.int .i64 s.id, .int .i64 s.co, .int .i64 s.me, .int .i64 s.cu, .int .i64 s.da, .int .i64 s.nn, .int .i64 s.ra, .int .i64 s.nu, .int .i64 s.de, .slice (some ⟨gi, 0, none⟩) l.length ci, .slice (some ⟨gp, 0, none⟩) p.length cp, .int .i64 s.op, .int .i64 s.up] 31)).alloc (.cells #[.int .i64 0, .int .i64 0, .int .i64 0, .int .i64 0, .int .i64 0, .int .i64 0, .int .i64 0, .int .i64 0, .int .i64 0, .slice none 0 0, .slice none 0 0, .int .i64 0, .int .i64 0] 31) = W2 at B0 O0 X0 z0 CK ⊢
    refine CK.mono ?_
    rintro e w1 ⟨rfl, b1⟩
    have B1 := Lib.hid (B0.out.trans (b1.mono B0.out.size))
    have O1 := Lib.hid (O0.out.keep (b1.block w.heap.size (by omega)))
    have X1 := Lib.hid (X0.out.below b1 X0.out.lt)
    have z1 := b1.size
    clear b1 O0 X0 B0
    have x0 : w1.cell? ⟨w.heap.size + 1, 0, none⟩ = some (.int .i64 0) := X1.out.cell 0 (by decide)
    have x1 : w1.cell? ⟨w.heap.size + 1, 1, none⟩ = some (.int .i64 0) := X1.out.cell 1 (by decide)
    have x2 : w1.cell? ⟨w.heap.size + 1, 2, none⟩ = some (.int .i64 0) := X1.out.cell 2 (by decide)
    have x3 : w1.cell? ⟨w.heap.size + 1, 3, none⟩ = some (.int .i64 0) := X1.out.cell 3 (by decide)
    have x4 : w1.cell? ⟨w.heap.size + 1, 4, none⟩ = some (.int .i64 0) := X1.out.cell 4 (by decide)
    have x5 : w1.cell? ⟨w.heap.size + 1, 5, none⟩ = some (.int .i64 0) := X1.out.cell 5 (by decide)
    have x6 : w1.cell? ⟨w.heap.size + 1, 6, none⟩ = some (.int .i64 0) := X1.out.cell 6 (by decide)
    have x7 : w1.cell? ⟨w.heap.size + 1, 7, none⟩ = some (.int .i64 0) := X1.out.cell 7 (by decide)
    have x8 : w1.cell? ⟨w.heap.size + 1, 8, none⟩ = some (.int .i64 0) := X1.out.cell 8 (by decide)
    have x9 : w1.cell? ⟨w.heap.size + 1, 9, none⟩ = some (.slice none 0 0) := X1.out.cell 9 (by decide)
    have x10 : w1.cell? ⟨w.heap.size + 1, 10, none⟩ = some (.slice none 0 0) := X1.out.cell 10 (by decide)
    have x11 : w1.cell? ⟨w.heap.size + 1, 11, none⟩ = some (.int .i64 0) := X1.out.cell 11 (by decide)
    have x12 : w1.cell? ⟨w.heap.size + 1, 12, none⟩ = some (.int .i64 0) := X1.out.cell 12 (by decide)
    have f0 := X1.out.free 0
    have f1 := X1.out.free 1
    have f2 := X1.out.free 2
    have f3 := X1.out.free 3
    have f4 := X1.out.free 4
    have f5 := X1.out.free 5
    have f6 := X1.out.free 6
    have f7 := X1.out.free 7
    have f8 := X1.out.free 8
    have f9 := X1.out.free 9
    have f10 := X1.out.free 10
    have f11 := X1.out.free 11
    have f12 := X1.out.free 12
    have Y := Lib.hid (((((((((((((X1.out.set (k := 0) (by decide) (.int .i64 0)).set (k := 1) (by decide) (.int .i64 0)).set (k := 2) (by decide) (.int .i64 0)).set (k := 3) (by decide) (.int .i64 0)).set (k := 4) (by decide) (.int .i64 0)).set (k := 5) (by decide) (.int .i64 0)).set (k := 6) (by decide) (.int .i64 0)).set (k := 7) (by decide) (.int .i64 0)).set (k := 8) (by decide) (.int .i64 0)).set (k := 9) (by decide) (.slice none 0 0)).set (k := 10) (by decide) (.slice none 0 0)).set (k := 11) (by decide) (.int .i64 0)).set (k := 12) (by decide) (.int .i64 0))
    have BF := Lib.hid (show Below w.heap.size w (((((((((((((w1.setCell ⟨w.heap.size + 1, 0, none⟩ (.int .i64 0)).setCell ⟨w.heap.size + 1, 1, none⟩ (.int .i64 0)).setCell ⟨w.heap.size + 1, 2, none⟩ (.int .i64 0)).setCell ⟨w.heap.size + 1, 3, none⟩ (.int .i64 0)).setCell ⟨w.heap.size + 1, 4, none⟩ (.int .i64 0)).setCell ⟨w.heap.size + 1, 5, none⟩ (.int .i64 0)).setCell ⟨w.heap.size + 1, 6, none⟩ (.int .i64 0)).setCell ⟨w.heap.size + 1, 7, none⟩ (.int .i64 0)).setCell ⟨w.heap.size + 1, 8, none⟩ (.int .i64 0)).setCell ⟨w.heap.size + 1, 9, none⟩ (.slice none 0 0)).setCell ⟨w.heap.size + 1, 10, none⟩ (.slice none 0 0)).setCell ⟨w.heap.size + 1, 11, none⟩ (.int .i64 0)).setCell ⟨w.heap.size + 1, 12, none⟩ (.int .i64 0)) from (((((((((((((B1.out.setCell (p := ⟨w.heap.size + 1, 0, none⟩) (show w.heap.size ≤ w.heap.size + 1 by omega) (.int .i64 0)).setCell (p := ⟨w.heap.size + 1, 1, none⟩) (show w.heap.size ≤ w.heap.size + 1 by omega) (.int .i64 0)).setCell (p := ⟨w.heap.size + 1, 2, none⟩) (show w.heap.size ≤ w.heap.size + 1 by omega) (.int .i64 0)).setCell (p := ⟨w.heap.size + 1, 3, none⟩) (show w.heap.size ≤ w.heap.size + 1 by omega) (.int .i64 0)).setCell (p := ⟨w.heap.size + 1, 4, none⟩) (show w.heap.size ≤ w.heap.size + 1 by omega) (.int .i64 0)).setCell (p := ⟨w.heap.size + 1, 5, none⟩) (show w.heap.size ≤ w.heap.size + 1 by omega) (.int .i64 0)).setCell (p := ⟨w.heap.size + 1, 6, none⟩) (show w.heap.size ≤ w.heap.size + 1 by omega) (.int .i64 0)).setCell (p := ⟨w.heap.size + 1, 7, none⟩) (show w.heap.size ≤ w.heap.size + 1 by omega) (.int .i64 0)).setCell (p := ⟨w.heap.size + 1, 8, none⟩) (show w.heap.size ≤ w.heap.size + 1 by omega) (.int .i64 0)).setCell (p := ⟨w.heap.size + 1, 9, none⟩) (show w.heap.size ≤ w.heap.size + 1 by omega) (.slice none 0 0)).setCell (p := ⟨w.heap.size + 1, 10, none⟩) (show w.heap.size ≤ w.heap.size + 1 by omega) (.slice none 0 0)).setCell (p := ⟨w.heap.size + 1, 11, none⟩) (show w.heap.size ≤ w.heap.size + 1 by omega) (.int .i64 0)).setCell (p := ⟨w.heap.size + 1, 12, none⟩) (show w.heap.size ≤ w.heap.size + 1 by omega) (.int .i64 0)))
    go_wp2
    change bodyPost _ _ _ _ _ (((((((((((((w1.setCell ⟨w.heap.size + 1, 0, none⟩ (.int .i64 0)).setCell ⟨w.heap.size + 1, 1, none⟩ (.int .i64 0)).setCell ⟨w.heap.size + 1, 2, none⟩ (.int .i64 0)).setCell ⟨w.heap.size + 1, 3, none⟩ (.int .i64 0)).setCell ⟨w.heap.size + 1, 4, none⟩ (.int .i64 0)).setCell ⟨w.heap.size + 1, 5, none⟩ (.int .i64 0)).setCell ⟨w.heap.size + 1, 6, none⟩ (.int .i64 0)).setCell ⟨w.heap.size + 1, 7, none⟩ (.int .i64 0)).setCell ⟨w.heap.size + 1, 8, none⟩ (.int .i64 0)).setCell ⟨w.heap.size + 1, 9, none⟩ (.slice none 0 0)).setCell ⟨w.heap.size + 1, 10, none⟩ (.slice none 0 0)).setCell ⟨w.heap.size + 1, 11, none⟩ (.int .i64 0)).setCell ⟨w.heap.size + 1, 12, none⟩ (.int .i64 0))
    generalize ((((((((((((w1.setCell ⟨w.heap.size + 1, 0, none⟩ (.int .i64 0)).setCell ⟨w.heap.size + 1, 1, none⟩ (.int .i64 0)).setCell ⟨w.heap.size + 1, 2, none⟩ (.int .i64 0)).setCell ⟨w.heap.size + 1, 3, none⟩ (.int .i64 0)).setCell ⟨w.heap.size + 1, 4, none⟩ (.int .i64 0)).setCell ⟨w.heap.size + 1, 5, none⟩ (.int .i64 0)).setCell ⟨w.heap.size + 1, 6, none⟩ (.int .i64 0)).setCell ⟨w.heap.size + 1, 7, none⟩ (.int .i64 0)).setCell ⟨w.heap.size + 1, 8, none⟩ (.int .i64 0)).setCell ⟨w.heap.size + 1, 9, none⟩ (.slice none 0 0)).setCell ⟨w.heap.size + 1, 10, none⟩ (.slice none 0 0)).setCell ⟨w.heap.size + 1, 11, none⟩ (.int .i64 0)).setCell ⟨w.heap.size + 1, 12, none⟩ (.int .i64 0) = W9 at Y BF ⊢
    have y0 : W9.cell? ⟨w.heap.size + 1, 0, none⟩ = some (.int .i64 0) := Y.out.cell 0 (by decide)
    have y1 : W9.cell? ⟨w.heap.size + 1, 1, none⟩ = some (.int .i64 0) := Y.out.cell 1 (by decide)
    have y2 : W9.cell? ⟨w.heap.size + 1, 2, none⟩ = some (.int .i64 0) := Y.out.cell 2 (by decide)
    have y3 : W9.cell? ⟨w.heap.size + 1, 3, none⟩ = some (.int .i64 0) := Y.out.cell 3 (by decide)
    have y4 : W9.cell? ⟨w.heap.size + 1, 4, none⟩ = some (.int .i64 0) := Y.out.cell 4 (by decide)
    have y5 : W9.cell? ⟨w.heap.size + 1, 5, none⟩ = some (.int .i64 0) := Y.out.cell 5 (by decide)
    have y6 : W9.cell? ⟨w.heap.size + 1, 6, none⟩ = some (.int .i64 0) := Y.out.cell 6 (by decide)
    have y7 : W9.cell? ⟨w.heap.size + 1, 7, none⟩ = some (.int .i64 0) := Y.out.cell 7 (by decide)
    have y8 : W9.cell? ⟨w.heap.size + 1, 8, none⟩ = some (.int .i64 0) := Y.out.cell 8 (by decide)
    have y9 : W9.cell? ⟨w.heap.size + 1, 9, none⟩ = some (.slice none 0 0) := Y.out.cell 9 (by decide)
    have y10 : W9.cell? ⟨w.heap.size + 1, 10, none⟩ = some (.slice none 0 0) := Y.out.cell 10 (by decide)
    have y11 : W9.cell? ⟨w.heap.size + 1, 11, none⟩ = some (.int .i64 0) := Y.out.cell 11 (by decide)
    have y12 : W9.cell? ⟨w.heap.size + 1, 12, none⟩ = some (.int .i64 0) := Y.out.cell 12 (by decide)
    exact bodyPost_ret (v := .tuple #[.agg #[.int .i64 0, .int .i64 0, .int .i64 0, .int .i64 0, .int .i64 0, .int .i64 0, .int .i64 0, .int .i64 0, .int .i64 0, .slice none 0 0, .slice none 0 0, .int .i64 0, .int .i64 0], .int .i64 0, .int .i64 1]) (by simp [results, Try.results39, go_sem, y0, y1, y2, y3, y4, y5, y6, y7, y8, y9, y10, y11, y12]) rfl ⟨_, rfl, res_no BF.out⟩
  · rw [hk] at CK
    have CT := fun W => base.termsI d f g W
    rw [ht] at CT
    go_enter Try.func39, Try.ntmps39
    go_wp2_with fail
    generalize (w.alloc (.cells #[.int .i64 s.id, .int .i64 s.co, .int .i64 s.me, .int .i64 s.cu, .int .i64 s.da, .int .i64 s.nn, .int .i64 s.ra, .int .i64 s.nu, .int .i64 s.de, .slice (some ⟨gi, 0, none⟩) l.length ci, .slice (some ⟨gp, 0, none⟩) p.length cp, .int .i64 s.op, .int .i64 s.up] 31)).alloc (.cells #[.int .i64 0, .int .i64 0, .int .i64 0, .int .i64 0, .int .i64 0, .int .i64 0, .int .i64 0, .int .i64 0, .int .i64 0, .slice none 0 0, .slice none 0 0, .int .i64 0, .int .i64 0] 31) = W2 at B0 O0 X0 z0 CK ⊢
    refine CK.mono ?_
    rintro e w1 ⟨rfl, b1⟩
    have B1 := Lib.hid (B0.out.trans (b1.mono B0.out.size))
    have O1 := Lib.hid (O0.out.keep (b1.block w.heap.size (by omega)))
    have X1 := Lib.hid (X0.out.below b1 X0.out.lt)
    have z1 := b1.size
    clear b1 O0 X0 B0
    go_wp2_with fail
    refine (CT _).mono ?_
    rintro e w' ⟨rfl, rfl⟩
    have x0 : w1.cell? ⟨w.heap.size + 1, 0, none⟩ = some (.int .i64 0) := X1.out.cell 0 (by decide)
    have x1 : w1.cell? ⟨w.heap.size + 1, 1, none⟩ = some (.int .i64 0) := X1.out.cell 1 (by decide)
    have x2 : w1.cell? ⟨w.heap.size + 1, 2, none⟩ = some (.int .i64 0) := X1.out.cell 2 (by decide)
    have x3 : w1.cell? ⟨w.heap.size + 1, 3, none⟩ = some (.int .i64 0) := X1.out.cell 3 (by decide)
    have x4 : w1.cell? ⟨w.heap.size + 1, 4, none⟩ = some (.int .i64 0) := X1.out.cell 4 (by decide)
    have x5 : w1.cell? ⟨w.heap.size + 1, 5, none⟩ = some (.int .i64 0) := X1.out.cell 5 (by decide)
    have x6 : w1.cell? ⟨w.heap.size + 1, 6, none⟩ = some (.int .i64 0) := X1.out.cell 6 (by decide)
    have x7 : w1.cell? ⟨w.heap.size + 1, 7, none⟩ = some (.int .i64 0) := X1.out.cell 7 (by decide)
    have x8 : w1.cell? ⟨w.heap.size + 1, 8, none⟩ = some (.int .i64 0) := X1.out.cell 8 (by decide)
    have x9 : w1.cell? ⟨w.heap.size + 1, 9, none⟩ = some (.slice none 0 0) := X1.out.cell 9 (by decide)
    have x10 : w1.cell? ⟨w.heap.size + 1, 10, none⟩ = some (.slice none 0 0) := X1.out.cell 10 (by decide)
    have x11 : w1.cell? ⟨w.heap.size + 1, 11, none⟩ = some (.int .i64 0) := X1.out.cell 11 (by decide)
    have x12 : w1.cell? ⟨w.heap.size + 1, 12, none⟩ = some (.int .i64 0) := X1.out.cell 12 (by decide)
    have f0 := X1.out.free 0
    have f1 := X1.out.free 1
    have f2 := X1.out.free 2
    have f3 := X1.out.free 3
    have f4 := X1.out.free 4
    have f5 := X1.out.free 5
    have f6 := X1.out.free 6
    have f7 := X1.out.free 7
    have f8 := X1.out.free 8
    have f9 := X1.out.free 9
    have f10 := X1.out.free 10
    have f11 := X1.out.free 11
    have f12 := X1.out.free 12
    have Y := Lib.hid (((((((((((((X1.out.set (k := 0) (by decide) (.int .i64 0)).set (k := 1) (by decide) (.int .i64 0)).set (k := 2) (by decide) (.int .i64 0)).set (k := 3) (by decide) (.int .i64 0)).set (k := 4) (by decide) (.int .i64 0)).set (k := 5) (by decide) (.int .i64 0)).set (k := 6) (by decide) (.int .i64 0)).set (k := 7) (by decide) (.int .i64 0)).set (k := 8) (by decide) (.int .i64 0)).set (k := 9) (by decide) (.slice none 0 0)).set (k := 10) (by decide) (.slice none 0 0)).set (k := 11) (by decide) (.int .i64 0)).set (k := 12) (by decide) (.int .i64 0))
    have BF := Lib.hid (show Below w.heap.size w (((((((((((((w1.setCell ⟨w.heap.size + 1, 0, none⟩ (.int .i64 0)).setCell ⟨w.heap.size + 1, 1, none⟩ (.int .i64 0)).setCell ⟨w.heap.size + 1, 2, none⟩ (.int .i64 0)).setCell ⟨w.heap.size + 1, 3, none⟩ (.int .i64 0)).setCell ⟨w.heap.size + 1, 4, none⟩ (.int .i64 0)).setCell ⟨w.heap.size + 1, 5, none⟩ (.int .i64 0)).setCell ⟨w.heap.size + 1, 6, none⟩ (.int .i64 0)).setCell ⟨w.heap.size + 1, 7, none⟩ (.int .i64 0)).setCell ⟨w.heap.size + 1, 8, none⟩ (.int .i64 0)).setCell ⟨w.heap.size + 1, 9, none⟩ (.slice none 0 0)).setCell ⟨w.heap.size + 1, 10, none⟩ (.slice none 0 0)).setCell ⟨w.heap.size + 1, 11, none⟩ (.int .i64 0)).setCell ⟨w.heap.size + 1, 12, none⟩ (.int .i64 0)) from (((((((((((((B1.out.setCell (p := ⟨w.heap.size + 1, 0, none⟩) (show w.heap.size ≤ w.heap.size + 1 by omega) (.int .i64 0)).setCell (p := ⟨w.heap.size + 1, 1, none⟩) (show w.heap.size ≤ w.heap.size + 1 by omega) (.int .i64 0)).setCell (p := ⟨w.heap.size + 1, 2, none⟩) (show w.heap.size ≤ w.heap.size + 1 by omega) (.int .i64 0)).setCell (p := ⟨w.heap.size + 1, 3, none⟩) (show w.heap.size ≤ w.heap.size + 1 by omega) (.int .i64 0)).setCell (p := ⟨w.heap.size + 1, 4, none⟩) (show w.heap.size ≤ w.heap.size + 1 by omega) (.int .i64 0)).setCell (p := ⟨w.heap.size + 1, 5, none⟩) (show w.heap.size ≤ w.heap.size + 1 by omega) (.int .i64 0)).setCell (p := ⟨w.heap.size + 1, 6, none⟩) (show w.heap.size ≤ w.heap.size + 1 by omega) (.int .i64 0)).setCell (p := ⟨w.heap.size + 1, 7, none⟩) (show w.heap.size ≤ w.heap.size + 1 by omega) (.int .i64 0)).setCell (p := ⟨w.heap.size + 1, 8, none⟩) (show w.heap.size ≤ w.heap.size + 1 by omega) (.int .i64 0)).setCell (p := ⟨w.heap.size + 1, 9, none⟩) (show w.heap.size ≤ w.heap.size + 1 by omega) (.slice none 0 0)).setCell (p := ⟨w.heap.size + 1, 10, none⟩) (show w.heap.size ≤ w.heap.size + 1 by omega) (.slice none 0 0)).setCell (p := ⟨w.heap.size + 1, 11, none⟩) (show w.heap.size ≤ w.heap.size + 1 by omega) (.int .i64 0)).setCell (p := ⟨w.heap.size + 1, 12, none⟩) (show w.heap.size ≤ w.heap.size + 1 by omega) (.int .i64 0)))
    go_wp2
    change bodyPost _ _ _ _ _ (((((((((((((w1.setCell ⟨w.heap.size + 1, 0, none⟩ (.int .i64 0)).setCell ⟨w.heap.size + 1, 1, none⟩ (.int .i64 0)).setCell ⟨w.heap.size + 1, 2, none⟩ (.int .i64 0)).setCell ⟨w.heap.size + 1, 3, none⟩ (.int .i64 0)).setCell ⟨w.heap.size + 1, 4, none⟩ (.int .i64 0)).setCell ⟨w.heap.size + 1, 5, none⟩ (.int .i64 0)).setCell ⟨w.heap.size + 1, 6, none⟩ (.int .i64 0)).setCell ⟨w.heap.size + 1, 7, none⟩ (.int .i64 0)).setCell ⟨w.heap.size + 1, 8, none⟩ (.int .i64 0)).setCell ⟨w.heap.size + 1, 9, none⟩ (.slice none 0 0)).setCell ⟨w.heap.size + 1, 10, none⟩ (.slice none 0 0)).setCell ⟨w.heap.size + 1, 11, none⟩ (.int .i64 0)).setCell ⟨w.heap.size + 1, 12, none⟩ (.int .i64 0))
    generalize ((((((((((((w1.setCell ⟨w.heap.size + 1, 0, none⟩ (.int .i64 0)).setCell ⟨w.heap.size + 1, 1, none⟩ (.int .i64 0)).setCell ⟨w.heap.size + 1, 2, none⟩ (.int .i64 0)).setCell ⟨w.heap.size + 1, 3, none⟩ (.int .i64 0)).setCell ⟨w.heap.size + 1, 4, none⟩ (.int .i64 0)).setCell ⟨w.heap.size + 1, 5, none⟩ (.int .i64 0)).setCell ⟨w.heap.size + 1, 6, none⟩ (.int .i64 0)).setCell ⟨w.heap.size + 1, 7, none⟩ (.int .i64 0)).setCell ⟨w.heap.size + 1, 8, none⟩ (.int .i64 0)).setCell ⟨w.heap.size + 1, 9, none⟩ (.slice none 0 0)).setCell ⟨w.heap.size + 1, 10, none⟩ (.slice none 0 0)).setCell ⟨w.heap.size + 1, 11, none⟩ (.int .i64 0)).setCell ⟨w.heap.size + 1, 12, none⟩ (.int .i64 0) = W9 at Y BF ⊢
    have y0 : W9.cell? ⟨w.heap.size + 1, 0, none⟩ = some (.int .i64 0) := Y.out.cell 0 (by decide)
    have y1 : W9.cell? ⟨w.heap.size + 1, 1, none⟩ = some (.int .i64 0) := Y.out.cell 1 (by decide)
    have y2 : W9.cell? ⟨w.heap.size + 1, 2, none⟩ = some (.int .i64 0) := Y.out.cell 2 (by decide)
    have y3 : W9.cell? ⟨w.heap.size + 1, 3, none⟩ = some (.int .i64 0) := Y.out.cell 3 (by decide)
    have y4 : W9.cell? ⟨w.heap.size + 1, 4, none⟩ = some (.int .i64 0) := Y.out.cell 4 (by decide)
    have y5 : W9.cell? ⟨w.heap.size + 1, 5, none⟩ = some (.int .i64 0) := Y.out.cell 5 (by decide)
    have y6 : W9.cell? ⟨w.heap.size + 1, 6, none⟩ = some (.int .i64 0) := Y.out.cell 6 (by decide)
    have y7 : W9.cell? ⟨w.heap.size + 1, 7, none⟩ = some (.int .i64 0) := Y.out.cell 7 (by decide)
    have y8 : W9.cell? ⟨w.heap.size + 1, 8, none⟩ = some (.int .i64 0) := Y.out.cell 8 (by decide)
    have y9 : W9.cell? ⟨w.heap.size + 1, 9, none⟩ = some (.slice none 0 0) := Y.out.cell 9 (by decide)
    have y10 : W9.cell? ⟨w.heap.size + 1, 10, none⟩ = some (.slice none 0 0) := Y.out.cell 10 (by decide)
    have y11 : W9.cell? ⟨w.heap.size + 1, 11, none⟩ = some (.int .i64 0) := Y.out.cell 11 (by decide)
    have y12 : W9.cell? ⟨w.heap.size + 1, 12, none⟩ = some (.int .i64 0) := Y.out.cell 12 (by decide)
    exact bodyPost_ret (v := .tuple #[.agg #[.int .i64 0, .int .i64 0, .int .i64 0, .int .i64 0, .int .i64 0, .int .i64 0, .int .i64 0, .int .i64 0, .int .i64 0, .slice none 0 0, .slice none 0 0, .int .i64 0, .int .i64 0], .int .i64 0, .int .i64 5]) (by simp [results, Try.results39, go_sem, y0, y1, y2, y3, y4, y5, y6, y7, y8, y9, y10, y11, y12]) rfl ⟨_, rfl, res_no BF.out⟩
  · have OKV := ord.ok_iff.1 hk
    rw [hk] at CK
    have CT := fun W => base.termsI d f g W
    rw [ht] at CT
    have HT := Lib.hid ht
    have PVh := Lib.hid OKV.pv
    have p8 := OKV.p1
    clear OKV hk ht
    go_enter Try.func39, Try.ntmps39
    go_wp2_with fail
    generalize (w.alloc (.cells #[.int .i64 s.id, .int .i64 s.co, .int .i64 s.me, .int .i64 s.cu, .int .i64 s.da, .int .i64 s.nn, .int .i64 s.ra, .int .i64 s.nu, .int .i64 s.de, .slice (some ⟨gi, 0, none⟩) l.length ci, .slice (some ⟨gp, 0, none⟩) p.length cp, .int .i64 s.op, .int .i64 s.up] 31)).alloc (.cells #[.int .i64 0, .int .i64 0, .int .i64 0, .int .i64 0, .int .i64 0, .int .i64 0, .int .i64 0, .int .i64 0, .int .i64 0, .slice none 0 0, .slice none 0 0, .int .i64 0, .int .i64 0] 31) = W2 at B0 O0 X0 z0 CK ⊢
    refine CK.mono ?_
    rintro e w1 ⟨rfl, b1⟩
    have B1 := Lib.hid (B0.out.trans (b1.mono B0.out.size))
    have O1 := Lib.hid (O0.out.keep (b1.block w.heap.size (by omega)))
    have X1 := Lib.hid (X0.out.below b1 X0.out.lt)
    have z1 := b1.size
    clear b1 O0 X0 B0
    go_wp2_with fail
    refine (CT _).mono ?_
    rintro e w' ⟨rfl, rfl⟩
    have CC := copI w1 B w.heap.size s ci gi l cp gp p gs cs O1.out (L.out.below B1.out) hl hn HM.out
    go_wp2_with fail
    refine CC.mono ?_
    rintro e w2 ⟨v, rfl, ci', gi', cp', gp', gs', cs', rfl, ol, a1, a2, a3, a4, ne, b2⟩
    have B2 := Lib.hid ((B1.out.trans (b2.mono B1.out.size)).alloc (B1.out.trans (b2.mono B1.out.size)).size (.cells #[.int .i64 s.id, .int .i64 s.co, .int .i64 s.me, .int .i64 s.cu, .int .i64 s.da, .int .i64 s.nn, .int .i64 s.ra, .int .i64 s.nu, .int .i64 s.de, .slice (some ⟨gi', 0, none⟩) l.length ci', .slice (some ⟨gp', 0, none⟩) p.length cp', .int .i64 s.op, .int .i64 s.up] 31))
    have al := fun c hc => Below.heap_alloc w2 (.cells #[.int .i64 s.id, .int .i64 s.co, .int .i64 s.me, .int .i64 s.cu, .int .i64 s.da, .int .i64 s.nn, .int .i64 s.ra, .int .i64 s.nu, .int .i64 s.de, .slice (some ⟨gi', 0, none⟩) l.length ci', .slice (some ⟨gp', 0, none⟩) p.length cp', .int .i64 s.op, .int .i64 s.up] 31) c hc
    have N2 := Lib.hid (Blk.new w2 #[.int .i64 s.id, .int .i64 s.co, .int .i64 s.me, .int .i64 s.cu, .int .i64 s.da, .int .i64 s.nn, .int .i64 s.ra, .int .i64 s.nu, .int .i64 s.de, .slice (some ⟨gi', 0, none⟩) l.length ci', .slice (some ⟨gp', 0, none⟩) p.length cp', .int .i64 s.op, .int .i64 s.up] 31 13 rfl)
    have NO2 := Lib.hid (OB.new w2 s (some ⟨gi', 0, none⟩) l.length ci' (some ⟨gp', 0, none⟩) p.length cp' 31)
    have L2 := Lib.hid (ol.below ((Below.refl w2.heap.size w2).alloc (Nat.le_refl _) (.cells #[.int .i64 s.id, .int .i64 s.co, .int .i64 s.me, .int .i64 s.cu, .int .i64 s.da, .int .i64 s.nn, .int .i64 s.ra, .int .i64 s.nu, .int .i64 s.de, .slice (some ⟨gi', 0, none⟩) l.length ci', .slice (some ⟨gp', 0, none⟩) p.length cp', .int .i64 s.op, .int .i64 s.up] 31)))
    have X2 := Lib.hid ((X1.out.below b2 X1.out.lt).keep (w' := w2.alloc (.cells #[.int .i64 s.id, .int .i64 s.co, .int .i64 s.me, .int .i64 s.cu, .int .i64 s.da, .int .i64 s.nn, .int .i64 s.ra, .int .i64 s.nu, .int .i64 s.de, .slice (some ⟨gi', 0, none⟩) l.length ci', .slice (some ⟨gp', 0, none⟩) p.length cp', .int .i64 s.op, .int .i64 s.up] 31)) (al _ (X1.out.below b2 X1.out.lt).lt) (by simp))
    have z2 := b2.size
    have z2' : (w2.alloc (.cells #[.int .i64 s.id, .int .i64 s.co, .int .i64 s.me, .int .i64 s.cu, .int .i64 s.da, .int .i64 s.nn, .int .i64 s.ra, .int .i64 s.nu, .int .i64 s.de, .slice (some ⟨gi', 0, none⟩) l.length ci', .slice (some ⟨gp', 0, none⟩) p.length cp', .int .i64 s.op, .int .i64 s.up] 31)).heap.size = w2.heap.size + 1 := by simp only [sz_al]
    have DD := Lib.hid (show w.heap.size + 1 + 1 ≤ w1.heap.size ∧ w1.heap.size ≤ gi' ∧ gi' < w2.heap.size ∧ w1.heap.size ≤ gp' ∧ gp' < w2.heap.size ∧ gi' ≠ gp' from ⟨by omega, a1, a2, a3, a4, ne⟩)
    clear b2 al ol a1 a2 a3 a4 ne CC O1 X1 B1
    go_wp2_with fail
    obtain ⟨nb, hnb⟩ : ∃ nb, nb = w2.heap.size := ⟨_, rfl⟩
    have HNB := Lib.hid hnb
    rw [← hnb] at N2 NO2 z2' ⊢
    generalize w2.alloc (.cells #[.int .i64 s.id, .int .i64 s.co, .int .i64 s.me, .int .i64 s.cu, .int .i64 s.da, .int .i64 s.nn, .int .i64 s.ra, .int .i64 s.nu, .int .i64 s.de, .slice (some ⟨gi', 0, none⟩) l.length ci', .slice (some ⟨gp', 0, none⟩) p.length cp', .int .i64 s.op, .int .i64 s.up] 31) = W3 at B2 N2 NO2 L2 X2 z2' ⊢
    clear hnb
    have CL := lateI d f g W3 nb s (some ⟨gi', 0, none⟩) l.length ci' cp' gp' p gs' cs' NO2.out L2.out.plans (by have := DD.out; have := HNB.out; omega) (by have := DD.out; have := HNB.out; omega) PVh.out p8 HT.out
    refine CL.mono ?_
    rintro e w4 ⟨gs2, cs2, rfl, pl4, fr, T⟩
    have B5 := Lib.hid (B2.out.trans (T.1.mono (show w.heap.size ≤ gp' by have := DD.out; omega)))
    have X5 := Lib.hid (X2.out.keep (w' := w4) (T.2 _ (by have := DD.out; omega) X2.out.lt) T.1.size)
    have N5 := Lib.hid (N2.out.keep (w' := w4) (T.2 _ (by have := DD.out; have := HNB.out; omega) N2.out.lt) T.1.size)
    have PLEN := Lib.hid (show (ltLs p d f g).length = p.length from wk.fw_len _ _ _ _)
    have L5 := Lib.hid (show OL w4 (w.heap.size + 1 + 1) l (ltLs p d f g) (some ⟨gi', 0, none⟩) ci' gi' (some ⟨gp', 0, none⟩) cp' gp' gs2 cs2 from
      ⟨L2.out.items.keep fun hh => T.2 gi' (by have := DD.out; omega) (L2.out.gi1 hh), pl4, fun _ => by have := DD.out; omega, fun _ => by have := DD.out; omega, fun i hi => by have := fr i (by rw [← PLEN.out]; exact hi); have := DD.out; have := HNB.out; omega, fun _ _ => by have := DD.out; omega, fun i hi _ => by have := fr i (by rw [← PLEN.out]; exact hi); have := DD.out; have := HNB.out; omega⟩)
    clear T pl4 fr B2 N2 NO2 L2 X2
    have x0 : w4.cell? ⟨w.heap.size + 1, 0, none⟩ = some (.int .i64 0) := X5.out.cell 0 (by decide)
    have x1 : w4.cell? ⟨w.heap.size + 1, 1, none⟩ = some (.int .i64 0) := X5.out.cell 1 (by decide)
    have x2 : w4.cell? ⟨w.heap.size + 1, 2, none⟩ = some (.int .i64 0) := X5.out.cell 2 (by decide)
    have x3 : w4.cell? ⟨w.heap.size + 1, 3, none⟩ = some (.int .i64 0) := X5.out.cell 3 (by decide)
    have x4 : w4.cell? ⟨w.heap.size + 1, 4, none⟩ = some (.int .i64 0) := X5.out.cell 4 (by decide)
    have x5 : w4.cell? ⟨w.heap.size + 1, 5, none⟩ = some (.int .i64 0) := X5.out.cell 5 (by decide)
    have x6 : w4.cell? ⟨w.heap.size + 1, 6, none⟩ = some (.int .i64 0) := X5.out.cell 6 (by decide)
    have x7 : w4.cell? ⟨w.heap.size + 1, 7, none⟩ = some (.int .i64 0) := X5.out.cell 7 (by decide)
    have x8 : w4.cell? ⟨w.heap.size + 1, 8, none⟩ = some (.int .i64 0) := X5.out.cell 8 (by decide)
    have x9 : w4.cell? ⟨w.heap.size + 1, 9, none⟩ = some (.slice none 0 0) := X5.out.cell 9 (by decide)
    have x10 : w4.cell? ⟨w.heap.size + 1, 10, none⟩ = some (.slice none 0 0) := X5.out.cell 10 (by decide)
    have x11 : w4.cell? ⟨w.heap.size + 1, 11, none⟩ = some (.int .i64 0) := X5.out.cell 11 (by decide)
    have x12 : w4.cell? ⟨w.heap.size + 1, 12, none⟩ = some (.int .i64 0) := X5.out.cell 12 (by decide)
    have f0 := X5.out.free 0
    have f1 := X5.out.free 1
    have f2 := X5.out.free 2
    have f3 := X5.out.free 3
    have f4 := X5.out.free 4
    have f5 := X5.out.free 5
    have f6 := X5.out.free 6
    have f7 := X5.out.free 7
    have f8 := X5.out.free 8
    have f9 := X5.out.free 9
    have f10 := X5.out.free 10
    have f11 := X5.out.free 11
    have f12 := X5.out.free 12
    have n0 : w4.cell? ⟨nb, 0, none⟩ = some (.int .i64 s.id) := N5.out.cell 0 (by decide)
    have n1 : w4.cell? ⟨nb, 1, none⟩ = some (.int .i64 s.co) := N5.out.cell 1 (by decide)
    have n2 : w4.cell? ⟨nb, 2, none⟩ = some (.int .i64 s.me) := N5.out.cell 2 (by decide)
    have n3 : w4.cell? ⟨nb, 3, none⟩ = some (.int .i64 s.cu) := N5.out.cell 3 (by decide)
    have n4 : w4.cell? ⟨nb, 4, none⟩ = some (.int .i64 s.da) := N5.out.cell 4 (by decide)
    have n5 : w4.cell? ⟨nb, 5, none⟩ = some (.int .i64 s.nn) := N5.out.cell 5 (by decide)
    have n6 : w4.cell? ⟨nb, 6, none⟩ = some (.int .i64 s.ra) := N5.out.cell 6 (by decide)
    have n7 : w4.cell? ⟨nb, 7, none⟩ = some (.int .i64 s.nu) := N5.out.cell 7 (by decide)
    have n8 : w4.cell? ⟨nb, 8, none⟩ = some (.int .i64 s.de) := N5.out.cell 8 (by decide)
    have n9 : w4.cell? ⟨nb, 9, none⟩ = some (.slice (some ⟨gi', 0, none⟩) l.length ci') := N5.out.cell 9 (by decide)
    have n10 : w4.cell? ⟨nb, 10, none⟩ = some (.slice (some ⟨gp', 0, none⟩) p.length cp') := N5.out.cell 10 (by decide)
    have n11 : w4.cell? ⟨nb, 11, none⟩ = some (.int .i64 s.op) := N5.out.cell 11 (by decide)
    have n12 : w4.cell? ⟨nb, 12, none⟩ = some (.int .i64 s.up) := N5.out.cell 12 (by decide)
    have Y := Lib.hid (((((((((((((X5.out.set (k := 0) (by decide) (.int .i64 s.id)).set (k := 1) (by decide) (.int .i64 s.co)).set (k := 2) (by decide) (.int .i64 s.me)).set (k := 3) (by decide) (.int .i64 s.cu)).set (k := 4) (by decide) (.int .i64 s.da)).set (k := 5) (by decide) (.int .i64 s.nn)).set (k := 6) (by decide) (.int .i64 s.ra)).set (k := 7) (by decide) (.int .i64 s.nu)).set (k := 8) (by decide) (.int .i64 s.de)).set (k := 9) (by decide) (.slice (some ⟨gi', 0, none⟩) l.length ci')).set (k := 10) (by decide) (.slice (some ⟨gp', 0, none⟩) p.length cp')).set (k := 11) (by decide) (.int .i64 s.op)).set (k := 12) (by decide) (.int .i64 s.up))
    have BF := Lib.hid (show Below w.heap.size w (((((((((((((w4.setCell ⟨w.heap.size + 1, 0, none⟩ (.int .i64 s.id)).setCell ⟨w.heap.size + 1, 1, none⟩ (.int .i64 s.co)).setCell ⟨w.heap.size + 1, 2, none⟩ (.int .i64 s.me)).setCell ⟨w.heap.size + 1, 3, none⟩ (.int .i64 s.cu)).setCell ⟨w.heap.size + 1, 4, none⟩ (.int .i64 s.da)).setCell ⟨w.heap.size + 1, 5, none⟩ (.int .i64 s.nn)).setCell ⟨w.heap.size + 1, 6, none⟩ (.int .i64 s.ra)).setCell ⟨w.heap.size + 1, 7, none⟩ (.int .i64 s.nu)).setCell ⟨w.heap.size + 1, 8, none⟩ (.int .i64 s.de)).setCell ⟨w.heap.size + 1, 9, none⟩ (.slice (some ⟨gi', 0, none⟩) l.length ci')).setCell ⟨w.heap.size + 1, 10, none⟩ (.slice (some ⟨gp', 0, none⟩) p.length cp')).setCell ⟨w.heap.size + 1, 11, none⟩ (.int .i64 s.op)).setCell ⟨w.heap.size + 1, 12, none⟩ (.int .i64 s.up)) from (((((((((((((B5.out.setCell (p := ⟨w.heap.size + 1, 0, none⟩) (show w.heap.size ≤ w.heap.size + 1 by omega) (.int .i64 s.id)).setCell (p := ⟨w.heap.size + 1, 1, none⟩) (show w.heap.size ≤ w.heap.size + 1 by omega) (.int .i64 s.co)).setCell (p := ⟨w.heap.size + 1, 2, none⟩) (show w.heap.size ≤ w.heap.size + 1 by omega) (.int .i64 s.me)).setCell (p := ⟨w.heap.size + 1, 3, none⟩) (show w.heap.size ≤ w.heap.size + 1 by omega) (.int .i64 s.cu)).setCell (p := ⟨w.heap.size + 1, 4, none⟩) (show w.heap.size ≤ w.heap.size + 1 by omega) (.int .i64 s.da)).setCell (p := ⟨w.heap.size + 1, 5, none⟩) (show w.heap.size ≤ w.heap.size + 1 by omega) (.int .i64 s.nn)).setCell (p := ⟨w.heap.size + 1, 6, none⟩) (show w.heap.size ≤ w.heap.size + 1 by omega) (.int .i64 s.ra)).setCell (p := ⟨w.heap.size + 1, 7, none⟩) (show w.heap.size ≤ w.heap.size + 1 by omega) (.int .i64 s.nu)).setCell (p := ⟨w.heap.size + 1, 8, none⟩) (show w.heap.size ≤ w.heap.size + 1 by omega) (.int .i64 s.de)).setCell (p := ⟨w.heap.size + 1, 9, none⟩) (show w.heap.size ≤ w.heap.size + 1 by omega) (.slice (some ⟨gi', 0, none⟩) l.length ci')).setCell (p := ⟨w.heap.size + 1, 10, none⟩) (show w.heap.size ≤ w.heap.size + 1 by omega) (.slice (some ⟨gp', 0, none⟩) p.length cp')).setCell (p := ⟨w.heap.size + 1, 11, none⟩) (show w.heap.size ≤ w.heap.size + 1 by omega) (.int .i64 s.op)).setCell (p := ⟨w.heap.size + 1, 12, none⟩) (show w.heap.size ≤ w.heap.size + 1 by omega) (.int .i64 s.up)))
    have LF := Lib.hid (show OL (((((((((((((w4.setCell ⟨w.heap.size + 1, 0, none⟩ (.int .i64 s.id)).setCell ⟨w.heap.size + 1, 1, none⟩ (.int .i64 s.co)).setCell ⟨w.heap.size + 1, 2, none⟩ (.int .i64 s.me)).setCell ⟨w.heap.size + 1, 3, none⟩ (.int .i64 s.cu)).setCell ⟨w.heap.size + 1, 4, none⟩ (.int .i64 s.da)).setCell ⟨w.heap.size + 1, 5, none⟩ (.int .i64 s.nn)).setCell ⟨w.heap.size + 1, 6, none⟩ (.int .i64 s.ra)).setCell ⟨w.heap.size + 1, 7, none⟩ (.int .i64 s.nu)).setCell ⟨w.heap.size + 1, 8, none⟩ (.int .i64 s.de)).setCell ⟨w.heap.size + 1, 9, none⟩ (.slice (some ⟨gi', 0, none⟩) l.length ci')).setCell ⟨w.heap.size + 1, 10, none⟩ (.slice (some ⟨gp', 0, none⟩) p.length cp')).setCell ⟨w.heap.size + 1, 11, none⟩ (.int .i64 s.op)).setCell ⟨w.heap.size + 1, 12, none⟩ (.int .i64 s.up)) w.heap.size l (ltLs p d f g) (some ⟨gi', 0, none⟩) ci' gi' (some ⟨gp', 0, none⟩) cp' gp' gs2 cs2 from ⟨L5.out.items.keep fun _ => (((((((((((((Below.heap_setCell _ _ _ _ (show gi' ≠ w.heap.size + 1 by have := DD.out; omega)).trans (Below.heap_setCell _ _ _ _ (show gi' ≠ w.heap.size + 1 by have := DD.out; omega))).trans (Below.heap_setCell _ _ _ _ (show gi' ≠ w.heap.size + 1 by have := DD.out; omega))).trans (Below.heap_setCell _ _ _ _ (show gi' ≠ w.heap.size + 1 by have := DD.out; omega))).trans (Below.heap_setCell _ _ _ _ (show gi' ≠ w.heap.size + 1 by have := DD.out; omega))).trans (Below.heap_setCell _ _ _ _ (show gi' ≠ w.heap.size + 1 by have := DD.out; omega))).trans (Below.heap_setCell _ _ _ _ (show gi' ≠ w.heap.size + 1 by have := DD.out; omega))).trans (Below.heap_setCell _ _ _ _ (show gi' ≠ w.heap.size + 1 by have := DD.out; omega))).trans (Below.heap_setCell _ _ _ _ (show gi' ≠ w.heap.size + 1 by have := DD.out; omega))).trans (Below.heap_setCell _ _ _ _ (show gi' ≠ w.heap.size + 1 by have := DD.out; omega))).trans (Below.heap_setCell _ _ _ _ (show gi' ≠ w.heap.size + 1 by have := DD.out; omega))).trans (Below.heap_setCell _ _ _ _ (show gi' ≠ w.heap.size + 1 by have := DD.out; omega))).trans (Below.heap_setCell _ _ _ _ (show gi' ≠ w.heap.size + 1 by have := DD.out; omega))), L5.out.plans.keep (fun _ => (((((((((((((Below.heap_setCell _ _ _ _ (show gp' ≠ w.heap.size + 1 by have := DD.out; omega)).trans (Below.heap_setCell _ _ _ _ (show gp' ≠ w.heap.size + 1 by have := DD.out; omega))).trans (Below.heap_setCell _ _ _ _ (show gp' ≠ w.heap.size + 1 by have := DD.out; omega))).trans (Below.heap_setCell _ _ _ _ (show gp' ≠ w.heap.size + 1 by have := DD.out; omega))).trans (Below.heap_setCell _ _ _ _ (show gp' ≠ w.heap.size + 1 by have := DD.out; omega))).trans (Below.heap_setCell _ _ _ _ (show gp' ≠ w.heap.size + 1 by have := DD.out; omega))).trans (Below.heap_setCell _ _ _ _ (show gp' ≠ w.heap.size + 1 by have := DD.out; omega))).trans (Below.heap_setCell _ _ _ _ (show gp' ≠ w.heap.size + 1 by have := DD.out; omega))).trans (Below.heap_setCell _ _ _ _ (show gp' ≠ w.heap.size + 1 by have := DD.out; omega))).trans (Below.heap_setCell _ _ _ _ (show gp' ≠ w.heap.size + 1 by have := DD.out; omega))).trans (Below.heap_setCell _ _ _ _ (show gp' ≠ w.heap.size + 1 by have := DD.out; omega))).trans (Below.heap_setCell _ _ _ _ (show gp' ≠ w.heap.size + 1 by have := DD.out; omega))).trans (Below.heap_setCell _ _ _ _ (show gp' ≠ w.heap.size + 1 by have := DD.out; omega)))) (fun i hi => (((((((((((((Below.heap_setCell _ _ _ _ (show gs2 i ≠ w.heap.size + 1 by have := L5.out.gs0 i hi; omega)).trans (Below.heap_setCell _ _ _ _ (show gs2 i ≠ w.heap.size + 1 by have := L5.out.gs0 i hi; omega))).trans (Below.heap_setCell _ _ _ _ (show gs2 i ≠ w.heap.size + 1 by have := L5.out.gs0 i hi; omega))).trans (Below.heap_setCell _ _ _ _ (show gs2 i ≠ w.heap.size + 1 by have := L5.out.gs0 i hi; omega))).trans (Below.heap_setCell _ _ _ _ (show gs2 i ≠ w.heap.size + 1 by have := L5.out.gs0 i hi; omega))).trans (Below.heap_setCell _ _ _ _ (show gs2 i ≠ w.heap.size + 1 by have := L5.out.gs0 i hi; omega))).trans (Below.heap_setCell _ _ _ _ (show gs2 i ≠ w.heap.size + 1 by have := L5.out.gs0 i hi; omega))).trans (Below.heap_setCell _ _ _ _ (show gs2 i ≠ w.heap.size + 1 by have := L5.out.gs0 i hi; omega))).trans (Below.heap_setCell _ _ _ _ (show gs2 i ≠ w.heap.size + 1 by have := L5.out.gs0 i hi; omega))).trans (Below.heap_setCell _ _ _ _ (show gs2 i ≠ w.heap.size + 1 by have := L5.out.gs0 i hi; omega))).trans (Below.heap_setCell _ _ _ _ (show gs2 i ≠ w.heap.size + 1 by have := L5.out.gs0 i hi; omega))).trans (Below.heap_setCell _ _ _ _ (show gs2 i ≠ w.heap.size + 1 by have := L5.out.gs0 i hi; omega))).trans (Below.heap_setCell _ _ _ _ (show gs2 i ≠ w.heap.size + 1 by have := L5.out.gs0 i hi; omega)))) (by simp only [sz_set]; exact Nat.le_refl _), fun h => Nat.le_trans (show w.heap.size ≤ w.heap.size + 1 + 1 by omega) (L5.out.gi0 h), fun h => Nat.le_trans (show w.heap.size ≤ w.heap.size + 1 + 1 by omega) (L5.out.gp0 h), fun i h => Nat.le_trans (show w.heap.size ≤ w.heap.size + 1 + 1 by omega) (L5.out.gs0 i h), L5.out.ip, L5.out.is_⟩)
    clear X5 N5 L5 B5
    go_wp2
    change bodyPost _ _ _ _ _ (((((((((((((w4.setCell ⟨w.heap.size + 1, 0, none⟩ (.int .i64 s.id)).setCell ⟨w.heap.size + 1, 1, none⟩ (.int .i64 s.co)).setCell ⟨w.heap.size + 1, 2, none⟩ (.int .i64 s.me)).setCell ⟨w.heap.size + 1, 3, none⟩ (.int .i64 s.cu)).setCell ⟨w.heap.size + 1, 4, none⟩ (.int .i64 s.da)).setCell ⟨w.heap.size + 1, 5, none⟩ (.int .i64 s.nn)).setCell ⟨w.heap.size + 1, 6, none⟩ (.int .i64 s.ra)).setCell ⟨w.heap.size + 1, 7, none⟩ (.int .i64 s.nu)).setCell ⟨w.heap.size + 1, 8, none⟩ (.int .i64 s.de)).setCell ⟨w.heap.size + 1, 9, none⟩ (.slice (some ⟨gi', 0, none⟩) l.length ci')).setCell ⟨w.heap.size + 1, 10, none⟩ (.slice (some ⟨gp', 0, none⟩) p.length cp')).setCell ⟨w.heap.size + 1, 11, none⟩ (.int .i64 s.op)).setCell ⟨w.heap.size + 1, 12, none⟩ (.int .i64 s.up))
    generalize ((((((((((((w4.setCell ⟨w.heap.size + 1, 0, none⟩ (.int .i64 s.id)).setCell ⟨w.heap.size + 1, 1, none⟩ (.int .i64 s.co)).setCell ⟨w.heap.size + 1, 2, none⟩ (.int .i64 s.me)).setCell ⟨w.heap.size + 1, 3, none⟩ (.int .i64 s.cu)).setCell ⟨w.heap.size + 1, 4, none⟩ (.int .i64 s.da)).setCell ⟨w.heap.size + 1, 5, none⟩ (.int .i64 s.nn)).setCell ⟨w.heap.size + 1, 6, none⟩ (.int .i64 s.ra)).setCell ⟨w.heap.size + 1, 7, none⟩ (.int .i64 s.nu)).setCell ⟨w.heap.size + 1, 8, none⟩ (.int .i64 s.de)).setCell ⟨w.heap.size + 1, 9, none⟩ (.slice (some ⟨gi', 0, none⟩) l.length ci')).setCell ⟨w.heap.size + 1, 10, none⟩ (.slice (some ⟨gp', 0, none⟩) p.length cp')).setCell ⟨w.heap.size + 1, 11, none⟩ (.int .i64 s.op)).setCell ⟨w.heap.size + 1, 12, none⟩ (.int .i64 s.up) = W9 at Y BF LF ⊢
    have y0 : W9.cell? ⟨w.heap.size + 1, 0, none⟩ = some (.int .i64 s.id) := Y.out.cell 0 (by decide)
    have y1 : W9.cell? ⟨w.heap.size + 1, 1, none⟩ = some (.int .i64 s.co) := Y.out.cell 1 (by decide)
    have y2 : W9.cell? ⟨w.heap.size + 1, 2, none⟩ = some (.int .i64 s.me) := Y.out.cell 2 (by decide)
    have y3 : W9.cell? ⟨w.heap.size + 1, 3, none⟩ = some (.int .i64 s.cu) := Y.out.cell 3 (by decide)
    have y4 : W9.cell? ⟨w.heap.size + 1, 4, none⟩ = some (.int .i64 s.da) := Y.out.cell 4 (by decide)
    have y5 : W9.cell? ⟨w.heap.size + 1, 5, none⟩ = some (.int .i64 s.nn) := Y.out.cell 5 (by decide)
    have y6 : W9.cell? ⟨w.heap.size + 1, 6, none⟩ = some (.int .i64 s.ra) := Y.out.cell 6 (by decide)
    have y7 : W9.cell? ⟨w.heap.size + 1, 7, none⟩ = some (.int .i64 s.nu) := Y.out.cell 7 (by decide)
    have y8 : W9.cell? ⟨w.heap.size + 1, 8, none⟩ = some (.int .i64 s.de) := Y.out.cell 8 (by decide)
    have y9 : W9.cell? ⟨w.heap.size + 1, 9, none⟩ = some (.slice (some ⟨gi', 0, none⟩) l.length ci') := Y.out.cell 9 (by decide)
    have y10 : W9.cell? ⟨w.heap.size + 1, 10, none⟩ = some (.slice (some ⟨gp', 0, none⟩) p.length cp') := Y.out.cell 10 (by decide)
    have y11 : W9.cell? ⟨w.heap.size + 1, 11, none⟩ = some (.int .i64 s.op) := Y.out.cell 11 (by decide)
    have y12 : W9.cell? ⟨w.heap.size + 1, 12, none⟩ = some (.int .i64 s.up) := Y.out.cell 12 (by decide)
    refine bodyPost_ret (v := .tuple #[.agg #[.int .i64 s.id, .int .i64 s.co, .int .i64 s.me, .int .i64 s.cu, .int .i64 s.da, .int .i64 s.nn, .int .i64 s.ra, .int .i64 s.nu, .int .i64 s.de, .slice (some ⟨gi', 0, none⟩) l.length ci', .slice (some ⟨gp', 0, none⟩) p.length cp', .int .i64 s.op, .int .i64 s.up], .int .i64 (ltNs p d f g), .int .i64 0]) (by simp [results, Try.results39, go_sem, y0, y1, y2, y3, y4, y5, y6, y7, y8, y9, y10, y11, y12]) rfl ⟨_, rfl, _, _, _, _, _, _, _, _, ?_, LF.out, BF.out⟩
    rw [PLEN.out]
end Go.Proofs.Ytmaejlfjdkkpdaa.ob
