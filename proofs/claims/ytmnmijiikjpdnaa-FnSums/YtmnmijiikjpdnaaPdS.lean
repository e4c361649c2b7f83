/-
  Plain helpers of this seat's proofs: the contract of the model's PaidOff. Conditions: none.
-/
import Derived.Test.YtmnmijiikjpdnaaPd
import Derived.Test.YtmnmijiikjpdnaaRw7
import Derived.Test.YtmnmijiikjpdnaaPkS
namespace Go.Proofs.Ytmnmijiikjpdnaa.base
open Go.ChangeShapes Go.WideShapes Go.ChangeAt Go.RowKit
open seven (F7 zz Row At)
open pl (inR prOk pok)
open gen
theorem rowPut {w : World} {a : Option Addr} {cap g k : Nat} {l : List F7} (r : Row w a cap g l) (hk : k < l.length) (y : F7) : Row (seven.wN w g (k * 7) y) a cap g (l.set k y) := by
  obtain ⟨y0, y1, y2, y3, y4, y5, y6⟩ := y
  have r0 := seven.rowSet0 r hk rfl y0
  have r1 := seven.rowSet1 r0 (by simpa using hk) (seven.getD_set_same hk _) y1
  simp only [List.set_set] at r1
  have r2 := seven.rowSet2 r1 (by simpa using hk) (seven.getD_set_same hk _) y2
  simp only [List.set_set] at r2
  have r3 := seven.rowSet3 r2 (by simpa using hk) (seven.getD_set_same hk _) y3
  simp only [List.set_set] at r3
  have r4 := seven.rowSet4 r3 (by simpa using hk) (seven.getD_set_same hk _) y4
  simp only [List.set_set] at r4
  have r5 := seven.rowSet5 r4 (by simpa using hk) (seven.getD_set_same hk _) y5
  simp only [List.set_set] at r5
  have r6 := seven.rowSet6 r5 (by simpa using hk) (seven.getD_set_same hk _) y6
  simp only [List.set_set] at r6
  exact r6
theorem wN_size (w : World) (g o : Nat) (x : F7) : (seven.wN w g o x).heap.size = w.heap.size := by unfold seven.wN; simp [World.setCell]
/-- One Part is paid off. -/
def offF (d : Int) (s : Int) (x : F7) : F7 × Int := (full (wvX d x), s + pl.woff d x)
theorem offF_fs (d : Int) : ∀ (l : List F7) (s : Int), (pl.ml (offF d) s l).2 = (pl.ml (wv d) s l).2
  | [], _ => rfl
  | x :: l, s => by
    simp only [pl.ml]
    exact offF_fs d l _
theorem offF_fw (d : Int) : ∀ (l : List F7) (s : Int), (pl.ml (offF d) s l).1 = offL l d
  | [], _ => rfl
  | x :: l, s => by
    simp only [pl.ml, offF_fw d l]
    rfl
set_option maxRecDepth 40000 in
set_option maxHeartbeats 4000000 in
theorem pdS (d : Int) (w : World) (cap g : Nat) (l : List F7) (r : Row w (some ⟨g, 0, none⟩) cap g l) (hn : l.length ≤ 1048577) : Calls Try.prog 38 #[.slice (some ⟨g, 0, none⟩) l.length cap, .int .i64 d] w (Out w (poL l d) (poN l d)) := by
  obtain ⟨P, hP⟩ : ∃ P, P = poL l d := ⟨_, rfl⟩
  obtain ⟨M, hM⟩ : ∃ M, M = poN l d := ⟨_, rfl⟩
  rw [← hP, ← hM]
  have HP := Lib.hid hP
  have HM := Lib.hid hM
  clear hP hM
  have GL := Lib.hid (fun h : 0 < l.length => r.lt h)
  have C := Lib.hid (pkS w (some ⟨g, 0, none⟩) cap g l r hn)
  have R := Lib.hid r
  have CD := Lib.hid (fun w1 => dayS d w1)
  have CP := Lib.hid (fun w1 (h : Row w1 (some ⟨g, 0, none⟩) cap g l) => seven.cpS w1 g cap l h hn)
  clear r
  obtain ⟨n, hnz⟩ : ∃ n, n = l.length := ⟨_, rfl⟩
  rw [← hnz] at hn C CP ⊢
  have HNZ := Lib.hid hnz
  clear hnz
  go_enter Try.func38, Try.ntmps38
  go_wp2_with fail
  refine C.out.mono ?_
  rintro e w1 ⟨rfl, b1⟩
  have BN := Lib.hid b1
  have R1 := Lib.hid (R.out.keep (w' := w1) fun h => b1.block g (GL.out h))
  clear b1 R C
  cases hv : pl.pv l with
  | false =>
    have NOL := Lib.hid (HP.out.trans (po_no (by rw [hv]; rfl)).1)
    have NON := Lib.hid (HM.out.trans (po_no (by rw [hv]; rfl)).2)
    clear hv
    go_wp2
    go_ret2
    exact out_no NOL.out NON.out BN.out
  | true =>
    have HV := Lib.hid hv
    have PVH := Lib.hid (pl.pv_iff.1 hv)
    clear hv
    cases hd : inR d 0 100000 with
    | false =>
      rw [hd] at CD
      have NOL := Lib.hid (HP.out.trans (po_no (by rw [HV.out, hd]; rfl)).1)
      have NON := Lib.hid (HM.out.trans (po_no (by rw [HV.out, hd]; rfl)).2)
      clear hd
      go_wp2_with fail
      refine (CD.out _).mono ?_
      rintro e w' ⟨rfl, rfl⟩
      go_wp2
      go_ret2
      exact out_no NOL.out NON.out BN.out
    | true =>
      rw [hd] at CD
      have YP := Lib.hid (show P = pl.fw (offF d) 0 l l.length from by rw [HP.out, (po_yes (by rw [HV.out, hd]; rfl)).1, pl.fw_all, offF_fw])
      have YM := Lib.hid (HM.out.trans (po_yes (by rw [HV.out, hd]; rfl)).2)
      rw [← HNZ.out] at YM YP
      have DD := pl.inR_iff.1 hd
      obtain ⟨dd0, dd1⟩ := DD
      clear hd
      have hn24 : n ≤ 24 := by rw [HNZ.out]; exact PVH.out.1
      have SB := Lib.hid (fun k hk => wv_sum (d := d) (l := l) (fun i hi => PVH.out.pin (i := i) hi) k hk)
      go_wp2_with fail
      refine (CD.out _).mono ?_
      rintro e w' ⟨rfl, rfl⟩
      go_wp2_with fail
      refine (CP.out w1 R1.out).mono ?_
      rintro e w2 ⟨v, rfl, c2, g2, hv2, r2, l2, k2, b2⟩
      rw [← HNZ.out] at hv2
      subst hv2
      have B2 := Lib.hid (BN.out.trans (b2.mono BN.out.size))
      have R2 := Lib.hid r2
      have G2 := Lib.hid (show w.heap.size ≤ g2 from Nat.le_trans BN.out.size l2)
      clear r2 b2 l2
      go_wp2
      go_loopw [7, 8] (fun sv iv wr => Below w.heap.size w wr ∧ g2 < wr.heap.size ∧ ∃ k : Nat, k ≤ n ∧ iv = .int .i64 k ∧ sv = .int .i64 (pl.fs (wv d) 0 l k) ∧ Row wr (some ⟨g2, 0, none⟩) c2 g2 (pl.fw (offF d) 0 l k)) (fun _ iv _ => n - (intOf iv).toNat)
      case atStart => exact ⟨B2.out, k2, 0, by omega, rfl, by rw [pl.fs_zero], by rw [pl.fw_zero]; exact R2.out⟩
      case round =>
        obtain ⟨hB, hg2, k, hk, rfl, rfl, hR⟩ := hrel
        have BB := Lib.hid hB
        have RR := Lib.hid hR
        have m2 := R2.out.room
        rw [← HNZ.out] at m2
        clear hB
        have sB := SB.out k (by rw [← HNZ.out]; exact hk)
        obtain ⟨s0, s1⟩ := sB
        replace s1 : pl.fs (wv d) 0 l k ≤ 100000000000000 := by omega
        by_cases hlt : k < n
        · have HLT := Lib.hid (show k < l.length from by rw [← HNZ.out]; exact hlt)
          have FS := Lib.hid (pl.fs_succ (wv d) 0 HLT.out)
          have FW := Lib.hid (show pl.fw (offF d) 0 l (k + 1) = (pl.fw (offF d) 0 l k).set k (full (wvX d (l.getD k zz))) from pl.fw_succ (offF d) 0 HLT.out)
          have FG := Lib.hid (pl.fw_get (offF d) 0 HLT.out)
          have FL := Lib.hid (show k < (pl.fw (offF d) 0 l k).length from by rw [pl.fw_len]; exact HLT.out)
          have q1 := hR.cells k FL.out
          have fz := hR.free (Nat.lt_of_le_of_lt (Nat.zero_le _) FL.out)
          rw [FG.out] at q1
          obtain ⟨x, hx⟩ : ∃ x, x = l.getD k zz := ⟨_, rfl⟩
          have PX := PVH.out.pin HLT.out
          rw [← hx] at q1 FS FW FG PX
          obtain ⟨S, hS⟩ : ∃ S, S = pl.fs (wv d) 0 l k := ⟨_, rfl⟩
          rw [← hS] at FS s0 s1 ⊢
          obtain ⟨L, hL⟩ : ∃ L, L = pl.fw (offF d) 0 l k := ⟨_, rfl⟩
          rw [← hL] at FW FG RR FL
          obtain ⟨e0, e1, p0, p1, i0, i1, f0, f1, a0, a1, c0, c1, h0, h1⟩ := PX
          clear hx hS hL hR
          have z1 : (k : Int) < (n : Int) := by omega
          have u1 : decide (k < n) = true := by simp; omega
          obtain ⟨x1, x2, x3, x4, x5, x6, x7⟩ := q1
          cases t1 : decide (d < x.1) with
          | false =>
            have WO := Lib.hid (show pl.woff d x = 0 from by unfold pl.woff; rw [if_neg (by simp at t1; omega)])
            go_wp2
            go_roundw
            case rel =>
              refine ⟨(seven.below_wN BB.out G2.out _ (x.1, x.2.1, x.2.2.1, x.2.2.2.1, x.2.1, x.2.2.1, x.2.2.2.1)).alloc (by rw [wN_size]; exact BB.out.size) _, by simp [World.setCell]; omega, k + 1, by omega, by go_num, by rw [FS.out]; unfold wv; rw [WO.out]; simp, ?_⟩
              rw [FW.out, show full (wvX d x) = (x.1, x.2.1, x.2.2.1, x.2.2.2.1, x.2.1, x.2.2.1, x.2.2.2.1) from by unfold full wvX; rw [WO.out]; simp]
              exact (rowPut RR.out FL.out (x.1, x.2.1, x.2.2.1, x.2.2.2.1, x.2.1, x.2.2.1, x.2.2.2.1)).keep fun _ => Below.heap_alloc _ _ _ (by simp [World.setCell]; exact hg2)
            case measure => simp [intOf]; omega
          | true =>
            have WO := Lib.hid (show pl.woff d x = x.2.2.1 - x.2.2.2.2.2.1 from by unfold pl.woff; rw [if_pos (by simp at t1; omega)])
            go_wp2
            go_roundw
            case rel =>
              refine ⟨(seven.below_wN BB.out G2.out _ (x.1, x.2.1, x.2.2.2.2.2.1, x.2.2.2.1, x.2.1, x.2.2.2.2.2.1, x.2.2.2.1)).alloc (by rw [wN_size]; exact BB.out.size) _, by simp [World.setCell]; omega, k + 1, by omega, by go_num, by rw [FS.out]; unfold wv; rw [WO.out]; dsimp only; congr 1; omega, ?_⟩
              rw [FW.out, show full (wvX d x) = (x.1, x.2.1, x.2.2.2.2.2.1, x.2.2.2.1, x.2.1, x.2.2.2.2.2.1, x.2.2.2.1) from by
                have e : x.2.2.1 - (x.2.2.1 - x.2.2.2.2.2.1) = x.2.2.2.2.2.1 := by omega
                unfold full wvX; rw [WO.out]; dsimp only; rw [e]]
              exact (rowPut RR.out FL.out (x.1, x.2.1, x.2.2.2.2.2.1, x.2.2.2.1, x.2.1, x.2.2.2.2.2.1, x.2.2.2.1)).keep fun _ => Below.heap_alloc _ _ _ (by simp [World.setCell]; exact hg2)
            case measure => simp [intOf]; omega
        · have u1 : decide (k < n) = false := by simp; omega
          obtain rfl : k = n := by omega
          clear hR
          go_wp2
          go_ret2
          rw [← YM.out]
          exact out_yes (by rw [YP.out, pl.fw_len, HNZ.out]) (by rw [YP.out]; exact RR.out) G2.out hg2 BB.out
end Go.Proofs.Ytmnmijiikjpdnaa.base
