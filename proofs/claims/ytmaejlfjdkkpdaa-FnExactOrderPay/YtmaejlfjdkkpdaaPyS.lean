/-
  Plain helpers of this seat's proofs: the contract of the model's PayPlan. Conditions: none.
-/
import Derived.Test.YtmaejlfjdkkpdaaPy
import Derived.Test.YtmaejlfjdkkpdaaPkS
import Derived.Test.YtmaejlfjdkkpdaaPd
import Derived.Test.YtmaejlfjdkkpdaaRw7
import Derived.Test.YtmaejlfjdkkpdaaO3
import Derived.Test.YtmaejlfjdkkpdaaSmS
import Derived.BigRegion
namespace Go.Proofs.Ytmaejlfjdkkpdaa.base
open Go.ChangeShapes Go.WideShapes Go.ChangeAt Go.RowKit
open seven (F7 zz Row At)
open pl (inR prOk pok)
open gen
theorem fmS (m : Int) (w : World) (cap g : Nat) (l : List F7) (r : Row w (some ⟨g, 0, none⟩) cap g l) (hn : l.length ≤ 1048577) : Calls Try.prog 98 #[.slice (some ⟨g, 0, none⟩) l.length cap, .int .i64 m] w fun e w' => e = .returned (.bool (pyOk l m)) ∧ Below w.heap.size w w' := by
  unfold pyOk
  have C := pkS w (some ⟨g, 0, none⟩) cap g l r hn
  have CI := inB m 0 1000000000000
  clear r hn
  generalize l.length = n at C ⊢
  generalize pl.pv l = p at C ⊢
  generalize inR m 0 1000000000000 = t at CI ⊢
  cases p with
  | false =>
    go_enter Try.func98, Try.ntmps98
    go_wp2_with fail
    refine C.mono ?_
    rintro e w1 ⟨rfl, b1⟩
    have B1 := Lib.hid b1
    clear b1
    go_wp2
    go_ret
    exact ⟨rfl, B1.out⟩
  | true =>
    cases t
    all_goals
      go_enter Try.func98, Try.ntmps98
      go_wp2_with fail
      refine C.mono ?_
      rintro e w1 ⟨rfl, b1⟩
      have B1 := Lib.hid b1
      clear b1
      go_wp2_with fail
      refine (CI _).mono ?_
      rintro e w' ⟨rfl, rfl⟩
      go_wp2
      go_ret
      exact ⟨rfl, B1.out⟩
end Go.Proofs.Ytmaejlfjdkkpdaa.base

namespace Go.Proofs.Ytmaejlfjdkkpdaa.base
open Go.ChangeShapes Go.WideShapes Go.ChangeAt Go.RowKit
open seven (F7 zz Row At)
open pl (inR prOk pok)
open gen
theorem rowPut {w : World} {a : Option Addr} {cap g k : Nat} {l : List F7} (r : Row w a cap g l) (hk : k < l.length) (y : F7) : Row (seven.wN w g (k * 7) y) a cap g (l.set k y) := by
  obtain ⟨y0, y1, y2, y3, y4, y5, y6⟩ := y
  have r0 := seven.rowSet0 r hk rfl y0
  have r1 := seven.rowSet1 r0 (by simpa using hk) (seven.getD_set_same hk _) y1
  simp only [List.set_set] at r1
  have r2 := seven.rowSet2 r1 (by simpa using hk) (seven.getD_set_same hk _) y2
  simp only [List.set_set] at r2
  have r3 := seven.rowSet3 r2 (by simpa using hk) (seven.getD_set_same hk _) y3
  simp only [List.set_set] at r3
  have r4 := seven.rowSet4 r3 (by simpa using hk) (seven.getD_set_same hk _) y4
  simp only [List.set_set] at r4
  have r5 := seven.rowSet5 r4 (by simpa using hk) (seven.getD_set_same hk _) y5
  simp only [List.set_set] at r5
  have r6 := seven.rowSet6 r5 (by simpa using hk) (seven.getD_set_same hk _) y6
  simp only [List.set_set] at r6
  exact r6
theorem wN_size (w : World) (g o : Nat) (x : F7) : (seven.wN w g o x).heap.size = w.heap.size := by unfold seven.wN; simp [World.setCell]
/-- One Part is paid off. -/
def offF (d : Int) (s : Int) (x : F7) : F7 × Int := (full (wvX d x), s + pl.woff d x)
theorem offF_fs (d : Int) : ∀ (l : List F7) (s : Int), (pl.ml (offF d) s l).2 = (pl.ml (wv d) s l).2
  | [], _ => rfl
  | x :: l, s => by
    simp only [pl.ml]
    exact offF_fs d l _
theorem offF_fw (d : Int) : ∀ (l : List F7) (s : Int), (pl.ml (offF d) s l).1 = offL l d
  | [], _ => rfl
  | x :: l, s => by
    simp only [pl.ml, offF_fw d l]
    rfl
set_option maxRecDepth 40000 in
set_option maxHeartbeats 4000000 in
theorem pdS (d : Int) (w : World) (cap g : Nat) (l : List F7) (r : Row w (some ⟨g, 0, none⟩) cap g l) (hn : l.length ≤ 1048577) : Calls Try.prog 78 #[.slice (some ⟨g, 0, none⟩) l.length cap, .int .i64 d] w (Out w (pl.pv l && inR d 0 100000) (poL l d) (poN l d)) := by
  obtain ⟨P, hP⟩ : ∃ P, P = poL l d := ⟨_, rfl⟩
  obtain ⟨M, hM⟩ : ∃ M, M = poN l d := ⟨_, rfl⟩
  rw [← hP, ← hM]
  have HP := Lib.hid hP
  have HM := Lib.hid hM
  clear hP hM
  have GL := Lib.hid (fun h : 0 < l.length => r.lt h)
  have C := Lib.hid (pkS w (some ⟨g, 0, none⟩) cap g l r hn)
  have R := Lib.hid r
  have CD := Lib.hid (fun w1 => dayS d w1)
  have CP := Lib.hid (fun w1 (h : Row w1 (some ⟨g, 0, none⟩) cap g l) => seven.cpS w1 g cap l h hn)
  clear r
  obtain ⟨n, hnz⟩ : ∃ n, n = l.length := ⟨_, rfl⟩
  rw [← hnz] at hn C CP ⊢
  have HNZ := Lib.hid hnz
  clear hnz
  go_enter Try.func78, Try.ntmps78
  go_wp2_with fail
  refine C.out.mono ?_
  rintro e w1 ⟨rfl, b1⟩
  have BN := Lib.hid b1
  have R1 := Lib.hid (R.out.keep (w' := w1) fun h => b1.block g (GL.out h))
  clear b1 R C
  cases hv : pl.pv l with
  | false =>
    have NOK := Lib.hid (show (pl.pv l && inR d 0 100000) = false from (by rw [hv]; rfl))
    have NOL := Lib.hid (HP.out.trans (po_no (by rw [hv]; rfl)).1)
    have NON := Lib.hid (HM.out.trans (po_no (by rw [hv]; rfl)).2)
    clear hv
    go_wp2
    go_ret2
    exact out_no NOK.out NOL.out NON.out BN.out
  | true =>
    have HV := Lib.hid hv
    have PVH := Lib.hid (pl.pv_iff.1 hv)
    clear hv
    cases hd : inR d 0 100000 with
    | false =>
      rw [hd] at CD
      have NOK := Lib.hid (show (pl.pv l && inR d 0 100000) = false from (by rw [HV.out, hd]; rfl))
      have NOL := Lib.hid (HP.out.trans (po_no (by rw [HV.out, hd]; rfl)).1)
      have NON := Lib.hid (HM.out.trans (po_no (by rw [HV.out, hd]; rfl)).2)
      clear hd
      go_wp2_with fail
      refine (CD.out _).mono ?_
      rintro e w' ⟨rfl, rfl⟩
      go_wp2
      go_ret2
      exact out_no NOK.out NOL.out NON.out BN.out
    | true =>
      rw [hd] at CD
      have YP := Lib.hid (show P = pl.fw (offF d) 0 l l.length from by rw [HP.out, (po_yes (by rw [HV.out, hd]; rfl)).1, pl.fw_all, offF_fw])
      have YM := Lib.hid (HM.out.trans (po_yes (by rw [HV.out, hd]; rfl)).2)
      rw [← HNZ.out] at YM YP
      have DD := pl.inR_iff.1 hd
      obtain ⟨dd0, dd1⟩ := DD
      clear hd
      have hn24 : n ≤ 24 := by rw [HNZ.out]; exact PVH.out.1
      have SB := Lib.hid (fun k hk => wv_sum (d := d) (l := l) (fun i hi => PVH.out.pin (i := i) hi) k hk)
      go_wp2_with fail
      refine (CD.out _).mono ?_
      rintro e w' ⟨rfl, rfl⟩
      go_wp2_with fail
      refine (CP.out w1 R1.out).mono ?_
      rintro e w2 ⟨v, rfl, c2, g2, hv2, r2, l2, k2, b2⟩
      rw [← HNZ.out] at hv2
      subst hv2
      have B2 := Lib.hid (BN.out.trans (b2.mono BN.out.size))
      have R2 := Lib.hid r2
      have G2 := Lib.hid (show w.heap.size ≤ g2 from Nat.le_trans BN.out.size l2)
      clear r2 b2 l2
      go_wp2
      go_loopw [7, 8] (fun sv iv wr => Below w.heap.size w wr ∧ g2 < wr.heap.size ∧ ∃ k : Nat, k ≤ n ∧ iv = .int .i64 k ∧ sv = .int .i64 (pl.fs (wv d) 0 l k) ∧ Row wr (some ⟨g2, 0, none⟩) c2 g2 (pl.fw (offF d) 0 l k)) (fun _ iv _ => n - (intOf iv).toNat)
      case atStart => exact ⟨B2.out, k2, 0, by omega, rfl, by rw [pl.fs_zero], by rw [pl.fw_zero]; exact R2.out⟩
      case round =>
        obtain ⟨hB, hg2, k, hk, rfl, rfl, hR⟩ := hrel
        have BB := Lib.hid hB
        have RR := Lib.hid hR
        have m2 := R2.out.room
        rw [← HNZ.out] at m2
        clear hB
        have sB := SB.out k (by rw [← HNZ.out]; exact hk)
        obtain ⟨s0, s1⟩ := sB
        replace s1 : pl.fs (wv d) 0 l k ≤ 100000000000000 := by omega
        by_cases hlt : k < n
        · have HLT := Lib.hid (show k < l.length from by rw [← HNZ.out]; exact hlt)
          have FS := Lib.hid (pl.fs_succ (wv d) 0 HLT.out)
          have FW := Lib.hid (show pl.fw (offF d) 0 l (k + 1) = (pl.fw (offF d) 0 l k).set k (full (wvX d (l.getD k zz))) from pl.fw_succ (offF d) 0 HLT.out)
          have FG := Lib.hid (pl.fw_get (offF d) 0 HLT.out)
          have FL := Lib.hid (show k < (pl.fw (offF d) 0 l k).length from by rw [pl.fw_len]; exact HLT.out)
          have q1 := hR.cells k FL.out
          have fz := hR.free (Nat.lt_of_le_of_lt (Nat.zero_le _) FL.out)
          rw [FG.out] at q1
          obtain ⟨x, hx⟩ : ∃ x, x = l.getD k zz := ⟨_, rfl⟩
          have PX := PVH.out.pin HLT.out
          rw [← hx] at q1 FS FW FG PX
          obtain ⟨S, hS⟩ : ∃ S, S = pl.fs (wv d) 0 l k := ⟨_, rfl⟩
          rw [← hS] at FS s0 s1 ⊢
          obtain ⟨L, hL⟩ : ∃ L, L = pl.fw (offF d) 0 l k := ⟨_, rfl⟩
          rw [← hL] at FW FG RR FL
          obtain ⟨e0, e1, p0, p1, i0, i1, f0, f1, a0, a1, c0, c1, h0, h1⟩ := PX
          clear hx hS hL hR
          have z1 : (k : Int) < (n : Int) := by omega
          have u1 : decide (k < n) = true := by simp; omega
          obtain ⟨x1, x2, x3, x4, x5, x6, x7⟩ := q1
          cases t1 : decide (d < x.1) with
          | false =>
            have WO := Lib.hid (show pl.woff d x = 0 from by unfold pl.woff; rw [if_neg (by simp at t1; omega)])
            go_wp2
            go_roundw
            case rel =>
              refine ⟨(seven.below_wN BB.out G2.out _ (x.1, x.2.1, x.2.2.1, x.2.2.2.1, x.2.1, x.2.2.1, x.2.2.2.1)).alloc (by rw [wN_size]; exact BB.out.size) _, by simp [World.setCell]; omega, k + 1, by omega, by go_num, by rw [FS.out]; unfold wv; rw [WO.out]; simp, ?_⟩
              rw [FW.out, show full (wvX d x) = (x.1, x.2.1, x.2.2.1, x.2.2.2.1, x.2.1, x.2.2.1, x.2.2.2.1) from by unfold full wvX; rw [WO.out]; simp]
              exact (rowPut RR.out FL.out (x.1, x.2.1, x.2.2.1, x.2.2.2.1, x.2.1, x.2.2.1, x.2.2.2.1)).keep fun _ => Below.heap_alloc _ _ _ (by simp [World.setCell]; exact hg2)
            case measure => simp [intOf]; omega
          | true =>
            have WO := Lib.hid (show pl.woff d x = x.2.2.1 - x.2.2.2.2.2.1 from by unfold pl.woff; rw [if_pos (by simp at t1; omega)])
            go_wp2
            go_roundw
            case rel =>
              refine ⟨(seven.below_wN BB.out G2.out _ (x.1, x.2.1, x.2.2.2.2.2.1, x.2.2.2.1, x.2.1, x.2.2.2.2.2.1, x.2.2.2.1)).alloc (by rw [wN_size]; exact BB.out.size) _, by simp [World.setCell]; omega, k + 1, by omega, by go_num, by rw [FS.out]; unfold wv; rw [WO.out]; dsimp only; congr 1; omega, ?_⟩
              rw [FW.out, show full (wvX d x) = (x.1, x.2.1, x.2.2.2.2.2.1, x.2.2.2.1, x.2.1, x.2.2.2.2.2.1, x.2.2.2.1) from by
                have e : x.2.2.1 - (x.2.2.1 - x.2.2.2.2.2.1) = x.2.2.2.2.2.1 := by omega
                unfold full wvX; rw [WO.out]; dsimp only; rw [e]]
              exact (rowPut RR.out FL.out (x.1, x.2.1, x.2.2.2.2.2.1, x.2.2.2.1, x.2.1, x.2.2.2.2.2.1, x.2.2.2.1)).keep fun _ => Below.heap_alloc _ _ _ (by simp [World.setCell]; exact hg2)
            case measure => simp [intOf]; omega
        · have u1 : decide (k < n) = false := by simp; omega
          obtain rfl : k = n := by omega
          clear hR
          go_wp2
          go_ret2
          rw [← YM.out]
          exact out_yes (by rw [YP.out, pl.fw_len, HNZ.out]) (by rw [YP.out]; exact RR.out) G2.out hg2 BB.out
end Go.Proofs.Ytmaejlfjdkkpdaa.base

namespace Go.Proofs.Ytmaejlfjdkkpdaa.base
open Go.ChangeShapes Go.WideShapes Go.ChangeAt Go.RowKit
open seven (F7 zz Row At)
open pl (inR prOk pok)
open gen
theorem wN_other (w : World) (g o : Nat) (x : F7) (k : Nat) (h : k ≠ g) : (seven.wN w g o x).heap[k]? = w.heap[k]? := by
  unfold seven.wN
  rw [Below.heap_setCell _ _ _ _ h, Below.heap_setCell _ _ _ _ h, Below.heap_setCell _ _ _ _ h, Below.heap_setCell _ _ _ _ h, Below.heap_setCell _ _ _ _ h, Below.heap_setCell _ _ _ _ h, Below.heap_setCell _ _ _ _ h]
def st3 (W : World) (b : Nat) (p q r : Int) : World := ((W.setCell ⟨b, 6, none⟩ (.int .i64 r)).setCell ⟨b, 5, none⟩ (.int .i64 q)).setCell ⟨b, 4, none⟩ (.int .i64 p)
theorem st3_size (W : World) (b : Nat) (p q r : Int) : (st3 W b p q r).heap.size = W.heap.size := by unfold st3; simp [World.setCell]
theorem st3_other (W : World) (b : Nat) (p q r : Int) (k : Nat) (h : k ≠ b) : (st3 W b p q r).heap[k]? = W.heap[k]? := by
  unfold st3
  rw [Below.heap_setCell _ _ _ _ h, Below.heap_setCell _ _ _ _ h, Below.heap_setCell _ _ _ _ h]
theorem st3_bx {W : World} {b : Nat} {p q r : Int} (h : Bx W b (0, 0, 0, 0, p, q, r)) (p' q' r' : Int) : Bx (st3 W b p' q' r') b (0, 0, 0, 0, p', q', r') :=
  ⟨setAt4 (setAt5 (setAt6 h.at_ r') q') p', fun k => ((World.frozen?_setCell _ _ _ _).trans (World.frozen?_setCell _ _ _ _)).trans ((World.frozen?_setCell _ _ _ _).trans (h.free k))⟩
theorem dh0 (W : World) (k : Nat) : W.drew.heap[k]? = W.heap[k]? := rfl
theorem dhs0 (W : World) : W.drew.heap.size = W.heap.size := rfl
theorem st7_size (W : World) (b : Nat) (x : F7) : (st7 W b x).heap.size = W.heap.size := by unfold st7; simp [World.setCell]
theorem st7_other (W : World) (b : Nat) (x : F7) (k : Nat) (h : k ≠ b) : (st7 W b x).heap[k]? = W.heap[k]? := by
  unfold st7
  rw [Below.heap_setCell _ _ _ _ h, Below.heap_setCell _ _ _ _ h, Below.heap_setCell _ _ _ _ h, Below.heap_setCell _ _ _ _ h, Below.heap_setCell _ _ _ _ h, Below.heap_setCell _ _ _ _ h, Below.heap_setCell _ _ _ _ h]
theorem st3_below {w W : World} {B b : Nat} (h : Below B w W) (hb : B ≤ b) (p q r : Int) : Below B w (st3 W b p q r) :=
  ((h.setCell (p := ⟨b, 6, none⟩) hb _).setCell (p := ⟨b, 5, none⟩) hb _).setCell (p := ⟨b, 4, none⟩) hb _
set_option maxRecDepth 100000 in
set_option maxHeartbeats 8000000 in
theorem ppS (m : Int) (w : World) (cap g : Nat) (l : List F7) (r : Row w (some ⟨g, 0, none⟩) cap g l) (hn : l.length ≤ 1048577) : Calls Try.prog 64 #[.slice (some ⟨g, 0, none⟩) l.length cap, .int .i64 m] w (Out3 w (pyOk l m) (pyL l m) (pyS l m)) := by
  obtain ⟨P, hP⟩ : ∃ P, P = pyL l m := ⟨_, rfl⟩
  obtain ⟨M, hM⟩ : ∃ M, M = pyS l m := ⟨_, rfl⟩
  rw [← hP, ← hM]
  have HP := Lib.hid hP
  have HM := Lib.hid hM
  clear hP hM
  obtain ⟨W0, hW0⟩ : ∃ W0, W0 = w.alloc (.cells #[.int .i64 0, .int .i64 0, .int .i64 0, .int .i64 0, .int .i64 0, .int .i64 0, .int .i64 0] 37) := ⟨_, rfl⟩
  have b0 : Below w.heap.size w W0 := by rw [hW0]; exact (Below.refl w.heap.size w).alloc (Nat.le_refl _) _
  have GL := Lib.hid (fun h : 0 < l.length => Nat.lt_of_lt_of_le (r.lt h) b0.size)
  have r0 := r.keep (w' := W0) fun h => b0.block g (r.lt h)
  have C := Lib.hid (fmS m W0 cap g l r0 hn)
  have R := Lib.hid r0
  have X0 := Lib.hid (show Bx W0 w.heap.size zz from by rw [hW0]; exact Bx.zero w)
  have sz0 : W0.heap.size = w.heap.size + 1 := by rw [hW0]; simp
  have CP := Lib.hid (fun w1 (h : Row w1 (some ⟨g, 0, none⟩) cap g l) => seven.cpS w1 g cap l h hn)
  have B0 := Lib.hid b0
  clear r r0 b0
  obtain ⟨n, hnz⟩ : ∃ n, n = l.length := ⟨_, rfl⟩
  rw [← hnz] at hn C CP ⊢
  have HNZ := Lib.hid hnz
  clear hnz
  go_enter Try.func64, Try.ntmps64
  go_wp2_with fail
  rw [← hW0]
  clear hW0
  refine C.out.mono ?_
  rintro e w1 ⟨rfl, b1⟩
  have s1 := b1.size
  have BN := Lib.hid (B0.out.trans (b1.mono B0.out.size))
  have R1 := Lib.hid (R.out.keep (w' := w1) fun h => b1.block g (GL.out h))
  have X1 := Lib.hid (X0.out.keep (b1.block w.heap.size (by omega)))
  obtain ⟨rb, hrb⟩ : ∃ rb, rb = w.heap.size := ⟨_, rfl⟩
  rw [← hrb] at X1
  try rw [← hrb]
  have HRB := Lib.hid (show w.heap.size ≤ rb from by omega)
  have rb1 : rb < w1.heap.size := by omega
  clear b1 R C X0 B0 hrb s1 sz0
  cases hv : pyOk l m with
  | false =>
    have NOK := Lib.hid (show pyOk l m = false from hv)
    have NOL := Lib.hid (HP.out.trans (py_no hv).1)
    have NON := Lib.hid (HM.out.trans (py_no hv).2)
    clear hv
    have f0 := X1.out.free 0
    have f1 := X1.out.free 1
    have f2 := X1.out.free 2
    have f3 := X1.out.free 3
    have f4 := X1.out.free 4
    have f5 := X1.out.free 5
    have f6 := X1.out.free 6
    obtain ⟨y0, y1, y2, y3, y4, y5, y6⟩ := X1.out.at_
    simp only [Nat.zero_add] at y0 y1 y2 y3 y4 y5 y6
    have S := st7_at X1.out.at_ zz
    have SB := Lib.hid (st7_below BN.out HRB.out zz)
    go_wp2
    change bodyPost _ _ _ _ _ (st7 w1 rb zz)
    generalize st7 w1 rb zz = W9 at S SB ⊢
    obtain ⟨c0, c1, c2, c3, c4, c5, c6⟩ := S
    simp only [zz, Nat.zero_add] at c0 c1 c2 c3 c4 c5 c6
    exact bodyPost_ret (v := .tuple #[.slice none 0 0, .agg #[.int .i64 0, .int .i64 0, .int .i64 0, .int .i64 0, .int .i64 0, .int .i64 0, .int .i64 0], .int .i64 0]) (by simp [results, Try.results64, go_sem, c0, c1, c2, c3, c4, c5, c6]) rfl (out3_no NOK.out NOL.out NON.out SB.out)
  | true =>
    have YP := Lib.hid (HP.out.trans (py_yes hv).1)
    have YM := Lib.hid (HM.out.trans (py_yes hv).2)
    rw [← HNZ.out] at YP YM
    have hb : pl.PV l ∧ 0 ≤ m ∧ m ≤ 1000000000000 := by
      unfold pyOk at hv
      rw [Bool.and_eq_true, pl.inR_iff] at hv
      exact ⟨pl.pv_iff.1 hv.1, hv.2⟩
    obtain ⟨hpv, m0, m1⟩ := hb
    have PVH := Lib.hid hpv
    clear hv hpv
    have hn24 : n ≤ 24 := by rw [HNZ.out]; exact PVH.out.1
    have SBD := Lib.hid (fun k hk => pst_b (l := l) (fun i hi => PVH.out.pin (i := i) hi) m0 k hk)
    go_wp2_with fail
    refine (CP.out w1 R1.out).mono ?_
    rintro e w2 ⟨v, rfl, c2, g2, hv2, r2, l2, k2, b2⟩
    rw [← HNZ.out] at hv2
    subst hv2
    have s2 := b2.size
    obtain ⟨W3, hW3⟩ : ∃ W3, W3 = w2.alloc (.cells #[.int .i64 0, .int .i64 0, .int .i64 0, .int .i64 0, .int .i64 0, .int .i64 0, .int .i64 0] 37) := ⟨_, rfl⟩
    have b3 : Below w2.heap.size w2 W3 := by rw [hW3]; exact (Below.refl _ w2).alloc (Nat.le_refl _) _
    have sz3 : W3.heap.size = w2.heap.size + 1 := by rw [hW3]; simp
    have B2 := Lib.hid ((BN.out.trans (b2.mono BN.out.size)).trans (b3.mono (Nat.le_trans BN.out.size s2)))
    have R2 := Lib.hid (r2.keep (w' := W3) fun h => b3.block g2 k2)
    have G2 := Lib.hid (show w.heap.size ≤ g2 from Nat.le_trans BN.out.size l2)
    have X2 := Lib.hid ((X1.out.keep (b2.block rb rb1)).keep (b3.block rb (by omega)))
    have Y2 := Lib.hid (show Bx W3 w2.heap.size zz from by rw [hW3]; exact Bx.zero w2)
    go_wp2_with fail
    rw [← hW3]
    obtain ⟨sb, hsb⟩ : ∃ sb, sb = w2.heap.size := ⟨_, rfl⟩
    rw [← hsb] at Y2
    try rw [← hsb]
    have nrs : rb ≠ sb := by omega
    have ngs : g2 ≠ sb := by omega
    have nsg : sb ≠ g2 := by omega
    have ngr : g2 ≠ rb := by omega
    have wsb : w.heap.size ≤ sb := by have := BN.out.size; omega
    have sz4 : sb < W3.heap.size := by omega
    have sz5 : g2 < W3.heap.size := by omega
    clear hW3 hsb r2 b2 b3 l2 s2 X1 R1 sz3 k2
    go_loopw [1, 9] (fun nv iv wr => Below w.heap.size w wr ∧ g2 < wr.heap.size ∧ sb < wr.heap.size ∧ Bx wr rb zz ∧ ∃ k : Nat, k ≤ n ∧ iv = .int .i64 k ∧ nv = .int .i64 (pl.fs pl.pay (m, 0, 0, 0) l k).1 ∧ Bx wr sb (0, 0, 0, 0, (pl.fs pl.pay (m, 0, 0, 0) l k).2.2.2, (pl.fs pl.pay (m, 0, 0, 0) l k).2.2.1, (pl.fs pl.pay (m, 0, 0, 0) l k).2.1) ∧ Row wr (some ⟨g2, 0, none⟩) c2 g2 (pl.fw pl.pay (m, 0, 0, 0) l k)) (fun _ iv _ => n - (intOf iv).toNat)
    case atStart => exact ⟨B2.out, sz5, sz4, X2.out, 0, by omega, rfl, by rw [pl.fs_zero], by rw [pl.fs_zero]; exact Y2.out, by rw [pl.fw_zero]; exact R2.out⟩
    case round =>
      obtain ⟨hB, hg2, hsb, hX, k, hk, rfl, rfl, hY, hR⟩ := hrel
      have BB := Lib.hid hB
      have RR := Lib.hid hR
      have XX := Lib.hid hX
      have YY := Lib.hid hY
      have m2 := R2.out.room
      rw [← HNZ.out] at m2
      have sB := SBD.out k (by rw [← HNZ.out]; exact hk)
      clear hB X2 Y2 B2 sz4 sz5
      by_cases hlt : k < n
      · have HLT := Lib.hid (show k < l.length from by rw [← HNZ.out]; exact hlt)
        have FS := Lib.hid (pl.fs_succ pl.pay (m, 0, 0, 0) HLT.out)
        have FW := Lib.hid (pl.fw_succ pl.pay (m, 0, 0, 0) HLT.out)
        have FG := Lib.hid (pl.fw_get pl.pay (m, 0, 0, 0) HLT.out)
        have FL := Lib.hid (show k < (pl.fw pl.pay (m, 0, 0, 0) l k).length from by rw [pl.fw_len]; exact HLT.out)
        have q1 := hR.cells k FL.out
        have fz := hR.free (Nat.lt_of_le_of_lt (Nat.zero_le _) FL.out)
        rw [FG.out] at q1
        obtain ⟨x, hx⟩ : ∃ x, x = l.getD k zz := ⟨_, rfl⟩
        have PX := PVH.out.pin HLT.out
        rw [← hx] at q1 FS FW FG PX
        obtain ⟨S, hS⟩ : ∃ S, S = pl.fs pl.pay (m, 0, 0, 0) l k := ⟨_, rfl⟩
        rw [← hS] at FS FW sB hY YY ⊢
        obtain ⟨L, hL⟩ : ∃ L, L = pl.fw pl.pay (m, 0, 0, 0) l k := ⟨_, rfl⟩
        rw [← hL] at FW FG RR FL
        obtain ⟨S1, SF, SI, SP⟩ := S
        obtain ⟨a1, a2, a3, a4, a5⟩ := sB
        dsimp only at a1 a2 a3 a4 a5 hY YY
        obtain ⟨⟨f1, f2, f3⟩, ⟨i1, i2, i3⟩, p1, p2, p3⟩ := pay_b PX a1
        obtain ⟨f, hf⟩ : ∃ f, f = pl.pF S1 x := ⟨_, rfl⟩
        obtain ⟨q, hq⟩ : ∃ q, q = pl.pI S1 x := ⟨_, rfl⟩
        obtain ⟨y, hy⟩ : ∃ y, y = pl.pP S1 x := ⟨_, rfl⟩
        have PY := Lib.hid (show pl.pay (S1, SF, SI, SP) x = ((x.1, x.2.1, x.2.2.1, x.2.2.2.1, x.2.2.2.2.1 + y, x.2.2.2.2.2.1 + q, x.2.2.2.2.2.2 + f), (S1 - f - q - y, SF + f, SI + q, SP + y)) from by rw [hf, hq, hy]; rfl)
        have E1 : (if x.2.2.2.1 - x.2.2.2.2.2.2 < S1 then x.2.2.2.1 - x.2.2.2.2.2.2 else S1) = f := by rw [hf]; unfold pl.pF; split <;> omega
        have E2 : (if x.2.2.1 - x.2.2.2.2.2.1 < S1 - f then x.2.2.1 - x.2.2.2.2.2.1 else S1 - f) = q := by rw [hq]; unfold pl.pI; rw [← hf]; split <;> omega
        have E3 : (if x.2.1 - x.2.2.2.2.1 < S1 - f - q then x.2.1 - x.2.2.2.2.1 else S1 - f - q) = y := by rw [hy]; unfold pl.pP; rw [← hf, ← hq]; split <;> omega
        rw [← hf] at f1 f2 f3 i2 p2
        rw [← hq] at i1 i2 i3 p2
        rw [← hy] at p1 p2 p3
        obtain ⟨e0, e1, P0, P1, I0, I1, F0, F1, A0, A1, C0, C1, D0, D1⟩ := PX
        clear hx hS hL hR hf hq hy hX
        have z1 : (k : Int) < (n : Int) := by omega
        have u1 : decide (k < n) = true := by simp; omega
        obtain ⟨x1, x2, x3, x4, x5, x6, x7⟩ := q1
        have g4 := hY.free 4
        have g5 := hY.free 5
        have g6 := hY.free 6
        obtain ⟨v0, v1, v2, v3, v4, v5, v6⟩ := hY.at_
        simp only [Nat.zero_add] at v0 v1 v2 v3 v4 v5 v6
        clear v0 v1 v2 v3 hY
        have RBL : rb < wr.heap.size := XX.out.at_.lt
        obtain ⟨WY, hWY⟩ : ∃ WY, WY = st3 (seven.wN wr g2 (k * 7) (x.1, x.2.1, x.2.2.1, x.2.2.2.1, x.2.2.2.2.1 + y, x.2.2.2.2.2.1 + q, x.2.2.2.2.2.2 + f)) sb (SP + y) (SI + q) (SF + f) := ⟨_, rfl⟩
        have szY : WY.heap.size = wr.heap.size := by rw [hWY, st3_size, wN_size]
        have FIN := Lib.hid (show Below w.heap.size w (WY.alloc (.cells #[.int .i64 x.1, .int .i64 x.2.1, .int .i64 x.2.2.1, .int .i64 x.2.2.2.1, .int .i64 (x.2.2.2.2.1 + y), .int .i64 (x.2.2.2.2.2.1 + q), .int .i64 (x.2.2.2.2.2.2 + f)] 37)) ∧ g2 < (WY.alloc (.cells #[.int .i64 x.1, .int .i64 x.2.1, .int .i64 x.2.2.1, .int .i64 x.2.2.2.1, .int .i64 (x.2.2.2.2.1 + y), .int .i64 (x.2.2.2.2.2.1 + q), .int .i64 (x.2.2.2.2.2.2 + f)] 37)).heap.size ∧ sb < (WY.alloc (.cells #[.int .i64 x.1, .int .i64 x.2.1, .int .i64 x.2.2.1, .int .i64 x.2.2.2.1, .int .i64 (x.2.2.2.2.1 + y), .int .i64 (x.2.2.2.2.2.1 + q), .int .i64 (x.2.2.2.2.2.2 + f)] 37)).heap.size ∧ Bx (WY.alloc (.cells #[.int .i64 x.1, .int .i64 x.2.1, .int .i64 x.2.2.1, .int .i64 x.2.2.2.1, .int .i64 (x.2.2.2.2.1 + y), .int .i64 (x.2.2.2.2.2.1 + q), .int .i64 (x.2.2.2.2.2.2 + f)] 37)) rb zz ∧ Bx (WY.alloc (.cells #[.int .i64 x.1, .int .i64 x.2.1, .int .i64 x.2.2.1, .int .i64 x.2.2.2.1, .int .i64 (x.2.2.2.2.1 + y), .int .i64 (x.2.2.2.2.2.1 + q), .int .i64 (x.2.2.2.2.2.2 + f)] 37)) sb (0, 0, 0, 0, SP + y, SI + q, SF + f) ∧ Row (WY.alloc (.cells #[.int .i64 x.1, .int .i64 x.2.1, .int .i64 x.2.2.1, .int .i64 x.2.2.2.1, .int .i64 (x.2.2.2.2.1 + y), .int .i64 (x.2.2.2.2.2.1 + q), .int .i64 (x.2.2.2.2.2.2 + f)] 37)) (some ⟨g2, 0, none⟩) c2 g2 (L.set k (x.1, x.2.1, x.2.2.1, x.2.2.2.1, x.2.2.2.2.1 + y, x.2.2.2.2.2.1 + q, x.2.2.2.2.2.2 + f)) from by
          have hb : Below w.heap.size w WY := by rw [hWY]; exact st3_below (seven.below_wN BB.out G2.out _ _) wsb _ _ _
          refine ⟨hb.alloc hb.size _, by simp; omega, by simp; omega, (XX.out.keep (w' := WY) ?_).keep (Below.heap_alloc _ _ _ (by omega)), ?_, ?_⟩
          · rw [hWY, st3_other _ _ _ _ _ _ nrs, wN_other _ _ _ _ _ (Ne.symm ngr)]
          · refine Bx.keep ?_ (Below.heap_alloc _ _ _ (by omega))
            rw [hWY]
            exact st3_bx (YY.out.keep (wN_other _ _ _ _ _ nsg)) _ _ _
          · refine ((rowPut RR.out FL.out (x.1, x.2.1, x.2.2.1, x.2.2.2.1, x.2.2.2.2.1 + y, x.2.2.2.2.2.1 + q, x.2.2.2.2.2.2 + f)).keep (w' := WY) fun _ => ?_).keep fun _ => Below.heap_alloc _ _ _ (by omega)
            rw [hWY, st3_other _ _ _ _ _ _ ngs])
        go_wp2
        go_roundw
        case rel =>
          have FI := FIN.out
          rw [hWY] at FI
          unfold st3 seven.wN at FI
          dsimp only at FI
          obtain ⟨h1, h2, h3, h4, h5, h6⟩ := FI
          exact ⟨h1, h2, h3, h4, k + 1, by omega, by go_num, by rw [FS.out, PY.out], by rw [FS.out, PY.out]; exact h5, by rw [FW.out, PY.out]; exact h6⟩
        case measure => simp [intOf]; omega
      · have u1 : decide (k < n) = false := by simp; omega
        obtain rfl : k = n := by omega
        clear hR
        obtain ⟨S, hS⟩ : ∃ S, S = pl.fs pl.pay (m, 0, 0, 0) l k := ⟨_, rfl⟩
        have YM' := Lib.hid (show M = S from by rw [hS]; exact YM.out)
        rw [← hS] at sB hY YY ⊢
        obtain ⟨S1, SF, SI, SP⟩ := S
        dsimp only at hY YY
        have f0 := hX.free 0
        have f1 := hX.free 1
        have f2 := hX.free 2
        have f3 := hX.free 3
        have f4 := hX.free 4
        have f5 := hX.free 5
        have f6 := hX.free 6
        obtain ⟨y0, y1, y2, y3, y4, y5, y6⟩ := hX.at_
        simp only [Nat.zero_add] at y0 y1 y2 y3 y4 y5 y6
        obtain ⟨v0, v1, v2, v3, v4, v5, v6⟩ := hY.at_
        simp only [Nat.zero_add] at v0 v1 v2 v3 v4 v5 v6
        have mixed : Try.prog.follows .mixedOrders = true := Try.checked.mixed
        have S9 : At (st7 wr rb (0, 0, 0, 0, SP, SI, SF)).drew rb 0 (0, 0, 0, 0, SP, SI, SF) := (st7_at XX.out.at_ _).keep (dh0 _ _)
        have B9 := Lib.hid (st7_below BB.out HRB.out (0, 0, 0, 0, SP, SI, SF)).drew
        have R9 := Lib.hid ((RR.out.keep (w' := st7 wr rb (0, 0, 0, 0, SP, SI, SF)) fun _ => st7_other _ _ _ _ ngr).keep (w' := (st7 wr rb (0, 0, 0, 0, SP, SI, SF)).drew) fun _ => dh0 _ _)
        have L9 := Lib.hid (show g2 < (st7 wr rb (0, 0, 0, 0, SP, SI, SF)).drew.heap.size from by rw [dhs0, st7_size]; exact hg2)
        clear hX hY hS
        go_wp2_with fail
        go_region
        go_wp2
        change bodyPost _ _ _ _ _ (st7 wr rb (0, 0, 0, 0, SP, SI, SF)).drew
        generalize (st7 wr rb (0, 0, 0, 0, SP, SI, SF)).drew = W9 at S9 B9 R9 L9 ⊢
        obtain ⟨c0, c1, c2', c3, c4, c5, c6⟩ := S9
        simp only [Nat.zero_add] at c0 c1 c2' c3 c4 c5 c6
        refine bodyPost_ret (v := .tuple #[.slice (some ⟨g2, 0, none⟩) k c2, .agg #[.int .i64 0, .int .i64 0, .int .i64 0, .int .i64 0, .int .i64 SP, .int .i64 SI, .int .i64 SF], .int .i64 S1]) (by simp [results, Try.results64, go_sem, c0, c1, c2', c3, c4, c5, c6]) rfl ?_
        rw [YM'.out]
        exact out3_yes (t := (S1, SF, SI, SP)) (by rw [YP.out, pl.fw_len, HNZ.out]) (by rw [YP.out]; exact R9.out) G2.out L9.out B9.out
end Go.Proofs.Ytmaejlfjdkkpdaa.base
