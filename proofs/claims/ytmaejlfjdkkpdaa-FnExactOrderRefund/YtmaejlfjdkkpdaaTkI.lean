/-
  Plain helpers of this seat's proofs: the landed method that takes from an order. Conditions: none.
-/
import Derived.Test.YtmaejlfjdkkpdaaBi
import Derived.Test.YtmaejlfjdkkpdaaPy
import Derived.Test.YtmaejlfjdkkpdaaRw7
import Derived.Test.YtmaejlfjdkkpdaaOut
import Derived.Test.YtmaejlfjdkkpdaaPkI
import Derived.Test.YtmaejlfjdkkpdaaSt
import Derived.Test.YtmaejlfjdkkpdaaDw
import Derived.Test.YtmaejlfjdkkpdaaBwp
import Derived.Test.YtmaejlfjdkkpdaaDm
import Derived.RangeFuncNested
import Derived.RangeFuncBound
import Derived.RangeFuncCalls
import Derived.RangeFuncLeaves
import Derived.Shelf.Abstract
import Derived.Shelf.AbstractIn
import Derived.Shelf.RegionOpen
import Derived.OwnWalkIn
import Derived.TacticsInMore
import Derived.LoopNIn
import Derived.LoopIn
import Derived.Stop.RegionWithIn
import Derived.BigRegionIn
namespace Go.Proofs.Ytmaejlfjdkkpdaa.base
open Go.ChangeShapes Go.WideShapes Go.ChangeAt Go.RowKit
open seven (F7 zz Row At)
open pl (inR prOk pok)
open gen
open Go.Shelf
attribute [local go_sem] Oper.semAt_some
set_option maxRecDepth 100000 in
set_option maxHeartbeats 8000000 in
theorem ctI (m : Int) (w : World) (cap g : Nat) (l : List F7) (r : Row w (some ⟨g, 0, none⟩) cap g l) (hn : l.length ≤ 1048577) : Calls Try.prog 107 #[.slice (some ⟨g, 0, none⟩) l.length cap, .int .i64 m] w (Out w (pyOk l m) (bkL pl.cut l m) (bkN pl.cut l m)) := by
  obtain ⟨P, hP⟩ : ∃ P, P = bkL pl.cut l m := ⟨_, rfl⟩
  obtain ⟨M, hM⟩ : ∃ M, M = bkN pl.cut l m := ⟨_, rfl⟩
  rw [← hP, ← hM]
  have HP := Lib.hid hP
  have HM := Lib.hid hM
  clear hP hM
  have GL := Lib.hid (fun h : 0 < l.length => r.lt h)
  have C := Lib.hid (pkI w (some ⟨g, 0, none⟩) cap g l r hn)
  have R := Lib.hid r
  have CU := Lib.hid (fun w1 => usI m w1)
  have CP := Lib.hid (fun w1 (h : Row w1 (some ⟨g, 0, none⟩) cap g l) => seven.cpI w1 g cap l h hn)
  clear r
  obtain ⟨n, hnz⟩ : ∃ n, n = l.length := ⟨_, rfl⟩
  rw [← hnz] at hn C CP ⊢
  have HNZ := Lib.hid hnz
  clear hnz
  refine (callsIn_wide (n := 9)).1 ?_
  have hro : Fence.wide.round = none := rfl
  have hw1 : Fence.wide.fn 92 := trivial
  have hw2 : Fence.wide.fn 90 := trivial
  have hw3 : Fence.wide.fn 100 := trivial
  have hw4 : Fence.wide.fn 119 := trivial
  refine callsIn_of_wp_marks Try.func107 rfl trivial ?_ hro
  simp only [Try.ntmps107, List.size_toArray, List.length_cons, List.length_nil, Nat.reduceAdd, Nat.reduceSub, Array.replicate_succ, Array.replicate_zero, List.push_toArray, List.append_toArray, List.nil_append, List.cons_append]
  gi_wp2_with fail
  refine (callsIn_wide.2 C.out).mono ?_
  rintro e w1 ⟨rfl, b1⟩
  have BN := Lib.hid b1
  have R1 := Lib.hid (R.out.keep (w' := w1) fun h => b1.block g (GL.out h))
  clear b1 R C
  cases hv : pl.pv l with
  | false =>
    have NOK := Lib.hid (show pyOk l m = false from (by unfold pyOk; rw [hv]; rfl))
    have NOL := Lib.hid (HP.out.trans (bk_no (by unfold pyOk; rw [hv]; rfl)).1)
    have NON := Lib.hid (HM.out.trans (bk_no (by unfold pyOk; rw [hv]; rfl)).2)
    clear hv
    gi_wp2
    refine ⟨.tuple #[.slice none 0 0, .int .i64 0], ?_, out_no NOK.out NOL.out NON.out BN.out⟩
    simp [results, Try.f107, go_sem]
  | true =>
    have HV := Lib.hid hv
    have PVH := Lib.hid (pl.pv_iff.1 hv)
    clear hv
    cases hd : inR m 0 1000000000000 with
    | false =>
      rw [hd] at CU
      have NOK := Lib.hid (show pyOk l m = false from (by unfold pyOk; rw [HV.out, hd]; rfl))
      have NOL := Lib.hid (HP.out.trans (bk_no (by unfold pyOk; rw [HV.out, hd]; rfl)).1)
      have NON := Lib.hid (HM.out.trans (bk_no (by unfold pyOk; rw [HV.out, hd]; rfl)).2)
      clear hd
      gi_wp2_with fail
      refine (callsIn_wide.2 (CU.out _)).mono ?_
      rintro e w' ⟨rfl, rfl⟩
      gi_wp2
      refine ⟨.tuple #[.slice none 0 0, .int .i64 0], ?_, out_no NOK.out NOL.out NON.out BN.out⟩
      simp [results, Try.f107, go_sem]
    | true =>
      rw [hd] at CU
      have YP := Lib.hid (HP.out.trans (bk_yes (by unfold pyOk; rw [HV.out, hd]; rfl)).1)
      have YM := Lib.hid (HM.out.trans (bk_yes (by unfold pyOk; rw [HV.out, hd]; rfl)).2)
      obtain ⟨m0, m1⟩ := pl.inR_iff.1 hd
      clear hd
      have hn24 : n ≤ 24 := by rw [HNZ.out]; exact PVH.out.1
      have SB := Lib.hid (fun k hk => bs_b (f := pl.cut) (fun x m hx hm => cut_b hx hm) (l := l) (fun i hi => PVH.out.pin (i := i) hi) m0 (k := k) hk)
      gi_wp2_with fail
      refine (callsIn_wide.2 (CU.out _)).mono ?_
      rintro e w' ⟨rfl, rfl⟩
      gi_wp2_with fail
      refine (callsIn_wide.2 (CP.out w1 R1.out)).mono ?_
      rintro e w2 ⟨v, rfl, c2, g2, hv2, r2, l2, k2, b2⟩
      rw [← HNZ.out] at hv2
      subst hv2
      have R2 := Lib.hid r2
      have B2 := Lib.hid (BN.out.trans (b2.mono BN.out.size))
      have G2 := Lib.hid (Nat.le_trans BN.out.size l2)
      clear r2 b2
      gi_wp2_with fail
      refine (callsIn_wide.2 (bwC _ _ _ _)).mono ?_
      rintro e w3 ⟨rfl, rfl⟩
      gi_wp2_with fail
      obtain ⟨W0, hW0⟩ : ∃ W0, W0 = (w2.alloc (.cells #[.int .i64 m] 2)).alloc (.cells #[.slice (some ⟨g2, 0, none⟩) n c2] 60) := ⟨_, rfl⟩
      have sz : W0.heap.size = w2.heap.size + 2 := by rw [hW0]; simp
      have al1 := Below.heap_alloc w2 (.cells #[.int .i64 m] 2)
      have al2 := Below.heap_alloc (w2.alloc (.cells #[.int .i64 m] 2)) (.cells #[.slice (some ⟨g2, 0, none⟩) n c2] 60)
      have R0 := Lib.hid (show Row W0 (some ⟨g2, 0, none⟩) c2 g2 (pl.bw pl.cut m l (n - 0)) from by
        rw [Nat.sub_zero, HNZ.out, pl.bw_all]
        exact R2.out.keep fun _ => by rw [hW0]; exact (al2 g2 (by simp; omega)).trans (al1 g2 k2))
      have LB := Lib.hid (show W0.cell? ⟨w2.heap.size, 0, none⟩ = some (.int .i64 (pl.bs pl.cut m l (n - 0))) from by
        rw [Nat.sub_zero, HNZ.out, pl.bs_all]
        rw [hW0, World.cell?_of_block (w := w2.alloc (.cells #[.int .i64 m] 2)) (a := ⟨w2.heap.size, 0, none⟩) (al2 _ (by simp))]
        exact box_cell (box_refl w2 _) 0 rfl)
      have LF := Lib.hid (show W0.frozen? ⟨w2.heap.size, 0, none⟩ = false from by
        rw [hW0, World.frozen?_of_block (w := w2.alloc (.cells #[.int .i64 m] 2)) (a := ⟨w2.heap.size, 0, none⟩) (al2 _ (by simp))]
        exact World.frozen?_alloc_new w2 _ _ 0)
      have HB := Lib.hid (show W0.cell? ⟨w2.heap.size + 1, 0, none⟩ = some (.slice (some ⟨g2, 0, none⟩) n c2) from by
        have := box_cell (box_refl (w2.alloc (.cells #[.int .i64 m] 2)) (.cells #[.slice (some ⟨g2, 0, none⟩) n c2] 60)) 0 rfl
        rw [World.size_alloc] at this
        rw [hW0]; exact this)
      have BW := Lib.hid (show Below w.heap.size w W0 from by rw [hW0]; exact (B2.out.alloc B2.out.size _).alloc (by simp; have := B2.out.size; omega) _)
      have hws : w.heap.size ≤ w2.heap.size := B2.out.size
      rw [← hW0]
      obtain ⟨Bl, hBl⟩ : ∃ Bl, Bl = w2.heap.size := ⟨_, rfl⟩
      obtain ⟨Bs, hBs⟩ : ∃ Bs, Bs = w2.heap.size + 1 := ⟨_, rfl⟩
      rw [← hBl] at LB LF
      rw [← hBs] at HB
      try rw [← hBs]
      try rw [← hBl]
      have wsb : w.heap.size ≤ Bl := by omega
      have nsB : Bs ≠ Bl := by omega
      have ngs : g2 ≠ Bl := by omega
      have ngB : Bs ≠ g2 := by omega
      have hg2W : g2 < W0.heap.size := by omega
      have hlW : Bl < W0.heap.size := by omega
      have hwW : w.heap.size ≤ W0.heap.size := by omega
      have LP := Lib.hid (show P.length = n from by rw [YP.out, pl.bw_len, HNZ.out])
      clear hW0 hBl hBs al1 al2 k2 l2 B2 R2 sz hws
      refine rf.rangeK hro (by omega) (gf := 126) (lb := #[.pointer (some ⟨Bs, 0, none⟩)]) rfl trivial (enters_of Try.func126 (by kernel_rfl) rfl)
        (bkIt 8 (by omega) g2 Bs n c2 hn24) (fun _ => rfl)
        (fun pre W => Row W (some ⟨g2, 0, none⟩) c2 g2 (pl.bw pl.cut m l (n - pre.length)) ∧ W.cell? ⟨Bl, 0, none⟩ = some (.int .i64 (pl.bs pl.cut m l (n - pre.length))) ∧ W.frozen? ⟨Bl, 0, none⟩ = false ∧ W.cell? ⟨Bs, 0, none⟩ = some (.slice (some ⟨g2, 0, none⟩) n c2) ∧ g2 < W.heap.size ∧ Below w.heap.size w W)
        (fun c pre W => c = .exit 0 ∧ Row W (some ⟨g2, 0, none⟩) c2 g2 (pl.bw pl.cut m l 0) ∧ W.cell? ⟨Bl, 0, none⟩ = some (.int .i64 (pl.bs pl.cut m l 0)) ∧ g2 < W.heap.size ∧ Below w.heap.size w W)
        (fun j a' W => a' = { tmps := #[.slice (some ⟨g, 0, none⟩) n cap, .int .i64 m, undef, undef, .slice none 0 0, .int .i64 0, .slice (some ⟨g2, 0, none⟩) n c2, .pointer (some ⟨Bl, 0, none⟩), .pointer (some ⟨g2, j * 7, none⟩), undef, .slice (some ⟨g, 0, none⟩) n cap, .bool true, .bool false, .bool false, .int .i64 m, .bool true, .bool false, .bool false, .slice (some ⟨g, 0, none⟩) n cap, .slice (some ⟨g2, 0, none⟩) n c2, .int .i64 m, .slice (some ⟨g2, 0, none⟩) n c2, .func (.func 126) #[] #[.pointer (some ⟨Bs, 0, none⟩)], .pointer (some ⟨g2, j * 7, none⟩), undef, undef, undef, undef, undef, undef, undef, undef, undef, undef, undef, undef, undef, undef, undef, undef, undef, undef, undef, undef, undef, undef, undef, undef, undef, undef], defers := [] })
        (fun s A B row hs hg hr => ⟨row_own hs.1 hg (fun r e => (hr r e).2), cell_kept hs.2.1 hg (fun r e => (hr r e).2), frz_own hs.2.1 hs.2.2.1 hg (fun r e => (hr r e).2), cell_kept hs.2.2.2.1 hg (fun r e => (hr r e).2), Nat.lt_of_lt_of_le hs.2.2.2.2.1 hg.size, hs.2.2.2.2.2.grown hg hs.2.2.2.2.2.size (fun k e => (Nat.le_trans hwW (hr k e).1))⟩)
        (fun c s A B row hs hg hr => ⟨hs.1, row_own hs.2.1 hg (fun r e => (hr r e).2), cell_kept hs.2.2.1 hg (fun r e => (hr r e).2), Nat.lt_of_lt_of_le hs.2.2.2.1 hg.size, hs.2.2.2.2.grown hg hs.2.2.2.2.size (fun k e => (Nat.le_trans hwW (hr k e).1))⟩)
        (fun x a' s A B row hs _ _ => hs)
        (fun pre W h => ⟨h.2.2.2.1, fun i hi => ⟨_, h.1.cells i (by rw [pl.bw_len, ← HNZ.out]; omega)⟩⟩)
        ⟨R0.out, LB.out, LF.out, HB.out, hg2W, BW.out⟩ ?assign ?body ?done ?stop
      case assign =>
        rintro lp pre x W K hI hV hK
        dsimp only [encP]
        gi_wp2
        exact hK _ _ (KeepsFrom.refl _ _) (rf.Kept.refl _ _) hI rfl
      case body =>
        rintro lp pre j a' W ⟨h1, h2, h3, h4, h5, h7⟩ hV rfl
        replace hV : j + 1 + pre.length = n := hV
        have ek : n - pre.length = j + 1 := by omega
        have ek2 : n - (pre ++ [j]).length = j := by simp; omega
        rw [ek] at h1 h2
        have hk : j + 1 ≤ n := by omega
        have sB := SB.out (j + 1) (by rw [← HNZ.out]; exact hk)
        obtain ⟨s0, s1⟩ := sB
        have HLT := Lib.hid (show j < l.length from by rw [← HNZ.out]; exact hk)
        have FS := Lib.hid (pl.bs_succ pl.cut m HLT.out)
        have FW := Lib.hid (pl.bw_succ pl.cut m HLT.out)
        have FG := Lib.hid (pl.bw_get pl.cut m HLT.out)
        have FL := Lib.hid (show j < (pl.bw pl.cut m l (j + 1)).length from by rw [pl.bw_len]; exact HLT.out)
        have q1 := h1.cells j FL.out
        have fz := h1.free (Nat.lt_of_le_of_lt (Nat.zero_le _) FL.out)
        rw [FG.out] at q1
        obtain ⟨x, hx⟩ : ∃ x, x = l.getD j zz := ⟨_, rfl⟩
        have PX := PVH.out.pin HLT.out
        rw [← hx] at q1 FS FW FG PX
        have ST := Lib.hid (show pl.bs pl.cut m l (j + 1) = 0 → pl.bw pl.cut m l 0 = pl.bw pl.cut m l (j + 1) ∧ pl.bs pl.cut m l 0 = 0 from fun h => by
          have := bw_stop (f := pl.cut) (n := m) (l := l) (fun y hy => by obtain ⟨i, hi, rfl⟩ := getD_mem hy; exact cut_z (PVH.out.pin hi)) (j + 1) (j + 1) (by rw [← HNZ.out]; exact hk) (Nat.le_refl _) h
          rwa [Nat.sub_self] at this)
        obtain ⟨S, hS⟩ : ∃ S, S = pl.bs pl.cut m l (j + 1) := ⟨_, rfl⟩
        rw [← hS] at FS FW s0 s1 h2 ST
        obtain ⟨L, hL⟩ : ∃ L, L = pl.bw pl.cut m l (j + 1) := ⟨_, rfl⟩
        rw [← hL] at FW FG FL h1 ST
        have p0 := PX.p0; have p1 := PX.p1; have a0 := PX.q0; have a1 := PX.q1
        have H1 := Lib.hid h1
        have H7 := Lib.hid h7
        clear hx hS hL h1 h7 PX ek hV
        have mixed : Try.prog.follows .mixedOrders = true := Try.checked.mixed
        obtain ⟨x1, x2, x3, x4, x5, x6, x7⟩ := q1
        have f1 := fz (j * 7 + 1)
        have f4 := fz (j * 7 + 4)
        cases t1 : (S == 0) with
        | true =>
          have sz : S = 0 := by simpa using t1
          have FE := Lib.hid (show KeepsFrom W0.heap.size W W ∧ Row W (some ⟨g2, 0, none⟩) c2 g2 (pl.bw pl.cut m l 0) ∧ W.cell? ⟨Bl, 0, none⟩ = some (.int .i64 (pl.bs pl.cut m l 0)) ∧ g2 < W.heap.size ∧ Below w.heap.size w W from
            ⟨KeepsFrom.refl _ _, by rw [(ST.out sz).1]; exact H1.out, by rw [(ST.out sz).2, ← sz]; exact h2, h5, H7.out⟩)
          clear H1 H7 ST sz
          gi_wp2
          exact ⟨FE.out.1, rfl, FE.out.2⟩
        | false =>
          have FE := Lib.hid (show KeepsFrom W0.heap.size W (((W.setCell ⟨g2, j * 7 + 1, none⟩ (.int .i64 (x.2.1 - min S (x.2.1 - x.2.2.2.2.1)))).setCell ⟨Bl, 0, none⟩ (.int .i64 (S - min S (x.2.1 - x.2.2.2.2.1)))).drew) ∧ rf.Kept (W0.heap.size + 2) W (((W.setCell ⟨g2, j * 7 + 1, none⟩ (.int .i64 (x.2.1 - min S (x.2.1 - x.2.2.2.2.1)))).setCell ⟨Bl, 0, none⟩ (.int .i64 (S - min S (x.2.1 - x.2.2.2.2.1)))).drew) ∧ Row (((W.setCell ⟨g2, j * 7 + 1, none⟩ (.int .i64 (x.2.1 - min S (x.2.1 - x.2.2.2.2.1)))).setCell ⟨Bl, 0, none⟩ (.int .i64 (S - min S (x.2.1 - x.2.2.2.2.1)))).drew) (some ⟨g2, 0, none⟩) c2 g2 (pl.bw pl.cut m l (n - (pre ++ [j]).length)) ∧ (((W.setCell ⟨g2, j * 7 + 1, none⟩ (.int .i64 (x.2.1 - min S (x.2.1 - x.2.2.2.2.1)))).setCell ⟨Bl, 0, none⟩ (.int .i64 (S - min S (x.2.1 - x.2.2.2.2.1)))).drew).cell? ⟨Bl, 0, none⟩ = some (.int .i64 (pl.bs pl.cut m l (n - (pre ++ [j]).length))) ∧ (((W.setCell ⟨g2, j * 7 + 1, none⟩ (.int .i64 (x.2.1 - min S (x.2.1 - x.2.2.2.2.1)))).setCell ⟨Bl, 0, none⟩ (.int .i64 (S - min S (x.2.1 - x.2.2.2.2.1)))).drew).frozen? ⟨Bl, 0, none⟩ = false ∧ (((W.setCell ⟨g2, j * 7 + 1, none⟩ (.int .i64 (x.2.1 - min S (x.2.1 - x.2.2.2.2.1)))).setCell ⟨Bl, 0, none⟩ (.int .i64 (S - min S (x.2.1 - x.2.2.2.2.1)))).drew).cell? ⟨Bs, 0, none⟩ = some (.slice (some ⟨g2, 0, none⟩) n c2) ∧ g2 < (((W.setCell ⟨g2, j * 7 + 1, none⟩ (.int .i64 (x.2.1 - min S (x.2.1 - x.2.2.2.2.1)))).setCell ⟨Bl, 0, none⟩ (.int .i64 (S - min S (x.2.1 - x.2.2.2.2.1)))).drew).heap.size ∧ Below w.heap.size w (((W.setCell ⟨g2, j * 7 + 1, none⟩ (.int .i64 (x.2.1 - min S (x.2.1 - x.2.2.2.2.1)))).setCell ⟨Bl, 0, none⟩ (.int .i64 (S - min S (x.2.1 - x.2.2.2.2.1)))).drew) from by
            rw [ek2]
            have cb : ((W.setCell ⟨g2, j * 7 + 1, none⟩ (.int .i64 (x.2.1 - min S (x.2.1 - x.2.2.2.2.1))))).cell? ⟨Bl, 0, none⟩ = some (.int .i64 S) := ((World.cell?_setCell_other W ⟨g2, j * 7 + 1, none⟩ ⟨Bl, 0, none⟩ _ (fun q => by injection q with q1 q2; exact ngs (by omega))).trans h2)
            have cs : ((W.setCell ⟨g2, j * 7 + 1, none⟩ (.int .i64 (x.2.1 - min S (x.2.1 - x.2.2.2.2.1))))).cell? ⟨Bs, 0, none⟩ = some (.slice (some ⟨g2, 0, none⟩) n c2) := ((World.cell?_setCell_other W ⟨g2, j * 7 + 1, none⟩ ⟨Bs, 0, none⟩ _ (fun q => by injection q with q1 q2; exact ngB (by omega))).trans h4)
            have cf : ((W.setCell ⟨g2, j * 7 + 1, none⟩ (.int .i64 (x.2.1 - min S (x.2.1 - x.2.2.2.2.1))))).frozen? ⟨Bl, 0, none⟩ = false := ((World.frozen?_setCell W _ _ _).trans h3)
            have r1 := seven.rowSet1 H1.out FL.out FG.out (x.2.1 - min S (x.2.1 - x.2.2.2.2.1))
            refine ⟨(((KeepsOthers.setCell W _ _).trans (KeepsOthers.setCell _ _ _)).trans (KeepsOthers.drew _)).from _, ((rf.Kept.set (p := ⟨g2, j * 7 + 1, none⟩) _ (Nat.lt_of_lt_of_le hg2W (Nat.le_add_right _ _))).trans (rf.Kept.set (p := ⟨Bl, 0, none⟩) _ (Nat.lt_of_lt_of_le hlW (Nat.le_add_right _ _)))).trans (rf.Kept.drew _ _), ?_, ?_, (World.frozen?_setCell _ _ _ _).trans cf, (World.cell?_setCell_other _ ⟨Bl, 0, none⟩ ⟨Bs, 0, none⟩ _ (fun q => by injection q with q1 q2; exact nsB (by omega))).trans cs, by show g2 < (World.setCell _ _ _).heap.size; simp [World.setCell]; exact h5, ((H7.out.setCell (p := ⟨g2, j * 7 + 1, none⟩) G2.out _).setCell (p := ⟨Bl, 0, none⟩) wsb _).drew⟩
            · rw [FW.out]
              exact (r1.keep (w' := ((W.setCell ⟨g2, j * 7 + 1, none⟩ (.int .i64 (x.2.1 - min S (x.2.1 - x.2.2.2.2.1)))).setCell ⟨Bl, 0, none⟩ (.int .i64 (S - min S (x.2.1 - x.2.2.2.2.1)))).drew) fun _ => Below.heap_setCell _ ⟨Bl, 0, none⟩ _ _ ngs)
            · rw [FS.out]
              exact World.cell?_setCell_same' _ _ _ (by rw [cb]; rfl)
            )
          clear H1 H7 ST
          by_cases t2 : x.2.1 - x.2.2.2.2.1 < S
          · have E : min S (x.2.1 - x.2.2.2.2.1) = x.2.1 - x.2.2.2.2.1 := by omega
            rw [E] at FE
            clear E
            gi_wp2_with fail
            refine st.tailIn 10 mixed (by kernel_rfl) (by kernel_rfl) (fun ⟨_, _, h⟩ => h) ?_
            simp only [List.take_succ_cons, List.take_zero, List.drop_succ_cons, List.drop_zero]
            repeat still_step
            try refine wpStill_nil ?_
            go_wp2_with fail
            gi_wp2
            exact FE.out
          · have E : min S (x.2.1 - x.2.2.2.2.1) = S := by omega
            rw [E] at FE
            simp only [Int.sub_self] at FE
            clear E
            gi_wp2_with fail
            refine st.tailIn 10 mixed (by kernel_rfl) (by kernel_rfl) (fun ⟨_, _, h⟩ => h) ?_
            simp only [List.take_succ_cons, List.take_zero, List.drop_succ_cons, List.drop_zero]
            repeat still_step
            try refine wpStill_nil ?_
            go_wp2_with fail
            gi_wp2
            exact FE.out
      case done =>
        rintro xs W D hD hK hS ⟨h1, h2, h3, h4, h5, h7⟩
        have e0 : n - xs.length = 0 := by have : xs.length = n := hS; omega
        rw [e0] at h1 h2
        clear e0
        have e0 := Lib.hid (show P = pl.bw pl.cut m l 0 from YP.out)
        have e1 := Lib.hid (show M = pl.bs pl.cut m l 0 from YM.out)
        have H1 := Lib.hid h1
        have H7 := Lib.hid h7
        rw [← e1.out] at h2
        clear h1 h7
        gi_wp2_with fail
        gi_region
        all_goals
          gi_wp2
          refine ⟨by simp, .inl ⟨_, _, rfl, run_takeDeferred (w := W.drew) hK, ?_⟩⟩
          have bk := belowK_b (w := w) (Nat.le_refl _) W.drew D _ (.deferred none) (by omega) hK rfl rfl
          refine ⟨.tuple #[.slice (some ⟨g2, 0, none⟩) n c2, .int .i64 M], ?_, ?_⟩
          · simp [results, Try.f107, go_sem]
          · exact out_yes LP.out ((show Row W.drew (some ⟨g2, 0, none⟩) c2 g2 P from by rw [e0.out]; exact H1.out.keep fun _ => rfl).keep fun _ => World.putObj_heap_other (by omega)) G2.out (by simp; exact h5) (H7.out.drew.trans bk)
      case stop =>
        rintro c pre W D hD hK ⟨rfl, h1, h2, h5, h7⟩
        have e0 := Lib.hid (show P = pl.bw pl.cut m l 0 from YP.out)
        have e1 := Lib.hid (show M = pl.bs pl.cut m l 0 from YM.out)
        have H1 := Lib.hid h1
        have H7 := Lib.hid h7
        rw [← e1.out] at h2
        clear h1 h7
        gi_wp2_with fail
        gi_region
        all_goals
          gi_wp2
          refine ⟨by simp, .inl ⟨_, _, rfl, run_takeDeferred (w := W.drew) hK, ?_⟩⟩
          have bk := belowK_b (w := w) (Nat.le_refl _) W.drew D _ (.deferred none) (by omega) hK rfl rfl
          refine ⟨.tuple #[.slice (some ⟨g2, 0, none⟩) n c2, .int .i64 M], ?_, ?_⟩
          · simp [results, Try.f107, go_sem]
          · exact out_yes LP.out ((show Row W.drew (some ⟨g2, 0, none⟩) c2 g2 P from by rw [e0.out]; exact H1.out.keep fun _ => rfl).keep fun _ => World.putObj_heap_other (by omega)) G2.out (by simp; exact h5) (H7.out.drew.trans bk)
end Go.Proofs.Ytmaejlfjdkkpdaa.base

namespace Go.Proofs.Ytmaejlfjdkkpdaa.ob
open Go.ChangeShapes Go.WideShapes Go.ChangeAt Go.RowKit
open gen
open seven (F7 zz Row At)
open four (F4)
open pl (inR)
open pls (nth Pls OL)
open ord (Sc iok)
open base (frz_own)
open Go.Shelf
attribute [local go_sem] Oper.semAt_some
set_option maxRecDepth 100000 in
set_option maxHeartbeats 8000000 in
theorem dcI (m : Int) (w : World) (b : Nat) (s : Sc) (ai : Option Addr) (ni ci : Nat) (cp gp : Nat) (p : List (List F7)) (gs cs : Nat → Nat) (hb : OB w b s ai ni ci (some ⟨gp, 0, none⟩) p.length cp) (rp : Pls w (some ⟨gp, 0, none⟩) cp gp p gs cs) (hgp : gp < w.heap.size) (hne : b ≠ gp) (pv : ord.PVs p) (hn : p.length ≤ 8) (hm0 : 0 ≤ m) (hm1 : m ≤ 1000000000000) :
    Calls Try.prog 106 #[.pointer (some ⟨b, 0, none⟩), .int .i64 m, .func (.func 107) #[] #[]] w fun e w' => ∃ gs' cs', e = .returned (.int .i64 (dN pl.cut p m)) ∧ Pls w' (some ⟨gp, 0, none⟩) cp gp (dL pl.cut p m) gs' cs' ∧ (∀ i, i < p.length → w.heap.size ≤ gs' i) ∧ base.Turned gp w w' := by
  have R := Lib.hid rp
  have PV := Lib.hid pv
  have m1 := rp.room
  have bl := hb.lt
  have SB := Lib.hid (fun k (hk : k ≤ p.length) => dk_bs gd_cut hm0 hm1 pv (p.length - k) k (by omega))
  have OBh := Lib.hid hb
  unfold dN dL
  clear rp hb pv
  obtain ⟨n, hnz⟩ : ∃ n, n = p.length := ⟨_, rfl⟩
  rw [← hnz] at hn m1
  have HNZ := Lib.hid hnz
  clear hnz
  refine (callsIn_wide (n := 14)).1 ?_
  have hro : Fence.wide.round = none := rfl
  have hw1 : Fence.wide.fn 118 := trivial
  have hw2 : Fence.wide.fn 107 := trivial
  refine callsIn_of_wp_marks Try.func106 rfl trivial ?_ hro
  simp only [Try.ntmps106, List.size_toArray, List.length_cons, List.length_nil, Nat.reduceAdd, Nat.reduceSub, Array.replicate_succ, Array.replicate_zero, List.push_toArray, List.append_toArray, List.nil_append, List.cons_append]
  have y10 := (OBh.out.keep (w' := (((w.alloc (.cells #[.pointer (some ⟨b, 0, none⟩)] 105)).alloc (.cells #[.func (.func 107) #[] #[]] 92)).alloc (.cells #[.int .i64 m] 2))) (((Below.heap_alloc _ _ _ (by simp; omega)).trans (Below.heap_alloc _ _ _ (by simp; omega))).trans (Below.heap_alloc _ _ _ bl))).c10
  gi_wp2_with fail
  refine (callsIn_wide.2 (base.bwLC _ _ _ _)).mono ?_
  rintro e w3 ⟨rfl, rfl⟩
  gi_wp2_with fail
  obtain ⟨W0, hW0⟩ : ∃ W0, W0 = (((w.alloc (.cells #[.pointer (some ⟨b, 0, none⟩)] 105)).alloc (.cells #[.func (.func 107) #[] #[]] 92)).alloc (.cells #[.int .i64 m] 2)).alloc (.cells #[.slice (some ⟨gp, 0, none⟩) p.length cp] 29) := ⟨_, rfl⟩
  have sz : W0.heap.size = w.heap.size + 1 + 1 + 1 + 1 := by rw [hW0]; simp only [sz_al]
  have BL : Below w.heap.size w W0 := by rw [hW0]; exact bAl (bAl (bAl (bAl (Below.refl _ _) (Nat.le_refl _) _) (Nat.le_refl _) _) (Nat.le_refl _) _) (Nat.le_refl _) _
  have C0 : W0.cell? ⟨w.heap.size, 0, none⟩ = some (.pointer (some ⟨b, 0, none⟩)) := by
    have h := pls.cell_keep (w' := ((((w.alloc (.cells #[.pointer (some ⟨b, 0, none⟩)] 105)).alloc (.cells #[.func (.func 107) #[] #[]] 92)).alloc (.cells #[.int .i64 m] 2)).alloc (.cells #[.slice (some ⟨gp, 0, none⟩) p.length cp] 29))) (box_cell (box_refl w (.cells #[.pointer (some ⟨b, 0, none⟩)] 105)) 0 rfl) ((((Below.heap_alloc (((w.alloc (.cells #[.pointer (some ⟨b, 0, none⟩)] 105)).alloc (.cells #[.func (.func 107) #[] #[]] 92)).alloc (.cells #[.int .i64 m] 2)) _ _ (by simp only [sz_al]; omega)).trans (Below.heap_alloc ((w.alloc (.cells #[.pointer (some ⟨b, 0, none⟩)] 105)).alloc (.cells #[.func (.func 107) #[] #[]] 92)) _ _ (by simp only [sz_al]; omega))).trans (Below.heap_alloc (w.alloc (.cells #[.pointer (some ⟨b, 0, none⟩)] 105)) _ _ (by simp only [sz_al]; omega))))
    skip
    rw [hW0]; exact h
  have C1 : W0.cell? ⟨w.heap.size + 1, 0, none⟩ = some (.func (.func 107) #[] #[]) := by
    have h := pls.cell_keep (w' := ((((w.alloc (.cells #[.pointer (some ⟨b, 0, none⟩)] 105)).alloc (.cells #[.func (.func 107) #[] #[]] 92)).alloc (.cells #[.int .i64 m] 2)).alloc (.cells #[.slice (some ⟨gp, 0, none⟩) p.length cp] 29))) (box_cell (box_refl (w.alloc (.cells #[.pointer (some ⟨b, 0, none⟩)] 105)) (.cells #[.func (.func 107) #[] #[]] 92)) 0 rfl) (((Below.heap_alloc (((w.alloc (.cells #[.pointer (some ⟨b, 0, none⟩)] 105)).alloc (.cells #[.func (.func 107) #[] #[]] 92)).alloc (.cells #[.int .i64 m] 2)) _ _ (by simp only [sz_al]; omega)).trans (Below.heap_alloc ((w.alloc (.cells #[.pointer (some ⟨b, 0, none⟩)] 105)).alloc (.cells #[.func (.func 107) #[] #[]] 92)) _ _ (by simp only [sz_al]; omega))))
    simp only [sz_al] at h
    rw [hW0]; exact h
  have C2 : W0.cell? ⟨w.heap.size + 1 + 1, 0, none⟩ = some (.int .i64 m) := by
    have h := pls.cell_keep (w' := ((((w.alloc (.cells #[.pointer (some ⟨b, 0, none⟩)] 105)).alloc (.cells #[.func (.func 107) #[] #[]] 92)).alloc (.cells #[.int .i64 m] 2)).alloc (.cells #[.slice (some ⟨gp, 0, none⟩) p.length cp] 29))) (box_cell (box_refl ((w.alloc (.cells #[.pointer (some ⟨b, 0, none⟩)] 105)).alloc (.cells #[.func (.func 107) #[] #[]] 92)) (.cells #[.int .i64 m] 2)) 0 rfl) ((Below.heap_alloc (((w.alloc (.cells #[.pointer (some ⟨b, 0, none⟩)] 105)).alloc (.cells #[.func (.func 107) #[] #[]] 92)).alloc (.cells #[.int .i64 m] 2)) _ _ (by simp only [sz_al]; omega)))
    simp only [sz_al] at h
    rw [hW0]; exact h
  have C3 : W0.cell? ⟨w.heap.size + 1 + 1 + 1, 0, none⟩ = some (.slice (some ⟨gp, 0, none⟩) p.length cp) := by
    have h := pls.cell_keep (w' := ((((w.alloc (.cells #[.pointer (some ⟨b, 0, none⟩)] 105)).alloc (.cells #[.func (.func 107) #[] #[]] 92)).alloc (.cells #[.int .i64 m] 2)).alloc (.cells #[.slice (some ⟨gp, 0, none⟩) p.length cp] 29))) (box_cell (box_refl (((w.alloc (.cells #[.pointer (some ⟨b, 0, none⟩)] 105)).alloc (.cells #[.func (.func 107) #[] #[]] 92)).alloc (.cells #[.int .i64 m] 2)) (.cells #[.slice (some ⟨gp, 0, none⟩) p.length cp] 29)) 0 rfl) (rfl)
    simp only [sz_al] at h
    rw [hW0]; exact h
  have F2 : W0.frozen? ⟨w.heap.size + 1 + 1, 0, none⟩ = false := by
    have h : ((((w.alloc (.cells #[.pointer (some ⟨b, 0, none⟩)] 105)).alloc (.cells #[.func (.func 107) #[] #[]] 92)).alloc (.cells #[.int .i64 m] 2)).alloc (.cells #[.slice (some ⟨gp, 0, none⟩) p.length cp] 29)).frozen? ⟨((w.alloc (.cells #[.pointer (some ⟨b, 0, none⟩)] 105)).alloc (.cells #[.func (.func 107) #[] #[]] 92)).heap.size, 0, none⟩ = false := by rw [World.frozen?_of_block (w := (((w.alloc (.cells #[.pointer (some ⟨b, 0, none⟩)] 105)).alloc (.cells #[.func (.func 107) #[] #[]] 92)).alloc (.cells #[.int .i64 m] 2))) (a := ⟨((w.alloc (.cells #[.pointer (some ⟨b, 0, none⟩)] 105)).alloc (.cells #[.func (.func 107) #[] #[]] 92)).heap.size, 0, none⟩) (Below.heap_alloc (((w.alloc (.cells #[.pointer (some ⟨b, 0, none⟩)] 105)).alloc (.cells #[.func (.func 107) #[] #[]] 92)).alloc (.cells #[.int .i64 m] 2)) _ _ (by simp only [sz_al]; omega))]; exact World.frozen?_alloc_new _ _ _ 0
    simp only [sz_al] at h
    rw [hW0]; exact h
  have O10 := (OBh.out.keep (BL.block b bl)).c10
  rw [← HNZ.out] at C3 O10 hW0
  try rw [← HNZ.out]
  rw [← hW0]
  have P0 := Lib.hid (R.out.below BL)
  have T0 := Lib.hid (pls.Turned.of (base.Turned.refl gp w) BL (Nat.le_of_lt hgp))
  obtain ⟨Bo, hBo⟩ : ∃ Bo, Bo = w.heap.size := ⟨_, rfl⟩
  obtain ⟨Bf, hBf⟩ : ∃ Bf, Bf = w.heap.size + 1 := ⟨_, rfl⟩
  obtain ⟨Bl, hBl⟩ : ∃ Bl, Bl = w.heap.size + 1 + 1 := ⟨_, rfl⟩
  obtain ⟨Bs, hBs⟩ : ∃ Bs, Bs = w.heap.size + 1 + 1 + 1 := ⟨_, rfl⟩
  rw [← hBs] at C3
  rw [← hBl] at C2 F2
  rw [← hBf] at C1
  rw [← hBo] at C0
  rw [← hBs]
  rw [← hBl]
  rw [← hBf]
  rw [← hBo]
  have nb1 : gp < Bo := by omega
  have nb2 : Bo < Bf := by omega
  have nb3 : Bf < Bl := by omega
  have nb4 : Bl < Bs := by omega
  have nb5 : Bs < W0.heap.size := by omega
  have nb6 : b < Bo := by omega
  have nb7 : w.heap.size ≤ Bo := by omega
  have nb8 : w.heap.size < W0.heap.size := by omega
  have D0 : DI w W0 b gp cp n Bo Bf Bl Bs (.func (.func 107) #[] #[]) (wk.bw (stD pl.cut) m p (n - 0)) (wk.bs (stD pl.cut) m p (n - 0)) (n - 0) gs gs cs W0 := by
    rw [Nat.sub_zero, HNZ.out, wk.bw_all, wk.bs_all, ← HNZ.out]
    exact ⟨P0.out, C2, F2, C0, C1, C3, O10, T0.out, Nat.le_refl _, fun j h1 h2 => by omega, fun _ _ _ => rfl⟩
  clear C0 C1 C2 C3 F2 O10 hW0 hBs hBl hBf hBo sz BL P0 T0
  refine rf.rangeK hro (by omega) (gf := 125) (lb := #[.pointer (some ⟨Bs, 0, none⟩)]) rfl trivial (enters_of Try.func125 (by kernel_rfl) rfl)
    (base.bwPl 13 (by omega) gp Bs n cp (by omega)) (fun _ => rfl)
    (fun pre W => ∃ gs3 cs3, DI w W0 b gp cp n Bo Bf Bl Bs (.func (.func 107) #[] #[]) (wk.bw (stD pl.cut) m p (n - pre.length)) (wk.bs (stD pl.cut) m p (n - pre.length)) (n - pre.length) gs gs3 cs3 W)
    (fun _ _ _ => False)
    (fun x a' W => a' = { tmps := #[.pointer (some ⟨b, 0, none⟩), .int .i64 m, .func (.func 107) #[] #[], .pointer (some ⟨Bo, 0, none⟩), undef, .pointer (some ⟨Bf, 0, none⟩), .int .i64 0, .pointer (some ⟨Bl, 0, none⟩), .int .i64 (x.1 : Int), undef, .int .i64 m, .pointer (some ⟨b, 0, none⟩), .pointer (some ⟨b, 0, none⟩), .pointer (some ⟨b, 10, none⟩), .slice (some ⟨gp, 0, none⟩) n cp, .func (.func 125) #[] #[.pointer (some ⟨Bs, 0, none⟩)], .int .i64 (x.1 : Int), .agg #[x.2], undef, undef, undef, undef, undef, undef, undef, undef, undef, undef, undef, undef, undef, undef, undef, undef, undef, undef, undef, undef], defers := [] })
    (fun s A B row hs hg hr => by obtain ⟨gs3, cs3, h⟩ := hs; exact ⟨gs3, cs3, h.own hg (Nat.le_of_lt (Nat.lt_trans nb1 (by omega))) (Nat.le_of_lt nb8) hr⟩)
    (fun c s A B row hs hg hr => hs.elim)
    (fun x a' s A B row hs _ _ => hs)
    (fun pre W h => by obtain ⟨gs3, cs3, h⟩ := h; exact ⟨h.bs, fun i hi => ⟨_, h.pl.cells i (by rw [wk.bw_len, ← HNZ.out]; omega)⟩⟩)
    ⟨gs, cs, D0⟩ ?assign ?body ?done ?stop
  case assign =>
    rintro lp pre x W K hI hV hK
    dsimp only [base.encL]
    gi_wp2
    exact hK _ _ (KeepsFrom.refl _ _) (rf.Kept.refl _ _) hI rfl
  case body =>
    rintro lp pre x a' W ⟨gs3, cs3, h⟩ hV rfl
    replace hV : x.1 + 1 + pre.length = n := hV
    obtain ⟨j, hj⟩ : ∃ j, j = x.1 := ⟨_, rfl⟩
    rw [← hj] at hV ⊢
    have ek : n - pre.length = j + 1 := by omega
    have EK2 := Lib.hid (show n - (pre ++ [x]).length = j from by simp; omega)
    rw [ek] at h
    have hk : j + 1 ≤ n := by omega
    obtain ⟨s0, s1⟩ := SB.out (j + 1) (by rw [← HNZ.out]; exact hk)
    have HLT := Lib.hid (show j < p.length from by rw [← HNZ.out]; exact hk)
    have FS0 := wk.bs_succ [] (stD pl.cut) m HLT.out
    have FW0 := wk.bw_succ [] (stD pl.cut) m HLT.out
    have FG : nth (wk.bw (stD pl.cut) m p (j + 1)) j = nth p j := wk.bw_get [] (stD pl.cut) m HLT.out
    have FL := Lib.hid (show j < (wk.bw (stD pl.cut) m p (j + 1)).length from by rw [wk.bw_len]; exact HLT.out)
    have q1 := h.pl.cells j FL.out
    have q2 := h.pl.rows j FL.out
    rw [FG] at q1 q2
    obtain ⟨OK, -, -⟩ := dk_in (g := pl.cut) gd_cut (show pl.pv (nth p j) = true from PV.out j HLT.out) s0 (by omega)
    obtain ⟨S, hS⟩ : ∃ S, S = wk.bs (stD pl.cut) m p (j + 1) := ⟨_, rfl⟩
    rw [← hS] at FS0 FW0 s0 s1 OK h
    have C := base.ctI S W.drew (cs3 j) (gs3 j) (nth p j) (q2.keep fun _ => rfl) (Nat.le_trans (show (nth p j).length ≤ 24 from (pl.pv_iff.1 (PV.out j HLT.out)).1) (by omega))
    obtain ⟨P, hP⟩ : ∃ P, P = base.bkL pl.cut (nth p j) S := ⟨_, rfl⟩
    obtain ⟨M, hM⟩ : ∃ M, M = base.bkN pl.cut (nth p j) S := ⟨_, rfl⟩
    have FS : wk.bs (stD pl.cut) m p j = M := FS0.trans hM.symm
    have FW : wk.bw (stD pl.cut) m p j = (wk.bw (stD pl.cut) m p (j + 1)).set j P := FW0.trans (by rw [hP]; rfl)
    rw [← hP, ← hM, OK] at C
    have CH := Lib.hid C
    have H := Lib.hid h
    have y10 := h.b10
    have yo := h.bo
    have yf := h.bf
    have yl := h.lf
    have FSh := Lib.hid FS
    have FWh := Lib.hid FW
    have HJ := Lib.hid hj
    clear C h FS0 FW0 FS FW hP hM hS OK FG q2 hj ek
    generalize (nth p j).length = ln at q1 CH
    generalize hgk : gs3 j = gk at q1 CH
    generalize cs3 j = ck at q1 CH
    have HGK := Lib.hid hgk
    clear hgk
    have z0 : (0 : Int) ≤ (j : Int) := by omega
    have z1 : (j : Int) < (n : Int) := by omega
    have mixed : Try.prog.follows .mixedOrders = true := Try.checked.mixed
    gi_wp2_with fail
    have DBH := Lib.hid (show DB w W0 b gp Bo Bf Bl Bs from ⟨hgp, hne, nb7, nb2, nb3, nb4, nb5, nb6⟩)
    have zW := H.out.sz
    have HLTW := Lib.hid H.out.pl.lt
    have PL0 := Lib.hid (show (wk.bw (stD pl.cut) m p (j + 1)).length = n from by rw [wk.bw_len]; exact HNZ.out.symm)
    have nlg : Bl ≠ gp := by omega
    have ngl : gp ≠ Bl := by omega
    clear D0 nb1 nb2 nb3 nb4 nb7
    refine wpIn_region_any mixed (st.anyIn (by kernel_rfl) (fun ⟨_, _, h⟩ => h) _ _ _ _ ?_)
    change wpAny _ _ _ _ _ _ _ W.drew
    refine wpAny_take (i := 0) (oi := { dst := some 25, op := Op.move (Operand.tmp 9), type := 112, pos := "l06_orders.go:231", after := #[], guard := none }) (v := .pointer (some ⟨gp, j, none⟩)) rfl (by kernel_rfl) (by kernel_rfl) (by kernel_rfl) (fun _ _ _ h => h) (Or.inl ⟨by rfl, fun w2 => by go_simp⟩) ?_
    simp only [Act.put, List.setIfInBounds_toArray, List.set_cons_zero, List.set_cons_succ]
    refine wpAny_take (i := 2) (oi := { dst := some 27, op := Op.move (Operand.tmp 9), type := 112, pos := "l06_orders.go:231", after := #[], guard := none }) (v := .pointer (some ⟨gp, j, none⟩)) rfl (by kernel_rfl) (by kernel_rfl) (by kernel_rfl) (fun _ _ _ h => h) (Or.inl ⟨by rfl, fun w2 => by go_simp⟩) ?_
    simp only [Act.put, List.setIfInBounds_toArray, List.set_cons_zero, List.set_cons_succ]
    refine wpAny_take (i := 3) (oi := { dst := some 28, op := Op.nilCheck (Operand.tmp 27), type := 0, pos := "l06_orders.go:231", after := #[{ on := 2, ground := Ground.data }], guard := none }) (v := .pointer (some ⟨gp, j, none⟩)) rfl (by kernel_rfl) (by kernel_rfl) (by kernel_rfl) (fun _ _ _ h => h) (Or.inl ⟨by rfl, fun w2 => by go_simp⟩) ?_
    simp only [Act.put, List.setIfInBounds_toArray, List.set_cons_zero, List.set_cons_succ]
    refine wpAny_take (i := 4) (oi := { dst := some 29, op := Op.fieldAddr 62 (Operand.tmp 28) 0, type := 0, pos := "l06_orders.go:231", after := #[{ on := 3, ground := Ground.data }], guard := none }) (v := .pointer (some ⟨gp, j, none⟩)) rfl (by kernel_rfl) (by kernel_rfl) (by kernel_rfl) (fun _ _ _ h => h) (Or.inl ⟨by rfl, fun w2 => by go_simp⟩) ?_
    simp only [Act.put, List.setIfInBounds_toArray, List.set_cons_zero, List.set_cons_succ]
    refine st.three (i := 1) (j := 5) (k := 6) (oi := { dst := some 26, op := Op.load 92 (Operand.tmp 5), type := 92, pos := "l06_orders.go:231", after := #[], guard := none }) (oj := { dst := some 30, op := Op.load 60 (Operand.tmp 29), type := 60, pos := "l06_orders.go:231", after := #[{ on := 4, ground := Ground.data }], guard := none }) (ok := { dst := some 31, op := Op.load 2 (Operand.tmp 7), type := 2, pos := "l06_orders.go:231", after := #[], guard := none }) (u := .func (.func 107) #[] #[]) (v := .slice (some ⟨gk, 0, none⟩) ln ck) (x := .int .i64 S) (by kernel_rfl) rfl rfl rfl (Or.inl ⟨by rfl, Or.inl (by go_simp)⟩) (Or.inl ⟨by rfl, Or.inl (by go_simp)⟩) (Or.inl ⟨by rfl, Or.inl (by go_simp)⟩) (by kernel_rfl) (by kernel_rfl) (by kernel_rfl) (by kernel_rfl) (by kernel_rfl) (by kernel_rfl) (by decide) (by decide) (by decide) (by kernel_rfl) (by kernel_rfl) (by kernel_rfl) (by kernel_rfl) (by kernel_rfl) (by kernel_rfl) (by kernel_rfl) ?_
    simp only [Act.put, List.setIfInBounds_toArray, List.set_cons_zero, List.set_cons_succ]
    refine wpAny_ready (rs := [7]) (by kernel_rfl) (by simp) ?_
    refine AllReady.cons rfl (fun K hK => ?_) AllReady.nil
    go_simp
    refine CH.out.mono ?_
    rintro e w1 ⟨a1, c1, g1, rfl, r1, -, b1, o1⟩
    obtain ⟨rfl, l1, k1⟩ := o1 rfl
    have N1 := Lib.hid ((H.out.below (Below.refl W.heap.size W).drew (Nat.le_of_lt (Nat.lt_trans hgp nb8))).below b1 (Nat.le_of_lt (Nat.lt_trans hgp nb8)))
    have R1 := Lib.hid r1
    have B1 := Lib.hid b1
    have L1 := Lib.hid l1
    have K1 := Lib.hid k1
    have cc := N1.out.pl.cells j FL.out
    have ff := N1.out.pl.free (Nat.lt_of_le_of_lt (Nat.zero_le _) FL.out) j
    have cl := N1.out.lf
    have fl := N1.out.fz
    clear o1 l1 k1 r1 b1
    refine hK _ _ ?_
    clear hK K
    refine wpAny_take (i := 8) (oi := { dst := some 24, op := Op.move (Operand.tmp 32), type := 88, pos := "l06_orders.go:231", after := #[{ on := 7, ground := Ground.data }], guard := none }) (v := .tuple #[.slice (some ⟨g1, 0, none⟩) P.length c1, .int .i64 M]) rfl (by kernel_rfl) (by kernel_rfl) (by kernel_rfl) (fun _ _ _ h => h) (Or.inl ⟨by rfl, fun w2 => by go_simp⟩) ?_
    simp only [Act.put, List.setIfInBounds_toArray, List.set_cons_zero, List.set_cons_succ]
    refine wpAny_take (i := 9) (oi := { dst := some 33, op := Op.extract (Operand.tmp 24) 0, type := 60, pos := "l06_orders.go:231", after := #[{ on := 8, ground := Ground.data }], guard := none }) (v := .slice (some ⟨g1, 0, none⟩) P.length c1) rfl (by kernel_rfl) (by kernel_rfl) (by kernel_rfl) (fun _ _ _ h => h) (Or.inl ⟨by rfl, fun w2 => by go_simp⟩) ?_
    simp only [Act.put, List.setIfInBounds_toArray, List.set_cons_zero, List.set_cons_succ]
    refine wpAny_take (i := 10) (oi := { dst := some 34, op := Op.extract (Operand.tmp 24) 1, type := 2, pos := "l06_orders.go:231", after := #[{ on := 8, ground := Ground.data }, { on := 13, ground := Ground.gcOnly Departure.lateStores }], guard := none }) (v := .int .i64 M) rfl (by kernel_rfl) (by kernel_rfl) (by kernel_rfl) (fun _ _ _ h => h) (Or.inl ⟨by rfl, fun w2 => by go_simp⟩) ?_
    simp only [Act.put, List.setIfInBounds_toArray, List.set_cons_zero, List.set_cons_succ]
    refine wpAny_take (i := 11) (oi := { dst := some 35, op := Op.nilCheck (Operand.tmp 25), type := 0, pos := "l06_orders.go:231", after := #[{ on := 0, ground := Ground.data }, { on := 0, ground := Ground.phase }, { on := 1, ground := Ground.phase }, { on := 2, ground := Ground.phase }, { on := 3, ground := Ground.phase }, { on := 4, ground := Ground.phase }, { on := 5, ground := Ground.phase }, { on := 6, ground := Ground.phase }, { on := 7, ground := Ground.phase }, { on := 8, ground := Ground.phase }, { on := 9, ground := Ground.phase }, { on := 10, ground := Ground.textOnly Departure.lateStores }], guard := none }) (v := .pointer (some ⟨gp, j, none⟩)) rfl (by kernel_rfl) (by kernel_rfl) (by kernel_rfl) (fun _ _ _ h => h) (Or.inl ⟨by rfl, fun w2 => by go_simp⟩) ?_
    simp only [Act.put, List.setIfInBounds_toArray, List.set_cons_zero, List.set_cons_succ]
    refine wpAny_take (i := 12) (oi := { dst := some 36, op := Op.fieldAddr 62 (Operand.tmp 35) 0, type := 0, pos := "l06_orders.go:231", after := #[{ on := 11, ground := Ground.data }, { on := 0, ground := Ground.phase }, { on := 1, ground := Ground.phase }, { on := 2, ground := Ground.phase }, { on := 3, ground := Ground.phase }, { on := 4, ground := Ground.phase }, { on := 5, ground := Ground.phase }, { on := 6, ground := Ground.phase }, { on := 7, ground := Ground.phase }, { on := 8, ground := Ground.phase }, { on := 9, ground := Ground.phase }, { on := 10, ground := Ground.textOnly Departure.lateStores }], guard := none }) (v := .pointer (some ⟨gp, j, none⟩)) rfl (by kernel_rfl) (by kernel_rfl) (by kernel_rfl) (fun _ _ _ h => h) (Or.inl ⟨by rfl, fun w2 => by go_simp⟩) ?_
    simp only [Act.put, List.setIfInBounds_toArray, List.set_cons_zero, List.set_cons_succ]
    refine wpAny_ready (rs := [13]) (by kernel_rfl) (by simp) ?_
    refine AllReady.cons rfl (fun K hK => ?_) AllReady.nil
    go_simp
    refine hK _ _ ?_
    clear hK K
    refine wpAny_ready (rs := [14]) (by kernel_rfl) (by simp) ?_
    refine AllReady.cons rfl (fun K hK => ?_) AllReady.nil
    go_simp
    refine hK _ _ ?_
    clear hK K
    refine wpAny_done (by kernel_rfl) ?_ _
    have ST := N1.out.step PL0.out hk R1.out (Nat.le_trans zW L1.out) (fun i hi e => by have := HLTW.out i (by rw [PL0.out]; exact hi); have := L1.out; have hd : W.drew.heap.size = W.heap.size := rfl; omega) K1.out DBH.out (fun i hi => R.out.lt i (by rw [← HNZ.out]; exact hi)) M
    have KK : rf.Kept W0.heap.size W ((w1.setCell ⟨gp, j, none⟩ (.slice (some ⟨g1, 0, none⟩) P.length c1)).setCell ⟨Bl, 0, none⟩ (.int .i64 M)) :=
      ((rf.Kept.trans (show rf.Kept W0.heap.size W w1 from ⟨B1.out.size, fun k _ hl => B1.out.block k hl⟩) (rf.Kept.set (p := ⟨gp, j, none⟩) _ (show gp < W0.heap.size by have := DBH.out.h7; omega))).trans (rf.Kept.set (p := ⟨Bl, 0, none⟩) _ (show Bl < W0.heap.size by have := DBH.out.h6; have := DBH.out.h7; omega)))
    rw [← FWh.out] at ST
    have FE := Lib.hid (show KeepsFrom W0.heap.size W _ ∧ rf.Kept (W0.heap.size + 2) W _ ∧ ∃ gs3 cs3, DI w W0 b gp cp n Bo Bf Bl Bs (.func (.func 107) #[] #[]) (wk.bw (stD pl.cut) m p (n - (pre ++ [x]).length)) (wk.bs (stD pl.cut) m p (n - (pre ++ [x]).length)) (n - (pre ++ [x]).length) gs gs3 cs3 _ from ⟨KK.from, KK.mono (by omega), _, _, by rw [EK2.out, FSh.out]; exact ST⟩)
    clear ST KK cc ff cl fl
    gi_wp2
    exact FE.out
  case done =>
    rintro xs W D hD hK hS ⟨gs3, cs3, h⟩
    have e0 : n - xs.length = 0 := by have : xs.length = n := hS; omega
    rw [e0] at h
    clear e0
    have OF : OwnFrom W0.heap.size (fun (_ : Unit) W => DI w W0 b gp cp n Bo Bf Bl Bs (.func (.func 107) #[] #[]) (wk.bw (stD pl.cut) m p 0) (wk.bs (stD pl.cut) m p 0) 0 gs gs3 cs3 W) := fun _ A B row hs hg hr => hs.own hg (Nat.le_of_lt (Nat.lt_trans nb1 (by omega))) (Nat.le_of_lt nb8) hr
    have H := Lib.hid (OF.putObj (s := ()) (.deferred none) h hD hK rfl)
    have yl := h.lf
    clear h OF D0
    gi_wp2_with fail
    refine ⟨by simp, .inl ⟨_, _, rfl, run_takeDeferred (w := W) hK, ?_⟩⟩
    refine ⟨.int .i64 (wk.bs (stD pl.cut) m p 0), ?_, gs3, cs3, rfl, H.out.pl, fun i hi => Nat.le_trans (Nat.le_of_lt nb8) (H.out.g1 i (by rw [HNZ.out]; exact hi) (Nat.zero_le _)), H.out.tu⟩
    simp [results, Try.f106, go_sem]
  case stop =>
    rintro c pre W D hD hK h
    exact h.elim
end Go.Proofs.Ytmaejlfjdkkpdaa.ob

namespace Go.Proofs.Ytmaejlfjdkkpdaa.base
open Go.ChangeShapes Go.WideShapes Go.ChangeAt Go.RowKit
open seven (F7 zz Row At)
open pl (inR prOk pok)
open gen
open Go.Shelf
attribute [local go_sem] Oper.semAt_some
set_option maxRecDepth 100000 in
set_option maxHeartbeats 8000000 in
theorem bkI (m : Int) (w : World) (cap g : Nat) (l : List F7) (r : Row w (some ⟨g, 0, none⟩) cap g l) (hn : l.length ≤ 1048577) : Calls Try.prog 108 #[.slice (some ⟨g, 0, none⟩) l.length cap, .int .i64 m] w (Out w (pyOk l m) (bkL pl.back l m) (bkN pl.back l m)) := by
  obtain ⟨P, hP⟩ : ∃ P, P = bkL pl.back l m := ⟨_, rfl⟩
  obtain ⟨M, hM⟩ : ∃ M, M = bkN pl.back l m := ⟨_, rfl⟩
  rw [← hP, ← hM]
  have HP := Lib.hid hP
  have HM := Lib.hid hM
  clear hP hM
  have GL := Lib.hid (fun h : 0 < l.length => r.lt h)
  have C := Lib.hid (pkI w (some ⟨g, 0, none⟩) cap g l r hn)
  have R := Lib.hid r
  have CU := Lib.hid (fun w1 => usI m w1)
  have CP := Lib.hid (fun w1 (h : Row w1 (some ⟨g, 0, none⟩) cap g l) => seven.cpI w1 g cap l h hn)
  clear r
  obtain ⟨n, hnz⟩ : ∃ n, n = l.length := ⟨_, rfl⟩
  rw [← hnz] at hn C CP ⊢
  have HNZ := Lib.hid hnz
  clear hnz
  refine (callsIn_wide (n := 9)).1 ?_
  have hro : Fence.wide.round = none := rfl
  have hw1 : Fence.wide.fn 92 := trivial
  have hw2 : Fence.wide.fn 90 := trivial
  have hw3 : Fence.wide.fn 100 := trivial
  have hw4 : Fence.wide.fn 119 := trivial
  refine callsIn_of_wp_marks Try.func108 rfl trivial ?_ hro
  simp only [Try.ntmps108, List.size_toArray, List.length_cons, List.length_nil, Nat.reduceAdd, Nat.reduceSub, Array.replicate_succ, Array.replicate_zero, List.push_toArray, List.append_toArray, List.nil_append, List.cons_append]
  gi_wp2_with fail
  refine (callsIn_wide.2 C.out).mono ?_
  rintro e w1 ⟨rfl, b1⟩
  have BN := Lib.hid b1
  have R1 := Lib.hid (R.out.keep (w' := w1) fun h => b1.block g (GL.out h))
  clear b1 R C
  cases hv : pl.pv l with
  | false =>
    have NOK := Lib.hid (show pyOk l m = false from (by unfold pyOk; rw [hv]; rfl))
    have NOL := Lib.hid (HP.out.trans (bk_no (by unfold pyOk; rw [hv]; rfl)).1)
    have NON := Lib.hid (HM.out.trans (bk_no (by unfold pyOk; rw [hv]; rfl)).2)
    clear hv
    gi_wp2
    refine ⟨.tuple #[.slice none 0 0, .int .i64 0], ?_, out_no NOK.out NOL.out NON.out BN.out⟩
    simp [results, Try.f108, go_sem]
  | true =>
    have HV := Lib.hid hv
    have PVH := Lib.hid (pl.pv_iff.1 hv)
    clear hv
    cases hd : inR m 0 1000000000000 with
    | false =>
      rw [hd] at CU
      have NOK := Lib.hid (show pyOk l m = false from (by unfold pyOk; rw [HV.out, hd]; rfl))
      have NOL := Lib.hid (HP.out.trans (bk_no (by unfold pyOk; rw [HV.out, hd]; rfl)).1)
      have NON := Lib.hid (HM.out.trans (bk_no (by unfold pyOk; rw [HV.out, hd]; rfl)).2)
      clear hd
      gi_wp2_with fail
      refine (callsIn_wide.2 (CU.out _)).mono ?_
      rintro e w' ⟨rfl, rfl⟩
      gi_wp2
      refine ⟨.tuple #[.slice none 0 0, .int .i64 0], ?_, out_no NOK.out NOL.out NON.out BN.out⟩
      simp [results, Try.f108, go_sem]
    | true =>
      rw [hd] at CU
      have YP := Lib.hid (HP.out.trans (bk_yes (by unfold pyOk; rw [HV.out, hd]; rfl)).1)
      have YM := Lib.hid (HM.out.trans (bk_yes (by unfold pyOk; rw [HV.out, hd]; rfl)).2)
      obtain ⟨m0, m1⟩ := pl.inR_iff.1 hd
      clear hd
      have hn24 : n ≤ 24 := by rw [HNZ.out]; exact PVH.out.1
      have SB := Lib.hid (fun k hk => bs_b (f := pl.back) (fun x m hx hm => back_b hx hm) (l := l) (fun i hi => PVH.out.pin (i := i) hi) m0 (k := k) hk)
      gi_wp2_with fail
      refine (callsIn_wide.2 (CU.out _)).mono ?_
      rintro e w' ⟨rfl, rfl⟩
      gi_wp2_with fail
      refine (callsIn_wide.2 (CP.out w1 R1.out)).mono ?_
      rintro e w2 ⟨v, rfl, c2, g2, hv2, r2, l2, k2, b2⟩
      rw [← HNZ.out] at hv2
      subst hv2
      have R2 := Lib.hid r2
      have B2 := Lib.hid (BN.out.trans (b2.mono BN.out.size))
      have G2 := Lib.hid (Nat.le_trans BN.out.size l2)
      clear r2 b2
      gi_wp2_with fail
      refine (callsIn_wide.2 (bwC _ _ _ _)).mono ?_
      rintro e w3 ⟨rfl, rfl⟩
      gi_wp2_with fail
      obtain ⟨W0, hW0⟩ : ∃ W0, W0 = (w2.alloc (.cells #[.int .i64 m] 2)).alloc (.cells #[.slice (some ⟨g2, 0, none⟩) n c2] 60) := ⟨_, rfl⟩
      have sz : W0.heap.size = w2.heap.size + 2 := by rw [hW0]; simp
      have al1 := Below.heap_alloc w2 (.cells #[.int .i64 m] 2)
      have al2 := Below.heap_alloc (w2.alloc (.cells #[.int .i64 m] 2)) (.cells #[.slice (some ⟨g2, 0, none⟩) n c2] 60)
      have R0 := Lib.hid (show Row W0 (some ⟨g2, 0, none⟩) c2 g2 (pl.bw pl.back m l (n - 0)) from by
        rw [Nat.sub_zero, HNZ.out, pl.bw_all]
        exact R2.out.keep fun _ => by rw [hW0]; exact (al2 g2 (by simp; omega)).trans (al1 g2 k2))
      have LB := Lib.hid (show W0.cell? ⟨w2.heap.size, 0, none⟩ = some (.int .i64 (pl.bs pl.back m l (n - 0))) from by
        rw [Nat.sub_zero, HNZ.out, pl.bs_all]
        rw [hW0, World.cell?_of_block (w := w2.alloc (.cells #[.int .i64 m] 2)) (a := ⟨w2.heap.size, 0, none⟩) (al2 _ (by simp))]
        exact box_cell (box_refl w2 _) 0 rfl)
      have LF := Lib.hid (show W0.frozen? ⟨w2.heap.size, 0, none⟩ = false from by
        rw [hW0, World.frozen?_of_block (w := w2.alloc (.cells #[.int .i64 m] 2)) (a := ⟨w2.heap.size, 0, none⟩) (al2 _ (by simp))]
        exact World.frozen?_alloc_new w2 _ _ 0)
      have HB := Lib.hid (show W0.cell? ⟨w2.heap.size + 1, 0, none⟩ = some (.slice (some ⟨g2, 0, none⟩) n c2) from by
        have := box_cell (box_refl (w2.alloc (.cells #[.int .i64 m] 2)) (.cells #[.slice (some ⟨g2, 0, none⟩) n c2] 60)) 0 rfl
        rw [World.size_alloc] at this
        rw [hW0]; exact this)
      have BW := Lib.hid (show Below w.heap.size w W0 from by rw [hW0]; exact (B2.out.alloc B2.out.size _).alloc (by simp; have := B2.out.size; omega) _)
      have hws : w.heap.size ≤ w2.heap.size := B2.out.size
      rw [← hW0]
      obtain ⟨Bl, hBl⟩ : ∃ Bl, Bl = w2.heap.size := ⟨_, rfl⟩
      obtain ⟨Bs, hBs⟩ : ∃ Bs, Bs = w2.heap.size + 1 := ⟨_, rfl⟩
      rw [← hBl] at LB LF
      rw [← hBs] at HB
      try rw [← hBs]
      try rw [← hBl]
      have wsb : w.heap.size ≤ Bl := by omega
      have nsB : Bs ≠ Bl := by omega
      have ngs : g2 ≠ Bl := by omega
      have ngB : Bs ≠ g2 := by omega
      have hg2W : g2 < W0.heap.size := by omega
      have hlW : Bl < W0.heap.size := by omega
      have hwW : w.heap.size ≤ W0.heap.size := by omega
      have LP := Lib.hid (show P.length = n from by rw [YP.out, pl.bw_len, HNZ.out])
      clear hW0 hBl hBs al1 al2 k2 l2 B2 R2 sz hws
      refine rf.rangeK hro (by omega) (gf := 126) (lb := #[.pointer (some ⟨Bs, 0, none⟩)]) rfl trivial (enters_of Try.func126 (by kernel_rfl) rfl)
        (bkIt 8 (by omega) g2 Bs n c2 hn24) (fun _ => rfl)
        (fun pre W => Row W (some ⟨g2, 0, none⟩) c2 g2 (pl.bw pl.back m l (n - pre.length)) ∧ W.cell? ⟨Bl, 0, none⟩ = some (.int .i64 (pl.bs pl.back m l (n - pre.length))) ∧ W.frozen? ⟨Bl, 0, none⟩ = false ∧ W.cell? ⟨Bs, 0, none⟩ = some (.slice (some ⟨g2, 0, none⟩) n c2) ∧ g2 < W.heap.size ∧ Below w.heap.size w W)
        (fun c pre W => c = .exit 0 ∧ Row W (some ⟨g2, 0, none⟩) c2 g2 (pl.bw pl.back m l 0) ∧ W.cell? ⟨Bl, 0, none⟩ = some (.int .i64 (pl.bs pl.back m l 0)) ∧ g2 < W.heap.size ∧ Below w.heap.size w W)
        (fun j a' W => a' = { tmps := #[.slice (some ⟨g, 0, none⟩) n cap, .int .i64 m, undef, undef, .slice none 0 0, .int .i64 0, .slice (some ⟨g2, 0, none⟩) n c2, .pointer (some ⟨Bl, 0, none⟩), .pointer (some ⟨g2, j * 7, none⟩), undef, .slice (some ⟨g, 0, none⟩) n cap, .bool true, .bool false, .bool false, .int .i64 m, .bool true, .bool false, .bool false, .slice (some ⟨g, 0, none⟩) n cap, .slice (some ⟨g2, 0, none⟩) n c2, .int .i64 m, .slice (some ⟨g2, 0, none⟩) n c2, .func (.func 126) #[] #[.pointer (some ⟨Bs, 0, none⟩)], .pointer (some ⟨g2, j * 7, none⟩), undef, undef, undef, undef, undef, undef, undef, undef, undef, undef, undef, undef, undef, undef, undef, undef, undef, undef, undef, undef, undef, undef, undef, undef, undef, undef, undef, undef, undef], defers := [] })
        (fun s A B row hs hg hr => ⟨row_own hs.1 hg (fun r e => (hr r e).2), cell_kept hs.2.1 hg (fun r e => (hr r e).2), frz_own hs.2.1 hs.2.2.1 hg (fun r e => (hr r e).2), cell_kept hs.2.2.2.1 hg (fun r e => (hr r e).2), Nat.lt_of_lt_of_le hs.2.2.2.2.1 hg.size, hs.2.2.2.2.2.grown hg hs.2.2.2.2.2.size (fun k e => (Nat.le_trans hwW (hr k e).1))⟩)
        (fun c s A B row hs hg hr => ⟨hs.1, row_own hs.2.1 hg (fun r e => (hr r e).2), cell_kept hs.2.2.1 hg (fun r e => (hr r e).2), Nat.lt_of_lt_of_le hs.2.2.2.1 hg.size, hs.2.2.2.2.grown hg hs.2.2.2.2.size (fun k e => (Nat.le_trans hwW (hr k e).1))⟩)
        (fun x a' s A B row hs _ _ => hs)
        (fun pre W h => ⟨h.2.2.2.1, fun i hi => ⟨_, h.1.cells i (by rw [pl.bw_len, ← HNZ.out]; omega)⟩⟩)
        ⟨R0.out, LB.out, LF.out, HB.out, hg2W, BW.out⟩ ?assign ?body ?done ?stop
      case assign =>
        rintro lp pre x W K hI hV hK
        dsimp only [encP]
        gi_wp2
        exact hK _ _ (KeepsFrom.refl _ _) (rf.Kept.refl _ _) hI rfl
      case body =>
        rintro lp pre j a' W ⟨h1, h2, h3, h4, h5, h7⟩ hV rfl
        replace hV : j + 1 + pre.length = n := hV
        have ek : n - pre.length = j + 1 := by omega
        have ek2 : n - (pre ++ [j]).length = j := by simp; omega
        rw [ek] at h1 h2
        have hk : j + 1 ≤ n := by omega
        have sB := SB.out (j + 1) (by rw [← HNZ.out]; exact hk)
        obtain ⟨s0, s1⟩ := sB
        have HLT := Lib.hid (show j < l.length from by rw [← HNZ.out]; exact hk)
        have FS := Lib.hid (pl.bs_succ pl.back m HLT.out)
        have FW := Lib.hid (pl.bw_succ pl.back m HLT.out)
        have FG := Lib.hid (pl.bw_get pl.back m HLT.out)
        have FL := Lib.hid (show j < (pl.bw pl.back m l (j + 1)).length from by rw [pl.bw_len]; exact HLT.out)
        have q1 := h1.cells j FL.out
        have fz := h1.free (Nat.lt_of_le_of_lt (Nat.zero_le _) FL.out)
        rw [FG.out] at q1
        obtain ⟨x, hx⟩ : ∃ x, x = l.getD j zz := ⟨_, rfl⟩
        have PX := PVH.out.pin HLT.out
        rw [← hx] at q1 FS FW FG PX
        have ST := Lib.hid (show pl.bs pl.back m l (j + 1) = 0 → pl.bw pl.back m l 0 = pl.bw pl.back m l (j + 1) ∧ pl.bs pl.back m l 0 = 0 from fun h => by
          have := bw_stop (f := pl.back) (n := m) (l := l) (fun y hy => by obtain ⟨i, hi, rfl⟩ := getD_mem hy; exact back_z (PVH.out.pin hi)) (j + 1) (j + 1) (by rw [← HNZ.out]; exact hk) (Nat.le_refl _) h
          rwa [Nat.sub_self] at this)
        obtain ⟨S, hS⟩ : ∃ S, S = pl.bs pl.back m l (j + 1) := ⟨_, rfl⟩
        rw [← hS] at FS FW s0 s1 h2 ST
        obtain ⟨L, hL⟩ : ∃ L, L = pl.bw pl.back m l (j + 1) := ⟨_, rfl⟩
        rw [← hL] at FW FG FL h1 ST
        have p0 := PX.p0; have p1 := PX.p1; have a0 := PX.q0; have a1 := PX.q1
        have H1 := Lib.hid h1
        have H7 := Lib.hid h7
        clear hx hS hL h1 h7 PX ek hV
        have mixed : Try.prog.follows .mixedOrders = true := Try.checked.mixed
        obtain ⟨x1, x2, x3, x4, x5, x6, x7⟩ := q1
        have f1 := fz (j * 7 + 1)
        have f4 := fz (j * 7 + 4)
        cases t1 : (S == 0) with
        | true =>
          have sz : S = 0 := by simpa using t1
          have FE := Lib.hid (show KeepsFrom W0.heap.size W W ∧ Row W (some ⟨g2, 0, none⟩) c2 g2 (pl.bw pl.back m l 0) ∧ W.cell? ⟨Bl, 0, none⟩ = some (.int .i64 (pl.bs pl.back m l 0)) ∧ g2 < W.heap.size ∧ Below w.heap.size w W from
            ⟨KeepsFrom.refl _ _, by rw [(ST.out sz).1]; exact H1.out, by rw [(ST.out sz).2, ← sz]; exact h2, h5, H7.out⟩)
          clear H1 H7 ST sz
          gi_wp2
          exact ⟨FE.out.1, rfl, FE.out.2⟩
        | false =>
          have FE := Lib.hid (show KeepsFrom W0.heap.size W ((((W.setCell ⟨g2, j * 7 + 1, none⟩ (.int .i64 (x.2.1 - min S (x.2.2.2.2.1)))).setCell ⟨g2, j * 7 + 4, none⟩ (.int .i64 (x.2.2.2.2.1 - min S (x.2.2.2.2.1)))).setCell ⟨Bl, 0, none⟩ (.int .i64 (S - min S (x.2.2.2.2.1)))).drew) ∧ rf.Kept (W0.heap.size + 2) W ((((W.setCell ⟨g2, j * 7 + 1, none⟩ (.int .i64 (x.2.1 - min S (x.2.2.2.2.1)))).setCell ⟨g2, j * 7 + 4, none⟩ (.int .i64 (x.2.2.2.2.1 - min S (x.2.2.2.2.1)))).setCell ⟨Bl, 0, none⟩ (.int .i64 (S - min S (x.2.2.2.2.1)))).drew) ∧ Row ((((W.setCell ⟨g2, j * 7 + 1, none⟩ (.int .i64 (x.2.1 - min S (x.2.2.2.2.1)))).setCell ⟨g2, j * 7 + 4, none⟩ (.int .i64 (x.2.2.2.2.1 - min S (x.2.2.2.2.1)))).setCell ⟨Bl, 0, none⟩ (.int .i64 (S - min S (x.2.2.2.2.1)))).drew) (some ⟨g2, 0, none⟩) c2 g2 (pl.bw pl.back m l (n - (pre ++ [j]).length)) ∧ ((((W.setCell ⟨g2, j * 7 + 1, none⟩ (.int .i64 (x.2.1 - min S (x.2.2.2.2.1)))).setCell ⟨g2, j * 7 + 4, none⟩ (.int .i64 (x.2.2.2.2.1 - min S (x.2.2.2.2.1)))).setCell ⟨Bl, 0, none⟩ (.int .i64 (S - min S (x.2.2.2.2.1)))).drew).cell? ⟨Bl, 0, none⟩ = some (.int .i64 (pl.bs pl.back m l (n - (pre ++ [j]).length))) ∧ ((((W.setCell ⟨g2, j * 7 + 1, none⟩ (.int .i64 (x.2.1 - min S (x.2.2.2.2.1)))).setCell ⟨g2, j * 7 + 4, none⟩ (.int .i64 (x.2.2.2.2.1 - min S (x.2.2.2.2.1)))).setCell ⟨Bl, 0, none⟩ (.int .i64 (S - min S (x.2.2.2.2.1)))).drew).frozen? ⟨Bl, 0, none⟩ = false ∧ ((((W.setCell ⟨g2, j * 7 + 1, none⟩ (.int .i64 (x.2.1 - min S (x.2.2.2.2.1)))).setCell ⟨g2, j * 7 + 4, none⟩ (.int .i64 (x.2.2.2.2.1 - min S (x.2.2.2.2.1)))).setCell ⟨Bl, 0, none⟩ (.int .i64 (S - min S (x.2.2.2.2.1)))).drew).cell? ⟨Bs, 0, none⟩ = some (.slice (some ⟨g2, 0, none⟩) n c2) ∧ g2 < ((((W.setCell ⟨g2, j * 7 + 1, none⟩ (.int .i64 (x.2.1 - min S (x.2.2.2.2.1)))).setCell ⟨g2, j * 7 + 4, none⟩ (.int .i64 (x.2.2.2.2.1 - min S (x.2.2.2.2.1)))).setCell ⟨Bl, 0, none⟩ (.int .i64 (S - min S (x.2.2.2.2.1)))).drew).heap.size ∧ Below w.heap.size w ((((W.setCell ⟨g2, j * 7 + 1, none⟩ (.int .i64 (x.2.1 - min S (x.2.2.2.2.1)))).setCell ⟨g2, j * 7 + 4, none⟩ (.int .i64 (x.2.2.2.2.1 - min S (x.2.2.2.2.1)))).setCell ⟨Bl, 0, none⟩ (.int .i64 (S - min S (x.2.2.2.2.1)))).drew) from by
            rw [ek2]
            have cb : (((W.setCell ⟨g2, j * 7 + 1, none⟩ (.int .i64 (x.2.1 - min S (x.2.2.2.2.1)))).setCell ⟨g2, j * 7 + 4, none⟩ (.int .i64 (x.2.2.2.2.1 - min S (x.2.2.2.2.1))))).cell? ⟨Bl, 0, none⟩ = some (.int .i64 S) := ((World.cell?_setCell_other _ ⟨g2, j * 7 + 4, none⟩ ⟨Bl, 0, none⟩ _ (fun q => by injection q with q1 q2; exact ngs (by omega))).trans ((World.cell?_setCell_other W ⟨g2, j * 7 + 1, none⟩ ⟨Bl, 0, none⟩ _ (fun q => by injection q with q1 q2; exact ngs (by omega))).trans h2))
            have cs : (((W.setCell ⟨g2, j * 7 + 1, none⟩ (.int .i64 (x.2.1 - min S (x.2.2.2.2.1)))).setCell ⟨g2, j * 7 + 4, none⟩ (.int .i64 (x.2.2.2.2.1 - min S (x.2.2.2.2.1))))).cell? ⟨Bs, 0, none⟩ = some (.slice (some ⟨g2, 0, none⟩) n c2) := ((World.cell?_setCell_other _ ⟨g2, j * 7 + 4, none⟩ ⟨Bs, 0, none⟩ _ (fun q => by injection q with q1 q2; exact ngB (by omega))).trans ((World.cell?_setCell_other W ⟨g2, j * 7 + 1, none⟩ ⟨Bs, 0, none⟩ _ (fun q => by injection q with q1 q2; exact ngB (by omega))).trans h4))
            have cf : (((W.setCell ⟨g2, j * 7 + 1, none⟩ (.int .i64 (x.2.1 - min S (x.2.2.2.2.1)))).setCell ⟨g2, j * 7 + 4, none⟩ (.int .i64 (x.2.2.2.2.1 - min S (x.2.2.2.2.1))))).frozen? ⟨Bl, 0, none⟩ = false := ((World.frozen?_setCell _ _ _ _).trans ((World.frozen?_setCell W _ _ _).trans h3))
            have r1 := seven.rowSet1 H1.out FL.out FG.out (x.2.1 - min S (x.2.2.2.2.1))
            have r2 := seven.rowSet4 r1 (by simpa using FL.out) (seven.getD_set_same FL.out _) (x.2.2.2.2.1 - min S (x.2.2.2.2.1))
            rw [List.set_set] at r2
            refine ⟨((((KeepsOthers.setCell W _ _).trans (KeepsOthers.setCell _ _ _)).trans (KeepsOthers.setCell _ _ _)).trans (KeepsOthers.drew _)).from _, (((rf.Kept.set (p := ⟨g2, j * 7 + 1, none⟩) _ (Nat.lt_of_lt_of_le hg2W (Nat.le_add_right _ _))).trans (rf.Kept.set (p := ⟨g2, j * 7 + 4, none⟩) _ (Nat.lt_of_lt_of_le hg2W (Nat.le_add_right _ _)))).trans (rf.Kept.set (p := ⟨Bl, 0, none⟩) _ (Nat.lt_of_lt_of_le hlW (Nat.le_add_right _ _)))).trans (rf.Kept.drew _ _), ?_, ?_, (World.frozen?_setCell _ _ _ _).trans cf, (World.cell?_setCell_other _ ⟨Bl, 0, none⟩ ⟨Bs, 0, none⟩ _ (fun q => by injection q with q1 q2; exact nsB (by omega))).trans cs, by show g2 < (World.setCell _ _ _).heap.size; simp [World.setCell]; exact h5, (((H7.out.setCell (p := ⟨g2, j * 7 + 1, none⟩) G2.out _).setCell (p := ⟨g2, j * 7 + 4, none⟩) G2.out _).setCell (p := ⟨Bl, 0, none⟩) wsb _).drew⟩
            · rw [FW.out]
              exact (r2.keep (w' := (((W.setCell ⟨g2, j * 7 + 1, none⟩ (.int .i64 (x.2.1 - min S (x.2.2.2.2.1)))).setCell ⟨g2, j * 7 + 4, none⟩ (.int .i64 (x.2.2.2.2.1 - min S (x.2.2.2.2.1)))).setCell ⟨Bl, 0, none⟩ (.int .i64 (S - min S (x.2.2.2.2.1)))).drew) fun _ => Below.heap_setCell _ ⟨Bl, 0, none⟩ _ _ ngs)
            · rw [FS.out]
              exact World.cell?_setCell_same' _ _ _ (by rw [cb]; rfl)
            )
          clear H1 H7 ST
          by_cases t2 : x.2.2.2.2.1 < S
          · have E : min S (x.2.2.2.2.1) = x.2.2.2.2.1 := by omega
            rw [E] at FE
            simp only [Int.sub_self] at FE
            clear E
            gi_wp2_with fail
            gi_region_with (fail)
            all_goals
              gi_wp2
              exact FE.out
          · have E : min S (x.2.2.2.2.1) = S := by omega
            rw [E] at FE
            simp only [Int.sub_self] at FE
            clear E
            gi_wp2_with fail
            gi_region_with (fail)
            all_goals
              gi_wp2
              exact FE.out
      case done =>
        rintro xs W D hD hK hS ⟨h1, h2, h3, h4, h5, h7⟩
        have e0 : n - xs.length = 0 := by have : xs.length = n := hS; omega
        rw [e0] at h1 h2
        clear e0
        have e0 := Lib.hid (show P = pl.bw pl.back m l 0 from YP.out)
        have e1 := Lib.hid (show M = pl.bs pl.back m l 0 from YM.out)
        have H1 := Lib.hid h1
        have H7 := Lib.hid h7
        rw [← e1.out] at h2
        clear h1 h7
        gi_wp2_with fail
        gi_region
        all_goals
          gi_wp2
          refine ⟨by simp, .inl ⟨_, _, rfl, run_takeDeferred (w := W.drew) hK, ?_⟩⟩
          have bk := belowK_b (w := w) (Nat.le_refl _) W.drew D _ (.deferred none) (by omega) hK rfl rfl
          refine ⟨.tuple #[.slice (some ⟨g2, 0, none⟩) n c2, .int .i64 M], ?_, ?_⟩
          · simp [results, Try.f108, go_sem]
          · exact out_yes LP.out ((show Row W.drew (some ⟨g2, 0, none⟩) c2 g2 P from by rw [e0.out]; exact H1.out.keep fun _ => rfl).keep fun _ => World.putObj_heap_other (by omega)) G2.out (by simp; exact h5) (H7.out.drew.trans bk)
      case stop =>
        rintro c pre W D hD hK ⟨rfl, h1, h2, h5, h7⟩
        have e0 := Lib.hid (show P = pl.bw pl.back m l 0 from YP.out)
        have e1 := Lib.hid (show M = pl.bs pl.back m l 0 from YM.out)
        have H1 := Lib.hid h1
        have H7 := Lib.hid h7
        rw [← e1.out] at h2
        clear h1 h7
        gi_wp2_with fail
        gi_region
        all_goals
          gi_wp2
          refine ⟨by simp, .inl ⟨_, _, rfl, run_takeDeferred (w := W.drew) hK, ?_⟩⟩
          have bk := belowK_b (w := w) (Nat.le_refl _) W.drew D _ (.deferred none) (by omega) hK rfl rfl
          refine ⟨.tuple #[.slice (some ⟨g2, 0, none⟩) n c2, .int .i64 M], ?_, ?_⟩
          · simp [results, Try.f108, go_sem]
          · exact out_yes LP.out ((show Row W.drew (some ⟨g2, 0, none⟩) c2 g2 P from by rw [e0.out]; exact H1.out.keep fun _ => rfl).keep fun _ => World.putObj_heap_other (by omega)) G2.out (by simp; exact h5) (H7.out.drew.trans bk)
end Go.Proofs.Ytmaejlfjdkkpdaa.base

namespace Go.Proofs.Ytmaejlfjdkkpdaa.ob
open Go.ChangeShapes Go.WideShapes Go.ChangeAt Go.RowKit
open gen
open seven (F7 zz Row At)
open four (F4)
open pl (inR)
open pls (nth Pls OL)
open ord (Sc iok)
open base (frz_own)
open Go.Shelf
attribute [local go_sem] Oper.semAt_some
set_option maxRecDepth 100000 in
set_option maxHeartbeats 8000000 in
theorem dbI (m : Int) (w : World) (b : Nat) (s : Sc) (ai : Option Addr) (ni ci : Nat) (cp gp : Nat) (p : List (List F7)) (gs cs : Nat → Nat) (hb : OB w b s ai ni ci (some ⟨gp, 0, none⟩) p.length cp) (rp : Pls w (some ⟨gp, 0, none⟩) cp gp p gs cs) (hgp : gp < w.heap.size) (hne : b ≠ gp) (pv : ord.PVs p) (hn : p.length ≤ 8) (hm0 : 0 ≤ m) (hm1 : m ≤ 1000000000000) :
    Calls Try.prog 106 #[.pointer (some ⟨b, 0, none⟩), .int .i64 m, .func (.func 108) #[] #[]] w fun e w' => ∃ gs' cs', e = .returned (.int .i64 (dN pl.back p m)) ∧ Pls w' (some ⟨gp, 0, none⟩) cp gp (dL pl.back p m) gs' cs' ∧ (∀ i, i < p.length → w.heap.size ≤ gs' i) ∧ base.Turned gp w w' := by
  have R := Lib.hid rp
  have PV := Lib.hid pv
  have m1 := rp.room
  have bl := hb.lt
  have SB := Lib.hid (fun k (hk : k ≤ p.length) => dk_bs gd_back hm0 hm1 pv (p.length - k) k (by omega))
  have OBh := Lib.hid hb
  unfold dN dL
  clear rp hb pv
  obtain ⟨n, hnz⟩ : ∃ n, n = p.length := ⟨_, rfl⟩
  rw [← hnz] at hn m1
  have HNZ := Lib.hid hnz
  clear hnz
  refine (callsIn_wide (n := 14)).1 ?_
  have hro : Fence.wide.round = none := rfl
  have hw1 : Fence.wide.fn 118 := trivial
  have hw2 : Fence.wide.fn 108 := trivial
  refine callsIn_of_wp_marks Try.func106 rfl trivial ?_ hro
  simp only [Try.ntmps106, List.size_toArray, List.length_cons, List.length_nil, Nat.reduceAdd, Nat.reduceSub, Array.replicate_succ, Array.replicate_zero, List.push_toArray, List.append_toArray, List.nil_append, List.cons_append]
  have y10 := (OBh.out.keep (w' := (((w.alloc (.cells #[.pointer (some ⟨b, 0, none⟩)] 105)).alloc (.cells #[.func (.func 108) #[] #[]] 92)).alloc (.cells #[.int .i64 m] 2))) (((Below.heap_alloc _ _ _ (by simp; omega)).trans (Below.heap_alloc _ _ _ (by simp; omega))).trans (Below.heap_alloc _ _ _ bl))).c10
  gi_wp2_with fail
  refine (callsIn_wide.2 (base.bwLC _ _ _ _)).mono ?_
  rintro e w3 ⟨rfl, rfl⟩
  gi_wp2_with fail
  obtain ⟨W0, hW0⟩ : ∃ W0, W0 = (((w.alloc (.cells #[.pointer (some ⟨b, 0, none⟩)] 105)).alloc (.cells #[.func (.func 108) #[] #[]] 92)).alloc (.cells #[.int .i64 m] 2)).alloc (.cells #[.slice (some ⟨gp, 0, none⟩) p.length cp] 29) := ⟨_, rfl⟩
  have sz : W0.heap.size = w.heap.size + 1 + 1 + 1 + 1 := by rw [hW0]; simp only [sz_al]
  have BL : Below w.heap.size w W0 := by rw [hW0]; exact bAl (bAl (bAl (bAl (Below.refl _ _) (Nat.le_refl _) _) (Nat.le_refl _) _) (Nat.le_refl _) _) (Nat.le_refl _) _
  have C0 : W0.cell? ⟨w.heap.size, 0, none⟩ = some (.pointer (some ⟨b, 0, none⟩)) := by
    have h := pls.cell_keep (w' := ((((w.alloc (.cells #[.pointer (some ⟨b, 0, none⟩)] 105)).alloc (.cells #[.func (.func 108) #[] #[]] 92)).alloc (.cells #[.int .i64 m] 2)).alloc (.cells #[.slice (some ⟨gp, 0, none⟩) p.length cp] 29))) (box_cell (box_refl w (.cells #[.pointer (some ⟨b, 0, none⟩)] 105)) 0 rfl) ((((Below.heap_alloc (((w.alloc (.cells #[.pointer (some ⟨b, 0, none⟩)] 105)).alloc (.cells #[.func (.func 108) #[] #[]] 92)).alloc (.cells #[.int .i64 m] 2)) _ _ (by simp only [sz_al]; omega)).trans (Below.heap_alloc ((w.alloc (.cells #[.pointer (some ⟨b, 0, none⟩)] 105)).alloc (.cells #[.func (.func 108) #[] #[]] 92)) _ _ (by simp only [sz_al]; omega))).trans (Below.heap_alloc (w.alloc (.cells #[.pointer (some ⟨b, 0, none⟩)] 105)) _ _ (by simp only [sz_al]; omega))))
    skip
    rw [hW0]; exact h
  have C1 : W0.cell? ⟨w.heap.size + 1, 0, none⟩ = some (.func (.func 108) #[] #[]) := by
    have h := pls.cell_keep (w' := ((((w.alloc (.cells #[.pointer (some ⟨b, 0, none⟩)] 105)).alloc (.cells #[.func (.func 108) #[] #[]] 92)).alloc (.cells #[.int .i64 m] 2)).alloc (.cells #[.slice (some ⟨gp, 0, none⟩) p.length cp] 29))) (box_cell (box_refl (w.alloc (.cells #[.pointer (some ⟨b, 0, none⟩)] 105)) (.cells #[.func (.func 108) #[] #[]] 92)) 0 rfl) (((Below.heap_alloc (((w.alloc (.cells #[.pointer (some ⟨b, 0, none⟩)] 105)).alloc (.cells #[.func (.func 108) #[] #[]] 92)).alloc (.cells #[.int .i64 m] 2)) _ _ (by simp only [sz_al]; omega)).trans (Below.heap_alloc ((w.alloc (.cells #[.pointer (some ⟨b, 0, none⟩)] 105)).alloc (.cells #[.func (.func 108) #[] #[]] 92)) _ _ (by simp only [sz_al]; omega))))
    simp only [sz_al] at h
    rw [hW0]; exact h
  have C2 : W0.cell? ⟨w.heap.size + 1 + 1, 0, none⟩ = some (.int .i64 m) := by
    have h := pls.cell_keep (w' := ((((w.alloc (.cells #[.pointer (some ⟨b, 0, none⟩)] 105)).alloc (.cells #[.func (.func 108) #[] #[]] 92)).alloc (.cells #[.int .i64 m] 2)).alloc (.cells #[.slice (some ⟨gp, 0, none⟩) p.length cp] 29))) (box_cell (box_refl ((w.alloc (.cells #[.pointer (some ⟨b, 0, none⟩)] 105)).alloc (.cells #[.func (.func 108) #[] #[]] 92)) (.cells #[.int .i64 m] 2)) 0 rfl) ((Below.heap_alloc (((w.alloc (.cells #[.pointer (some ⟨b, 0, none⟩)] 105)).alloc (.cells #[.func (.func 108) #[] #[]] 92)).alloc (.cells #[.int .i64 m] 2)) _ _ (by simp only [sz_al]; omega)))
    simp only [sz_al] at h
    rw [hW0]; exact h
  have C3 : W0.cell? ⟨w.heap.size + 1 + 1 + 1, 0, none⟩ = some (.slice (some ⟨gp, 0, none⟩) p.length cp) := by
    have h := pls.cell_keep (w' := ((((w.alloc (.cells #[.pointer (some ⟨b, 0, none⟩)] 105)).alloc (.cells #[.func (.func 108) #[] #[]] 92)).alloc (.cells #[.int .i64 m] 2)).alloc (.cells #[.slice (some ⟨gp, 0, none⟩) p.length cp] 29))) (box_cell (box_refl (((w.alloc (.cells #[.pointer (some ⟨b, 0, none⟩)] 105)).alloc (.cells #[.func (.func 108) #[] #[]] 92)).alloc (.cells #[.int .i64 m] 2)) (.cells #[.slice (some ⟨gp, 0, none⟩) p.length cp] 29)) 0 rfl) (rfl)
    simp only [sz_al] at h
    rw [hW0]; exact h
  have F2 : W0.frozen? ⟨w.heap.size + 1 + 1, 0, none⟩ = false := by
    have h : ((((w.alloc (.cells #[.pointer (some ⟨b, 0, none⟩)] 105)).alloc (.cells #[.func (.func 108) #[] #[]] 92)).alloc (.cells #[.int .i64 m] 2)).alloc (.cells #[.slice (some ⟨gp, 0, none⟩) p.length cp] 29)).frozen? ⟨((w.alloc (.cells #[.pointer (some ⟨b, 0, none⟩)] 105)).alloc (.cells #[.func (.func 108) #[] #[]] 92)).heap.size, 0, none⟩ = false := by rw [World.frozen?_of_block (w := (((w.alloc (.cells #[.pointer (some ⟨b, 0, none⟩)] 105)).alloc (.cells #[.func (.func 108) #[] #[]] 92)).alloc (.cells #[.int .i64 m] 2))) (a := ⟨((w.alloc (.cells #[.pointer (some ⟨b, 0, none⟩)] 105)).alloc (.cells #[.func (.func 108) #[] #[]] 92)).heap.size, 0, none⟩) (Below.heap_alloc (((w.alloc (.cells #[.pointer (some ⟨b, 0, none⟩)] 105)).alloc (.cells #[.func (.func 108) #[] #[]] 92)).alloc (.cells #[.int .i64 m] 2)) _ _ (by simp only [sz_al]; omega))]; exact World.frozen?_alloc_new _ _ _ 0
    simp only [sz_al] at h
    rw [hW0]; exact h
  have O10 := (OBh.out.keep (BL.block b bl)).c10
  rw [← HNZ.out] at C3 O10 hW0
  try rw [← HNZ.out]
  rw [← hW0]
  have P0 := Lib.hid (R.out.below BL)
  have T0 := Lib.hid (pls.Turned.of (base.Turned.refl gp w) BL (Nat.le_of_lt hgp))
  obtain ⟨Bo, hBo⟩ : ∃ Bo, Bo = w.heap.size := ⟨_, rfl⟩
  obtain ⟨Bf, hBf⟩ : ∃ Bf, Bf = w.heap.size + 1 := ⟨_, rfl⟩
  obtain ⟨Bl, hBl⟩ : ∃ Bl, Bl = w.heap.size + 1 + 1 := ⟨_, rfl⟩
  obtain ⟨Bs, hBs⟩ : ∃ Bs, Bs = w.heap.size + 1 + 1 + 1 := ⟨_, rfl⟩
  rw [← hBs] at C3
  rw [← hBl] at C2 F2
  rw [← hBf] at C1
  rw [← hBo] at C0
  rw [← hBs]
  rw [← hBl]
  rw [← hBf]
  rw [← hBo]
  have nb1 : gp < Bo := by omega
  have nb2 : Bo < Bf := by omega
  have nb3 : Bf < Bl := by omega
  have nb4 : Bl < Bs := by omega
  have nb5 : Bs < W0.heap.size := by omega
  have nb6 : b < Bo := by omega
  have nb7 : w.heap.size ≤ Bo := by omega
  have nb8 : w.heap.size < W0.heap.size := by omega
  have D0 : DI w W0 b gp cp n Bo Bf Bl Bs (.func (.func 108) #[] #[]) (wk.bw (stD pl.back) m p (n - 0)) (wk.bs (stD pl.back) m p (n - 0)) (n - 0) gs gs cs W0 := by
    rw [Nat.sub_zero, HNZ.out, wk.bw_all, wk.bs_all, ← HNZ.out]
    exact ⟨P0.out, C2, F2, C0, C1, C3, O10, T0.out, Nat.le_refl _, fun j h1 h2 => by omega, fun _ _ _ => rfl⟩
  clear C0 C1 C2 C3 F2 O10 hW0 hBs hBl hBf hBo sz BL P0 T0
  refine rf.rangeK hro (by omega) (gf := 125) (lb := #[.pointer (some ⟨Bs, 0, none⟩)]) rfl trivial (enters_of Try.func125 (by kernel_rfl) rfl)
    (base.bwPl 13 (by omega) gp Bs n cp (by omega)) (fun _ => rfl)
    (fun pre W => ∃ gs3 cs3, DI w W0 b gp cp n Bo Bf Bl Bs (.func (.func 108) #[] #[]) (wk.bw (stD pl.back) m p (n - pre.length)) (wk.bs (stD pl.back) m p (n - pre.length)) (n - pre.length) gs gs3 cs3 W)
    (fun _ _ _ => False)
    (fun x a' W => a' = { tmps := #[.pointer (some ⟨b, 0, none⟩), .int .i64 m, .func (.func 108) #[] #[], .pointer (some ⟨Bo, 0, none⟩), undef, .pointer (some ⟨Bf, 0, none⟩), .int .i64 0, .pointer (some ⟨Bl, 0, none⟩), .int .i64 (x.1 : Int), undef, .int .i64 m, .pointer (some ⟨b, 0, none⟩), .pointer (some ⟨b, 0, none⟩), .pointer (some ⟨b, 10, none⟩), .slice (some ⟨gp, 0, none⟩) n cp, .func (.func 125) #[] #[.pointer (some ⟨Bs, 0, none⟩)], .int .i64 (x.1 : Int), .agg #[x.2], undef, undef, undef, undef, undef, undef, undef, undef, undef, undef, undef, undef, undef, undef, undef, undef, undef, undef, undef, undef], defers := [] })
    (fun s A B row hs hg hr => by obtain ⟨gs3, cs3, h⟩ := hs; exact ⟨gs3, cs3, h.own hg (Nat.le_of_lt (Nat.lt_trans nb1 (by omega))) (Nat.le_of_lt nb8) hr⟩)
    (fun c s A B row hs hg hr => hs.elim)
    (fun x a' s A B row hs _ _ => hs)
    (fun pre W h => by obtain ⟨gs3, cs3, h⟩ := h; exact ⟨h.bs, fun i hi => ⟨_, h.pl.cells i (by rw [wk.bw_len, ← HNZ.out]; omega)⟩⟩)
    ⟨gs, cs, D0⟩ ?assign ?body ?done ?stop
  case assign =>
    rintro lp pre x W K hI hV hK
    dsimp only [base.encL]
    gi_wp2
    exact hK _ _ (KeepsFrom.refl _ _) (rf.Kept.refl _ _) hI rfl
  case body =>
    rintro lp pre x a' W ⟨gs3, cs3, h⟩ hV rfl
    replace hV : x.1 + 1 + pre.length = n := hV
    obtain ⟨j, hj⟩ : ∃ j, j = x.1 := ⟨_, rfl⟩
    rw [← hj] at hV ⊢
    have ek : n - pre.length = j + 1 := by omega
    have EK2 := Lib.hid (show n - (pre ++ [x]).length = j from by simp; omega)
    rw [ek] at h
    have hk : j + 1 ≤ n := by omega
    obtain ⟨s0, s1⟩ := SB.out (j + 1) (by rw [← HNZ.out]; exact hk)
    have HLT := Lib.hid (show j < p.length from by rw [← HNZ.out]; exact hk)
    have FS0 := wk.bs_succ [] (stD pl.back) m HLT.out
    have FW0 := wk.bw_succ [] (stD pl.back) m HLT.out
    have FG : nth (wk.bw (stD pl.back) m p (j + 1)) j = nth p j := wk.bw_get [] (stD pl.back) m HLT.out
    have FL := Lib.hid (show j < (wk.bw (stD pl.back) m p (j + 1)).length from by rw [wk.bw_len]; exact HLT.out)
    have q1 := h.pl.cells j FL.out
    have q2 := h.pl.rows j FL.out
    rw [FG] at q1 q2
    obtain ⟨OK, -, -⟩ := dk_in (g := pl.back) gd_back (show pl.pv (nth p j) = true from PV.out j HLT.out) s0 (by omega)
    obtain ⟨S, hS⟩ : ∃ S, S = wk.bs (stD pl.back) m p (j + 1) := ⟨_, rfl⟩
    rw [← hS] at FS0 FW0 s0 s1 OK h
    have C := base.bkI S W.drew (cs3 j) (gs3 j) (nth p j) (q2.keep fun _ => rfl) (Nat.le_trans (show (nth p j).length ≤ 24 from (pl.pv_iff.1 (PV.out j HLT.out)).1) (by omega))
    obtain ⟨P, hP⟩ : ∃ P, P = base.bkL pl.back (nth p j) S := ⟨_, rfl⟩
    obtain ⟨M, hM⟩ : ∃ M, M = base.bkN pl.back (nth p j) S := ⟨_, rfl⟩
    have FS : wk.bs (stD pl.back) m p j = M := FS0.trans hM.symm
    have FW : wk.bw (stD pl.back) m p j = (wk.bw (stD pl.back) m p (j + 1)).set j P := FW0.trans (by rw [hP]; rfl)
    rw [← hP, ← hM, OK] at C
    have CH := Lib.hid C
    have H := Lib.hid h
    have y10 := h.b10
    have yo := h.bo
    have yf := h.bf
    have yl := h.lf
    have FSh := Lib.hid FS
    have FWh := Lib.hid FW
    have HJ := Lib.hid hj
    clear C h FS0 FW0 FS FW hP hM hS OK FG q2 hj ek
    generalize (nth p j).length = ln at q1 CH
    generalize hgk : gs3 j = gk at q1 CH
    generalize cs3 j = ck at q1 CH
    have HGK := Lib.hid hgk
    clear hgk
    have z0 : (0 : Int) ≤ (j : Int) := by omega
    have z1 : (j : Int) < (n : Int) := by omega
    have mixed : Try.prog.follows .mixedOrders = true := Try.checked.mixed
    gi_wp2_with fail
    have DBH := Lib.hid (show DB w W0 b gp Bo Bf Bl Bs from ⟨hgp, hne, nb7, nb2, nb3, nb4, nb5, nb6⟩)
    have zW := H.out.sz
    have HLTW := Lib.hid H.out.pl.lt
    have PL0 := Lib.hid (show (wk.bw (stD pl.back) m p (j + 1)).length = n from by rw [wk.bw_len]; exact HNZ.out.symm)
    have nlg : Bl ≠ gp := by omega
    have ngl : gp ≠ Bl := by omega
    clear D0 nb1 nb2 nb3 nb4 nb7
    refine wpIn_region_any mixed (st.anyIn (by kernel_rfl) (fun ⟨_, _, h⟩ => h) _ _ _ _ ?_)
    change wpAny _ _ _ _ _ _ _ W.drew
    refine wpAny_take (i := 0) (oi := { dst := some 25, op := Op.move (Operand.tmp 9), type := 112, pos := "l06_orders.go:231", after := #[], guard := none }) (v := .pointer (some ⟨gp, j, none⟩)) rfl (by kernel_rfl) (by kernel_rfl) (by kernel_rfl) (fun _ _ _ h => h) (Or.inl ⟨by rfl, fun w2 => by go_simp⟩) ?_
    simp only [Act.put, List.setIfInBounds_toArray, List.set_cons_zero, List.set_cons_succ]
    refine wpAny_take (i := 2) (oi := { dst := some 27, op := Op.move (Operand.tmp 9), type := 112, pos := "l06_orders.go:231", after := #[], guard := none }) (v := .pointer (some ⟨gp, j, none⟩)) rfl (by kernel_rfl) (by kernel_rfl) (by kernel_rfl) (fun _ _ _ h => h) (Or.inl ⟨by rfl, fun w2 => by go_simp⟩) ?_
    simp only [Act.put, List.setIfInBounds_toArray, List.set_cons_zero, List.set_cons_succ]
    refine wpAny_take (i := 3) (oi := { dst := some 28, op := Op.nilCheck (Operand.tmp 27), type := 0, pos := "l06_orders.go:231", after := #[{ on := 2, ground := Ground.data }], guard := none }) (v := .pointer (some ⟨gp, j, none⟩)) rfl (by kernel_rfl) (by kernel_rfl) (by kernel_rfl) (fun _ _ _ h => h) (Or.inl ⟨by rfl, fun w2 => by go_simp⟩) ?_
    simp only [Act.put, List.setIfInBounds_toArray, List.set_cons_zero, List.set_cons_succ]
    refine wpAny_take (i := 4) (oi := { dst := some 29, op := Op.fieldAddr 62 (Operand.tmp 28) 0, type := 0, pos := "l06_orders.go:231", after := #[{ on := 3, ground := Ground.data }], guard := none }) (v := .pointer (some ⟨gp, j, none⟩)) rfl (by kernel_rfl) (by kernel_rfl) (by kernel_rfl) (fun _ _ _ h => h) (Or.inl ⟨by rfl, fun w2 => by go_simp⟩) ?_
    simp only [Act.put, List.setIfInBounds_toArray, List.set_cons_zero, List.set_cons_succ]
    refine st.three (i := 1) (j := 5) (k := 6) (oi := { dst := some 26, op := Op.load 92 (Operand.tmp 5), type := 92, pos := "l06_orders.go:231", after := #[], guard := none }) (oj := { dst := some 30, op := Op.load 60 (Operand.tmp 29), type := 60, pos := "l06_orders.go:231", after := #[{ on := 4, ground := Ground.data }], guard := none }) (ok := { dst := some 31, op := Op.load 2 (Operand.tmp 7), type := 2, pos := "l06_orders.go:231", after := #[], guard := none }) (u := .func (.func 108) #[] #[]) (v := .slice (some ⟨gk, 0, none⟩) ln ck) (x := .int .i64 S) (by kernel_rfl) rfl rfl rfl (Or.inl ⟨by rfl, Or.inl (by go_simp)⟩) (Or.inl ⟨by rfl, Or.inl (by go_simp)⟩) (Or.inl ⟨by rfl, Or.inl (by go_simp)⟩) (by kernel_rfl) (by kernel_rfl) (by kernel_rfl) (by kernel_rfl) (by kernel_rfl) (by kernel_rfl) (by decide) (by decide) (by decide) (by kernel_rfl) (by kernel_rfl) (by kernel_rfl) (by kernel_rfl) (by kernel_rfl) (by kernel_rfl) (by kernel_rfl) ?_
    simp only [Act.put, List.setIfInBounds_toArray, List.set_cons_zero, List.set_cons_succ]
    refine wpAny_ready (rs := [7]) (by kernel_rfl) (by simp) ?_
    refine AllReady.cons rfl (fun K hK => ?_) AllReady.nil
    go_simp
    refine CH.out.mono ?_
    rintro e w1 ⟨a1, c1, g1, rfl, r1, -, b1, o1⟩
    obtain ⟨rfl, l1, k1⟩ := o1 rfl
    have N1 := Lib.hid ((H.out.below (Below.refl W.heap.size W).drew (Nat.le_of_lt (Nat.lt_trans hgp nb8))).below b1 (Nat.le_of_lt (Nat.lt_trans hgp nb8)))
    have R1 := Lib.hid r1
    have B1 := Lib.hid b1
    have L1 := Lib.hid l1
    have K1 := Lib.hid k1
    have cc := N1.out.pl.cells j FL.out
    have ff := N1.out.pl.free (Nat.lt_of_le_of_lt (Nat.zero_le _) FL.out) j
    have cl := N1.out.lf
    have fl := N1.out.fz
    clear o1 l1 k1 r1 b1
    refine hK _ _ ?_
    clear hK K
    refine wpAny_take (i := 8) (oi := { dst := some 24, op := Op.move (Operand.tmp 32), type := 88, pos := "l06_orders.go:231", after := #[{ on := 7, ground := Ground.data }], guard := none }) (v := .tuple #[.slice (some ⟨g1, 0, none⟩) P.length c1, .int .i64 M]) rfl (by kernel_rfl) (by kernel_rfl) (by kernel_rfl) (fun _ _ _ h => h) (Or.inl ⟨by rfl, fun w2 => by go_simp⟩) ?_
    simp only [Act.put, List.setIfInBounds_toArray, List.set_cons_zero, List.set_cons_succ]
    refine wpAny_take (i := 9) (oi := { dst := some 33, op := Op.extract (Operand.tmp 24) 0, type := 60, pos := "l06_orders.go:231", after := #[{ on := 8, ground := Ground.data }], guard := none }) (v := .slice (some ⟨g1, 0, none⟩) P.length c1) rfl (by kernel_rfl) (by kernel_rfl) (by kernel_rfl) (fun _ _ _ h => h) (Or.inl ⟨by rfl, fun w2 => by go_simp⟩) ?_
    simp only [Act.put, List.setIfInBounds_toArray, List.set_cons_zero, List.set_cons_succ]
    refine wpAny_take (i := 10) (oi := { dst := some 34, op := Op.extract (Operand.tmp 24) 1, type := 2, pos := "l06_orders.go:231", after := #[{ on := 8, ground := Ground.data }, { on := 13, ground := Ground.gcOnly Departure.lateStores }], guard := none }) (v := .int .i64 M) rfl (by kernel_rfl) (by kernel_rfl) (by kernel_rfl) (fun _ _ _ h => h) (Or.inl ⟨by rfl, fun w2 => by go_simp⟩) ?_
    simp only [Act.put, List.setIfInBounds_toArray, List.set_cons_zero, List.set_cons_succ]
    refine wpAny_take (i := 11) (oi := { dst := some 35, op := Op.nilCheck (Operand.tmp 25), type := 0, pos := "l06_orders.go:231", after := #[{ on := 0, ground := Ground.data }, { on := 0, ground := Ground.phase }, { on := 1, ground := Ground.phase }, { on := 2, ground := Ground.phase }, { on := 3, ground := Ground.phase }, { on := 4, ground := Ground.phase }, { on := 5, ground := Ground.phase }, { on := 6, ground := Ground.phase }, { on := 7, ground := Ground.phase }, { on := 8, ground := Ground.phase }, { on := 9, ground := Ground.phase }, { on := 10, ground := Ground.textOnly Departure.lateStores }], guard := none }) (v := .pointer (some ⟨gp, j, none⟩)) rfl (by kernel_rfl) (by kernel_rfl) (by kernel_rfl) (fun _ _ _ h => h) (Or.inl ⟨by rfl, fun w2 => by go_simp⟩) ?_
    simp only [Act.put, List.setIfInBounds_toArray, List.set_cons_zero, List.set_cons_succ]
    refine wpAny_take (i := 12) (oi := { dst := some 36, op := Op.fieldAddr 62 (Operand.tmp 35) 0, type := 0, pos := "l06_orders.go:231", after := #[{ on := 11, ground := Ground.data }, { on := 0, ground := Ground.phase }, { on := 1, ground := Ground.phase }, { on := 2, ground := Ground.phase }, { on := 3, ground := Ground.phase }, { on := 4, ground := Ground.phase }, { on := 5, ground := Ground.phase }, { on := 6, ground := Ground.phase }, { on := 7, ground := Ground.phase }, { on := 8, ground := Ground.phase }, { on := 9, ground := Ground.phase }, { on := 10, ground := Ground.textOnly Departure.lateStores }], guard := none }) (v := .pointer (some ⟨gp, j, none⟩)) rfl (by kernel_rfl) (by kernel_rfl) (by kernel_rfl) (fun _ _ _ h => h) (Or.inl ⟨by rfl, fun w2 => by go_simp⟩) ?_
    simp only [Act.put, List.setIfInBounds_toArray, List.set_cons_zero, List.set_cons_succ]
    refine wpAny_ready (rs := [13]) (by kernel_rfl) (by simp) ?_
    refine AllReady.cons rfl (fun K hK => ?_) AllReady.nil
    go_simp
    refine hK _ _ ?_
    clear hK K
    refine wpAny_ready (rs := [14]) (by kernel_rfl) (by simp) ?_
    refine AllReady.cons rfl (fun K hK => ?_) AllReady.nil
    go_simp
    refine hK _ _ ?_
    clear hK K
    refine wpAny_done (by kernel_rfl) ?_ _
    have ST := N1.out.step PL0.out hk R1.out (Nat.le_trans zW L1.out) (fun i hi e => by have := HLTW.out i (by rw [PL0.out]; exact hi); have := L1.out; have hd : W.drew.heap.size = W.heap.size := rfl; omega) K1.out DBH.out (fun i hi => R.out.lt i (by rw [← HNZ.out]; exact hi)) M
    have KK : rf.Kept W0.heap.size W ((w1.setCell ⟨gp, j, none⟩ (.slice (some ⟨g1, 0, none⟩) P.length c1)).setCell ⟨Bl, 0, none⟩ (.int .i64 M)) :=
      ((rf.Kept.trans (show rf.Kept W0.heap.size W w1 from ⟨B1.out.size, fun k _ hl => B1.out.block k hl⟩) (rf.Kept.set (p := ⟨gp, j, none⟩) _ (show gp < W0.heap.size by have := DBH.out.h7; omega))).trans (rf.Kept.set (p := ⟨Bl, 0, none⟩) _ (show Bl < W0.heap.size by have := DBH.out.h6; have := DBH.out.h7; omega)))
    rw [← FWh.out] at ST
    have FE := Lib.hid (show KeepsFrom W0.heap.size W _ ∧ rf.Kept (W0.heap.size + 2) W _ ∧ ∃ gs3 cs3, DI w W0 b gp cp n Bo Bf Bl Bs (.func (.func 108) #[] #[]) (wk.bw (stD pl.back) m p (n - (pre ++ [x]).length)) (wk.bs (stD pl.back) m p (n - (pre ++ [x]).length)) (n - (pre ++ [x]).length) gs gs3 cs3 _ from ⟨KK.from, KK.mono (by omega), _, _, by rw [EK2.out, FSh.out]; exact ST⟩)
    clear ST KK cc ff cl fl
    gi_wp2
    exact FE.out
  case done =>
    rintro xs W D hD hK hS ⟨gs3, cs3, h⟩
    have e0 : n - xs.length = 0 := by have : xs.length = n := hS; omega
    rw [e0] at h
    clear e0
    have OF : OwnFrom W0.heap.size (fun (_ : Unit) W => DI w W0 b gp cp n Bo Bf Bl Bs (.func (.func 108) #[] #[]) (wk.bw (stD pl.back) m p 0) (wk.bs (stD pl.back) m p 0) 0 gs gs3 cs3 W) := fun _ A B row hs hg hr => hs.own hg (Nat.le_of_lt (Nat.lt_trans nb1 (by omega))) (Nat.le_of_lt nb8) hr
    have H := Lib.hid (OF.putObj (s := ()) (.deferred none) h hD hK rfl)
    have yl := h.lf
    clear h OF D0
    gi_wp2_with fail
    refine ⟨by simp, .inl ⟨_, _, rfl, run_takeDeferred (w := W) hK, ?_⟩⟩
    refine ⟨.int .i64 (wk.bs (stD pl.back) m p 0), ?_, gs3, cs3, rfl, H.out.pl, fun i hi => Nat.le_trans (Nat.le_of_lt nb8) (H.out.g1 i (by rw [HNZ.out]; exact hi) (Nat.zero_le _)), H.out.tu⟩
    simp [results, Try.f106, go_sem]
  case stop =>
    rintro c pre W D hD hK h
    exact h.elim
end Go.Proofs.Ytmaejlfjdkkpdaa.ob

namespace Go.Proofs.Ytmaejlfjdkkpdaa.ob
open Go.ChangeShapes Go.WideShapes Go.ChangeAt Go.RowKit
open gen
open seven (F7 zz Row At)
open four (F4)
open pl (inR)
open pls (nth Pls OL)
open ord (Sc iok)
set_option maxRecDepth 40000 in
set_option maxHeartbeats 4000000 in
theorem tkI (m : Int) (w : World) (b : Nat) (s : Sc) (ai : Option Addr) (ni ci : Nat) (cp gp : Nat) (p : List (List F7)) (gs cs : Nat → Nat) (hb : OB w b s ai ni ci (some ⟨gp, 0, none⟩) p.length cp) (rp : Pls w (some ⟨gp, 0, none⟩) cp gp p gs cs) (hgp : gp < w.heap.size) (hne : b ≠ gp) (pv : ord.PVs p) (hn : p.length ≤ 8) (hm0 : 0 ≤ m) (hm1 : m ≤ 1000000000000) (hm2 : m ≤ (ord.ps p p.length).2.1) :
    Calls Try.prog 72 #[.pointer (some ⟨b, 0, none⟩), .int .i64 m] w fun e w' => ∃ gs' cs', e = .returned (.int .i64 (tkN p m)) ∧ Pls w' (some ⟨gp, 0, none⟩) cp gp (tkL p m) gs' cs' ∧ (∀ i, i < p.length → w.heap.size ≤ gs' i) ∧ base.Turned gp w w' := by
  have C1 := dcI m w b s ai ni ci cp gp p gs cs hb rp hgp hne pv hn hm0 hm1
  obtain ⟨n0, n1⟩ := dN_in gd_cut hm0 hm1 pv
  have NZ := tk_none pv hm0 hm1 hm2
  have OBh := Lib.hid hb
  have C2 := Lib.hid (fun w1 gs1 cs1 (h : OB w1 b s ai ni ci (some ⟨gp, 0, none⟩) p.length cp) (r : Pls w1 (some ⟨gp, 0, none⟩) cp gp (dL pl.cut p m) gs1 cs1) (hg : gp < w1.heap.size) => dbI (dN pl.cut p m) w1 b s ai ni ci cp gp (dL pl.cut p m) gs1 cs1 (by rw [dL_len]; exact h) r hg hne (PVs_cut pv hm0 hm1) (by rw [dL_len]; exact hn) n0 (by omega))
  rw [NZ] at C2
  have bl := hb.lt
  unfold tkN tkL
  clear hb rp NZ pv hm2
  go_enter Try.func72, Try.ntmps72
  go_wp2_with fail
  refine C1.mono ?_
  rintro e w1 ⟨gs1, cs1, rfl, r1, f1, T1⟩
  have z1 := T1.1.size
  have O1 := OBh.out.keep (T1.2 b hne bl)
  have CC := C2.out w1 gs1 cs1 O1 r1 (by have := T1.1.size; have := r1.plt; omega)
  have TH := Lib.hid T1
  clear C1 C2 r1 f1 T1 O1
  obtain ⟨M, hM⟩ : ∃ M, M = dN pl.cut p m := ⟨_, rfl⟩
  rw [← hM] at CC n0 n1 ⊢
  have HM := Lib.hid hM
  clear hM
  have m0 : M ≤ 1000000000000 := by omega
  clear n1 hm0 hm1
  go_wp2_with fail
  refine CC.mono ?_
  rintro e w2 ⟨gs2, cs2, rfl, r2, f2, T2⟩
  have T3 := Lib.hid (pls.Turned.trans TH.out T2)
  have R2 := Lib.hid r2
  have F2 := Lib.hid (show ∀ i, i < p.length → w.heap.size ≤ gs2 i from fun i hi => Nat.le_trans z1 (f2 i (by rw [dL_len]; exact hi)))
  clear r2 f2 T2 CC
  go_wp2_with fail
  go_ret
  exact ⟨gs2, cs2, by rw [← HM.out]; first | rfl | simp, by rw [← HM.out]; exact R2.out, F2.out, T3.out⟩
end Go.Proofs.Ytmaejlfjdkkpdaa.ob
