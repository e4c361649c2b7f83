/-
  Plain helpers of this seat's proofs: the contract of the landed BackPlan. Conditions: none.
-/
import Derived.Test.YtmnmijiikjpdnaaBi
import Derived.Test.YtmnmijiikjpdnaaPy
import Derived.Test.YtmnmijiikjpdnaaRw7
import Derived.Test.YtmnmijiikjpdnaaOut
import Derived.Test.YtmnmijiikjpdnaaPkI
import Derived.Test.YtmnmijiikjpdnaaSt
import Derived.RangeFuncNested
import Derived.RangeFuncBound
import Derived.RangeFuncCalls
import Derived.RangeFuncLeaves
import Derived.Shelf.Abstract
import Derived.Shelf.AbstractIn
import Derived.Shelf.RegionOpen
import Derived.OwnWalkIn
import Derived.TacticsInMore
import Derived.LoopNIn
import Derived.LoopIn
import Derived.Stop.RegionWithIn
import Derived.BigRegionIn
namespace Go.Proofs.Ytmnmijiikjpdnaa.base
open Go.ChangeShapes Go.WideShapes Go.ChangeAt Go.RowKit
open seven (F7 zz Row At)
open pl (inR prOk pok)
open gen
open Go.Shelf
attribute [local go_sem] Oper.semAt_some
set_option maxRecDepth 100000 in
set_option maxHeartbeats 8000000 in
theorem bkI (m : Int) (w : World) (cap g : Nat) (l : List F7) (r : Row w (some ⟨g, 0, none⟩) cap g l) (hn : l.length ≤ 1048577) : Calls Try.prog 28 #[.slice (some ⟨g, 0, none⟩) l.length cap, .int .i64 m] w (Out w (bkL pl.back l m) (bkN pl.back l m)) := by
  obtain ⟨P, hP⟩ : ∃ P, P = bkL pl.back l m := ⟨_, rfl⟩
  obtain ⟨M, hM⟩ : ∃ M, M = bkN pl.back l m := ⟨_, rfl⟩
  rw [← hP, ← hM]
  have HP := Lib.hid hP
  have HM := Lib.hid hM
  clear hP hM
  have GL := Lib.hid (fun h : 0 < l.length => r.lt h)
  have C := Lib.hid (pkI w (some ⟨g, 0, none⟩) cap g l r hn)
  have R := Lib.hid r
  have CU := Lib.hid (fun w1 => usI m w1)
  have CP := Lib.hid (fun w1 (h : Row w1 (some ⟨g, 0, none⟩) cap g l) => seven.cpI w1 g cap l h hn)
  clear r
  obtain ⟨n, hnz⟩ : ∃ n, n = l.length := ⟨_, rfl⟩
  rw [← hnz] at hn C CP ⊢
  have HNZ := Lib.hid hnz
  clear hnz
  refine (callsIn_wide (n := 9)).1 ?_
  have hro : Fence.wide.round = none := rfl
  have hw1 : Fence.wide.fn 26 := trivial
  have hw2 : Fence.wide.fn 45 := trivial
  have hw3 : Fence.wide.fn 46 := trivial
  have hw4 : Fence.wide.fn 48 := trivial
  refine callsIn_of_wp_marks Try.func28 rfl trivial ?_ hro
  simp only [Try.ntmps28, List.size_toArray, List.length_cons, List.length_nil, Nat.reduceAdd, Nat.reduceSub, Array.replicate_succ, Array.replicate_zero, List.push_toArray, List.append_toArray, List.nil_append, List.cons_append]
  gi_wp2_with fail
  refine (callsIn_wide.2 C.out).mono ?_
  rintro e w1 ⟨rfl, b1⟩
  have BN := Lib.hid b1
  have R1 := Lib.hid (R.out.keep (w' := w1) fun h => b1.block g (GL.out h))
  clear b1 R C
  cases hv : pl.pv l with
  | false =>
    have NOL := Lib.hid (HP.out.trans (bk_no (by unfold pyOk; rw [hv]; rfl)).1)
    have NON := Lib.hid (HM.out.trans (bk_no (by unfold pyOk; rw [hv]; rfl)).2)
    clear hv
    gi_wp2
    refine ⟨.tuple #[.slice none 0 0, .int .i64 0], ?_, out_no NOL.out NON.out BN.out⟩
    simp [results, Try.f28, go_sem]
  | true =>
    have HV := Lib.hid hv
    have PVH := Lib.hid (pl.pv_iff.1 hv)
    clear hv
    cases hd : inR m 0 1000000000000 with
    | false =>
      rw [hd] at CU
      have NOL := Lib.hid (HP.out.trans (bk_no (by unfold pyOk; rw [HV.out, hd]; rfl)).1)
      have NON := Lib.hid (HM.out.trans (bk_no (by unfold pyOk; rw [HV.out, hd]; rfl)).2)
      clear hd
      gi_wp2_with fail
      refine (callsIn_wide.2 (CU.out _)).mono ?_
      rintro e w' ⟨rfl, rfl⟩
      gi_wp2
      refine ⟨.tuple #[.slice none 0 0, .int .i64 0], ?_, out_no NOL.out NON.out BN.out⟩
      simp [results, Try.f28, go_sem]
    | true =>
      rw [hd] at CU
      have YP := Lib.hid (HP.out.trans (bk_yes (by unfold pyOk; rw [HV.out, hd]; rfl)).1)
      have YM := Lib.hid (HM.out.trans (bk_yes (by unfold pyOk; rw [HV.out, hd]; rfl)).2)
      obtain ⟨m0, m1⟩ := pl.inR_iff.1 hd
      clear hd
      have hn24 : n ≤ 24 := by rw [HNZ.out]; exact PVH.out.1
      have SB := Lib.hid (fun k hk => bs_b (f := pl.back) (fun x m hx hm => back_b hx hm) (l := l) (fun i hi => PVH.out.pin (i := i) hi) m0 (k := k) hk)
      gi_wp2_with fail
      refine (callsIn_wide.2 (CU.out _)).mono ?_
      rintro e w' ⟨rfl, rfl⟩
      gi_wp2_with fail
      refine (callsIn_wide.2 (CP.out w1 R1.out)).mono ?_
      rintro e w2 ⟨v, rfl, c2, g2, hv2, r2, l2, k2, b2⟩
      rw [← HNZ.out] at hv2
      subst hv2
      have R2 := Lib.hid r2
      have B2 := Lib.hid (BN.out.trans (b2.mono BN.out.size))
      have G2 := Lib.hid (Nat.le_trans BN.out.size l2)
      clear r2 b2
      gi_wp2_with fail
      refine (callsIn_wide.2 (bwC _ _ _ _)).mono ?_
      rintro e w3 ⟨rfl, rfl⟩
      gi_wp2_with fail
      obtain ⟨W0, hW0⟩ : ∃ W0, W0 = (w2.alloc (.cells #[.int .i64 m] 2)).alloc (.cells #[.slice (some ⟨g2, 0, none⟩) n c2] 24) := ⟨_, rfl⟩
      have sz : W0.heap.size = w2.heap.size + 2 := by rw [hW0]; simp
      have al1 := Below.heap_alloc w2 (.cells #[.int .i64 m] 2)
      have al2 := Below.heap_alloc (w2.alloc (.cells #[.int .i64 m] 2)) (.cells #[.slice (some ⟨g2, 0, none⟩) n c2] 24)
      have R0 := Lib.hid (show Row W0 (some ⟨g2, 0, none⟩) c2 g2 (pl.bw pl.back m l (n - 0)) from by
        rw [Nat.sub_zero, HNZ.out, pl.bw_all]
        exact R2.out.keep fun _ => by rw [hW0]; exact (al2 g2 (by simp; omega)).trans (al1 g2 k2))
      have LB := Lib.hid (show W0.cell? ⟨w2.heap.size, 0, none⟩ = some (.int .i64 (pl.bs pl.back m l (n - 0))) from by
        rw [Nat.sub_zero, HNZ.out, pl.bs_all]
        rw [hW0, World.cell?_of_block (w := w2.alloc (.cells #[.int .i64 m] 2)) (a := ⟨w2.heap.size, 0, none⟩) (al2 _ (by simp))]
        exact box_cell (box_refl w2 _) 0 rfl)
      have LF := Lib.hid (show W0.frozen? ⟨w2.heap.size, 0, none⟩ = false from by
        rw [hW0, World.frozen?_of_block (w := w2.alloc (.cells #[.int .i64 m] 2)) (a := ⟨w2.heap.size, 0, none⟩) (al2 _ (by simp))]
        exact World.frozen?_alloc_new w2 _ _ 0)
      have HB := Lib.hid (show W0.cell? ⟨w2.heap.size + 1, 0, none⟩ = some (.slice (some ⟨g2, 0, none⟩) n c2) from by
        have := box_cell (box_refl (w2.alloc (.cells #[.int .i64 m] 2)) (.cells #[.slice (some ⟨g2, 0, none⟩) n c2] 24)) 0 rfl
        rw [World.size_alloc] at this
        rw [hW0]; exact this)
      have BW := Lib.hid (show Below w.heap.size w W0 from by rw [hW0]; exact (B2.out.alloc B2.out.size _).alloc (by simp; have := B2.out.size; omega) _)
      have hws : w.heap.size ≤ w2.heap.size := B2.out.size
      rw [← hW0]
      obtain ⟨Bl, hBl⟩ : ∃ Bl, Bl = w2.heap.size := ⟨_, rfl⟩
      obtain ⟨Bs, hBs⟩ : ∃ Bs, Bs = w2.heap.size + 1 := ⟨_, rfl⟩
      rw [← hBl] at LB LF
      rw [← hBs] at HB
      try rw [← hBs]
      try rw [← hBl]
      have wsb : w.heap.size ≤ Bl := by omega
      have nsB : Bs ≠ Bl := by omega
      have ngs : g2 ≠ Bl := by omega
      have ngB : Bs ≠ g2 := by omega
      have hg2W : g2 < W0.heap.size := by omega
      have hlW : Bl < W0.heap.size := by omega
      have hwW : w.heap.size ≤ W0.heap.size := by omega
      have LP := Lib.hid (show P.length = n from by rw [YP.out, pl.bw_len, HNZ.out])
      clear hW0 hBl hBs al1 al2 k2 l2 B2 R2 sz hws
      refine rf.rangeK hro (by omega) (gf := 66) (lb := #[.pointer (some ⟨Bs, 0, none⟩)]) rfl trivial (enters_of Try.func66 (by kernel_rfl) rfl)
        (bkIt 8 (by omega) g2 Bs n c2 hn24) (fun _ => rfl)
        (fun pre W => Row W (some ⟨g2, 0, none⟩) c2 g2 (pl.bw pl.back m l (n - pre.length)) ∧ W.cell? ⟨Bl, 0, none⟩ = some (.int .i64 (pl.bs pl.back m l (n - pre.length))) ∧ W.frozen? ⟨Bl, 0, none⟩ = false ∧ W.cell? ⟨Bs, 0, none⟩ = some (.slice (some ⟨g2, 0, none⟩) n c2) ∧ g2 < W.heap.size ∧ Below w.heap.size w W)
        (fun c pre W => c = .exit 0 ∧ Row W (some ⟨g2, 0, none⟩) c2 g2 (pl.bw pl.back m l 0) ∧ W.cell? ⟨Bl, 0, none⟩ = some (.int .i64 (pl.bs pl.back m l 0)) ∧ g2 < W.heap.size ∧ Below w.heap.size w W)
        (fun j a' W => a' = { tmps := #[.slice (some ⟨g, 0, none⟩) n cap, .int .i64 m, undef, undef, .slice none 0 0, .int .i64 0, .slice (some ⟨g2, 0, none⟩) n c2, .pointer (some ⟨Bl, 0, none⟩), .pointer (some ⟨g2, j * 7, none⟩), undef, .slice (some ⟨g, 0, none⟩) n cap, .bool true, .bool false, .bool false, .int .i64 m, .bool true, .bool false, .bool false, .slice (some ⟨g, 0, none⟩) n cap, .slice (some ⟨g2, 0, none⟩) n c2, .int .i64 m, .slice (some ⟨g2, 0, none⟩) n c2, .func (.func 66) #[] #[.pointer (some ⟨Bs, 0, none⟩)], .pointer (some ⟨g2, j * 7, none⟩), undef, undef, undef, undef, undef, undef, undef, undef, undef, undef, undef, undef, undef, undef, undef, undef, undef, undef, undef, undef, undef, undef, undef, undef, undef, undef, undef, undef, undef], defers := [] })
        (fun s A B row hs hg hr => ⟨row_own hs.1 hg (fun r e => (hr r e).2), cell_kept hs.2.1 hg (fun r e => (hr r e).2), frz_own hs.2.1 hs.2.2.1 hg (fun r e => (hr r e).2), cell_kept hs.2.2.2.1 hg (fun r e => (hr r e).2), Nat.lt_of_lt_of_le hs.2.2.2.2.1 hg.size, hs.2.2.2.2.2.grown hg hs.2.2.2.2.2.size (fun k e => (Nat.le_trans hwW (hr k e).1))⟩)
        (fun c s A B row hs hg hr => ⟨hs.1, row_own hs.2.1 hg (fun r e => (hr r e).2), cell_kept hs.2.2.1 hg (fun r e => (hr r e).2), Nat.lt_of_lt_of_le hs.2.2.2.1 hg.size, hs.2.2.2.2.grown hg hs.2.2.2.2.size (fun k e => (Nat.le_trans hwW (hr k e).1))⟩)
        (fun x a' s A B row hs _ _ => hs)
        (fun pre W h => ⟨h.2.2.2.1, fun i hi => ⟨_, h.1.cells i (by rw [pl.bw_len, ← HNZ.out]; omega)⟩⟩)
        ⟨R0.out, LB.out, LF.out, HB.out, hg2W, BW.out⟩ ?assign ?body ?done ?stop
      case assign =>
        rintro lp pre x W K hI hV hK
        dsimp only [encP]
        gi_wp2
        exact hK _ _ (KeepsFrom.refl _ _) (rf.Kept.refl _ _) hI rfl
      case body =>
        rintro lp pre j a' W ⟨h1, h2, h3, h4, h5, h7⟩ hV rfl
        replace hV : j + 1 + pre.length = n := hV
        have ek : n - pre.length = j + 1 := by omega
        have ek2 : n - (pre ++ [j]).length = j := by simp; omega
        rw [ek] at h1 h2
        have hk : j + 1 ≤ n := by omega
        have sB := SB.out (j + 1) (by rw [← HNZ.out]; exact hk)
        obtain ⟨s0, s1⟩ := sB
        have HLT := Lib.hid (show j < l.length from by rw [← HNZ.out]; exact hk)
        have FS := Lib.hid (pl.bs_succ pl.back m HLT.out)
        have FW := Lib.hid (pl.bw_succ pl.back m HLT.out)
        have FG := Lib.hid (pl.bw_get pl.back m HLT.out)
        have FL := Lib.hid (show j < (pl.bw pl.back m l (j + 1)).length from by rw [pl.bw_len]; exact HLT.out)
        have q1 := h1.cells j FL.out
        have fz := h1.free (Nat.lt_of_le_of_lt (Nat.zero_le _) FL.out)
        rw [FG.out] at q1
        obtain ⟨x, hx⟩ : ∃ x, x = l.getD j zz := ⟨_, rfl⟩
        have PX := PVH.out.pin HLT.out
        rw [← hx] at q1 FS FW FG PX
        have ST := Lib.hid (show pl.bs pl.back m l (j + 1) = 0 → pl.bw pl.back m l 0 = pl.bw pl.back m l (j + 1) ∧ pl.bs pl.back m l 0 = 0 from fun h => by
          have := bw_stop (f := pl.back) (n := m) (l := l) (fun y hy => by obtain ⟨i, hi, rfl⟩ := getD_mem hy; exact back_z (PVH.out.pin hi)) (j + 1) (j + 1) (by rw [← HNZ.out]; exact hk) (Nat.le_refl _) h
          rwa [Nat.sub_self] at this)
        obtain ⟨S, hS⟩ : ∃ S, S = pl.bs pl.back m l (j + 1) := ⟨_, rfl⟩
        rw [← hS] at FS FW s0 s1 h2 ST
        obtain ⟨L, hL⟩ : ∃ L, L = pl.bw pl.back m l (j + 1) := ⟨_, rfl⟩
        rw [← hL] at FW FG FL h1 ST
        have p0 := PX.p0; have p1 := PX.p1; have a0 := PX.q0; have a1 := PX.q1
        have H1 := Lib.hid h1
        have H7 := Lib.hid h7
        clear hx hS hL h1 h7 PX ek hV
        have mixed : Try.prog.follows .mixedOrders = true := Try.checked.mixed
        obtain ⟨x1, x2, x3, x4, x5, x6, x7⟩ := q1
        have f1 := fz (j * 7 + 1)
        have f4 := fz (j * 7 + 4)
        cases t1 : (S == 0) with
        | true =>
          have sz : S = 0 := by simpa using t1
          have FE := Lib.hid (show KeepsFrom W0.heap.size W W ∧ Row W (some ⟨g2, 0, none⟩) c2 g2 (pl.bw pl.back m l 0) ∧ W.cell? ⟨Bl, 0, none⟩ = some (.int .i64 (pl.bs pl.back m l 0)) ∧ g2 < W.heap.size ∧ Below w.heap.size w W from
            ⟨KeepsFrom.refl _ _, by rw [(ST.out sz).1]; exact H1.out, by rw [(ST.out sz).2, ← sz]; exact h2, h5, H7.out⟩)
          clear H1 H7 ST sz
          gi_wp2
          exact ⟨FE.out.1, rfl, FE.out.2⟩
        | false =>
          have FE := Lib.hid (show KeepsFrom W0.heap.size W ((((W.setCell ⟨g2, j * 7 + 1, none⟩ (.int .i64 (x.2.1 - min S (x.2.2.2.2.1)))).setCell ⟨g2, j * 7 + 4, none⟩ (.int .i64 (x.2.2.2.2.1 - min S (x.2.2.2.2.1)))).setCell ⟨Bl, 0, none⟩ (.int .i64 (S - min S (x.2.2.2.2.1)))).drew) ∧ rf.Kept (W0.heap.size + 2) W ((((W.setCell ⟨g2, j * 7 + 1, none⟩ (.int .i64 (x.2.1 - min S (x.2.2.2.2.1)))).setCell ⟨g2, j * 7 + 4, none⟩ (.int .i64 (x.2.2.2.2.1 - min S (x.2.2.2.2.1)))).setCell ⟨Bl, 0, none⟩ (.int .i64 (S - min S (x.2.2.2.2.1)))).drew) ∧ Row ((((W.setCell ⟨g2, j * 7 + 1, none⟩ (.int .i64 (x.2.1 - min S (x.2.2.2.2.1)))).setCell ⟨g2, j * 7 + 4, none⟩ (.int .i64 (x.2.2.2.2.1 - min S (x.2.2.2.2.1)))).setCell ⟨Bl, 0, none⟩ (.int .i64 (S - min S (x.2.2.2.2.1)))).drew) (some ⟨g2, 0, none⟩) c2 g2 (pl.bw pl.back m l (n - (pre ++ [j]).length)) ∧ ((((W.setCell ⟨g2, j * 7 + 1, none⟩ (.int .i64 (x.2.1 - min S (x.2.2.2.2.1)))).setCell ⟨g2, j * 7 + 4, none⟩ (.int .i64 (x.2.2.2.2.1 - min S (x.2.2.2.2.1)))).setCell ⟨Bl, 0, none⟩ (.int .i64 (S - min S (x.2.2.2.2.1)))).drew).cell? ⟨Bl, 0, none⟩ = some (.int .i64 (pl.bs pl.back m l (n - (pre ++ [j]).length))) ∧ ((((W.setCell ⟨g2, j * 7 + 1, none⟩ (.int .i64 (x.2.1 - min S (x.2.2.2.2.1)))).setCell ⟨g2, j * 7 + 4, none⟩ (.int .i64 (x.2.2.2.2.1 - min S (x.2.2.2.2.1)))).setCell ⟨Bl, 0, none⟩ (.int .i64 (S - min S (x.2.2.2.2.1)))).drew).frozen? ⟨Bl, 0, none⟩ = false ∧ ((((W.setCell ⟨g2, j * 7 + 1, none⟩ (.int .i64 (x.2.1 - min S (x.2.2.2.2.1)))).setCell ⟨g2, j * 7 + 4, none⟩ (.int .i64 (x.2.2.2.2.1 - min S (x.2.2.2.2.1)))).setCell ⟨Bl, 0, none⟩ (.int .i64 (S - min S (x.2.2.2.2.1)))).drew).cell? ⟨Bs, 0, none⟩ = some (.slice (some ⟨g2, 0, none⟩) n c2) ∧ g2 < ((((W.setCell ⟨g2, j * 7 + 1, none⟩ (.int .i64 (x.2.1 - min S (x.2.2.2.2.1)))).setCell ⟨g2, j * 7 + 4, none⟩ (.int .i64 (x.2.2.2.2.1 - min S (x.2.2.2.2.1)))).setCell ⟨Bl, 0, none⟩ (.int .i64 (S - min S (x.2.2.2.2.1)))).drew).heap.size ∧ Below w.heap.size w ((((W.setCell ⟨g2, j * 7 + 1, none⟩ (.int .i64 (x.2.1 - min S (x.2.2.2.2.1)))).setCell ⟨g2, j * 7 + 4, none⟩ (.int .i64 (x.2.2.2.2.1 - min S (x.2.2.2.2.1)))).setCell ⟨Bl, 0, none⟩ (.int .i64 (S - min S (x.2.2.2.2.1)))).drew) from by
            rw [ek2]
            have cb : (((W.setCell ⟨g2, j * 7 + 1, none⟩ (.int .i64 (x.2.1 - min S (x.2.2.2.2.1)))).setCell ⟨g2, j * 7 + 4, none⟩ (.int .i64 (x.2.2.2.2.1 - min S (x.2.2.2.2.1))))).cell? ⟨Bl, 0, none⟩ = some (.int .i64 S) := ((World.cell?_setCell_other _ ⟨g2, j * 7 + 4, none⟩ ⟨Bl, 0, none⟩ _ (fun q => by injection q with q1 q2; exact ngs (by omega))).trans ((World.cell?_setCell_other W ⟨g2, j * 7 + 1, none⟩ ⟨Bl, 0, none⟩ _ (fun q => by injection q with q1 q2; exact ngs (by omega))).trans h2))
            have cs : (((W.setCell ⟨g2, j * 7 + 1, none⟩ (.int .i64 (x.2.1 - min S (x.2.2.2.2.1)))).setCell ⟨g2, j * 7 + 4, none⟩ (.int .i64 (x.2.2.2.2.1 - min S (x.2.2.2.2.1))))).cell? ⟨Bs, 0, none⟩ = some (.slice (some ⟨g2, 0, none⟩) n c2) := ((World.cell?_setCell_other _ ⟨g2, j * 7 + 4, none⟩ ⟨Bs, 0, none⟩ _ (fun q => by injection q with q1 q2; exact ngB (by omega))).trans ((World.cell?_setCell_other W ⟨g2, j * 7 + 1, none⟩ ⟨Bs, 0, none⟩ _ (fun q => by injection q with q1 q2; exact ngB (by omega))).trans h4))
            have cf : (((W.setCell ⟨g2, j * 7 + 1, none⟩ (.int .i64 (x.2.1 - min S (x.2.2.2.2.1)))).setCell ⟨g2, j * 7 + 4, none⟩ (.int .i64 (x.2.2.2.2.1 - min S (x.2.2.2.2.1))))).frozen? ⟨Bl, 0, none⟩ = false := ((World.frozen?_setCell _ _ _ _).trans ((World.frozen?_setCell W _ _ _).trans h3))
            have r1 := seven.rowSet1 H1.out FL.out FG.out (x.2.1 - min S (x.2.2.2.2.1))
            have r2 := seven.rowSet4 r1 (by simpa using FL.out) (seven.getD_set_same FL.out _) (x.2.2.2.2.1 - min S (x.2.2.2.2.1))
            rw [List.set_set] at r2
            refine ⟨((((KeepsOthers.setCell W _ _).trans (KeepsOthers.setCell _ _ _)).trans (KeepsOthers.setCell _ _ _)).trans (KeepsOthers.drew _)).from _, (((rf.Kept.set (p := ⟨g2, j * 7 + 1, none⟩) _ (Nat.lt_of_lt_of_le hg2W (Nat.le_add_right _ _))).trans (rf.Kept.set (p := ⟨g2, j * 7 + 4, none⟩) _ (Nat.lt_of_lt_of_le hg2W (Nat.le_add_right _ _)))).trans (rf.Kept.set (p := ⟨Bl, 0, none⟩) _ (Nat.lt_of_lt_of_le hlW (Nat.le_add_right _ _)))).trans (rf.Kept.drew _ _), ?_, ?_, (World.frozen?_setCell _ _ _ _).trans cf, (World.cell?_setCell_other _ ⟨Bl, 0, none⟩ ⟨Bs, 0, none⟩ _ (fun q => by injection q with q1 q2; exact nsB (by omega))).trans cs, by show g2 < (World.setCell _ _ _).heap.size; simp [World.setCell]; exact h5, (((H7.out.setCell (p := ⟨g2, j * 7 + 1, none⟩) G2.out _).setCell (p := ⟨g2, j * 7 + 4, none⟩) G2.out _).setCell (p := ⟨Bl, 0, none⟩) wsb _).drew⟩
            · rw [FW.out]
              exact (r2.keep (w' := (((W.setCell ⟨g2, j * 7 + 1, none⟩ (.int .i64 (x.2.1 - min S (x.2.2.2.2.1)))).setCell ⟨g2, j * 7 + 4, none⟩ (.int .i64 (x.2.2.2.2.1 - min S (x.2.2.2.2.1)))).setCell ⟨Bl, 0, none⟩ (.int .i64 (S - min S (x.2.2.2.2.1)))).drew) fun _ => Below.heap_setCell _ ⟨Bl, 0, none⟩ _ _ ngs)
            · rw [FS.out]
              exact World.cell?_setCell_same' _ _ _ (by rw [cb]; rfl)
            )
          clear H1 H7 ST
          by_cases t2 : x.2.2.2.2.1 < S
          · have E : min S (x.2.2.2.2.1) = x.2.2.2.2.1 := by omega
            rw [E] at FE
            simp only [Int.sub_self] at FE
            clear E
            gi_wp2_with fail
            gi_region_with (fail)
            all_goals
              gi_wp2
              exact FE.out
          · have E : min S (x.2.2.2.2.1) = S := by omega
            rw [E] at FE
            simp only [Int.sub_self] at FE
            clear E
            gi_wp2_with fail
            gi_region_with (fail)
            all_goals
              gi_wp2
              exact FE.out
      case done =>
        rintro xs W D hD hK hS ⟨h1, h2, h3, h4, h5, h7⟩
        have e0 : n - xs.length = 0 := by have : xs.length = n := hS; omega
        rw [e0] at h1 h2
        clear e0
        have e0 := Lib.hid (show P = pl.bw pl.back m l 0 from YP.out)
        have e1 := Lib.hid (show M = pl.bs pl.back m l 0 from YM.out)
        have H1 := Lib.hid h1
        have H7 := Lib.hid h7
        rw [← e1.out] at h2
        clear h1 h7
        gi_wp2_with fail
        gi_region
        all_goals
          gi_wp2
          refine ⟨by simp, .inl ⟨_, _, rfl, run_takeDeferred (w := W.drew) hK, ?_⟩⟩
          have bk := belowK_b (w := w) (Nat.le_refl _) W.drew D _ (.deferred none) (by omega) hK rfl rfl
          refine ⟨.tuple #[.slice (some ⟨g2, 0, none⟩) n c2, .int .i64 M], ?_, ?_⟩
          · simp [results, Try.f28, go_sem]
          · exact out_yes LP.out ((show Row W.drew (some ⟨g2, 0, none⟩) c2 g2 P from by rw [e0.out]; exact H1.out.keep fun _ => rfl).keep fun _ => World.putObj_heap_other (by omega)) G2.out (by simp; exact h5) (H7.out.drew.trans bk)
      case stop =>
        rintro c pre W D hD hK ⟨rfl, h1, h2, h5, h7⟩
        have e0 := Lib.hid (show P = pl.bw pl.back m l 0 from YP.out)
        have e1 := Lib.hid (show M = pl.bs pl.back m l 0 from YM.out)
        have H1 := Lib.hid h1
        have H7 := Lib.hid h7
        rw [← e1.out] at h2
        clear h1 h7
        gi_wp2_with fail
        gi_region
        all_goals
          gi_wp2
          refine ⟨by simp, .inl ⟨_, _, rfl, run_takeDeferred (w := W.drew) hK, ?_⟩⟩
          have bk := belowK_b (w := w) (Nat.le_refl _) W.drew D _ (.deferred none) (by omega) hK rfl rfl
          refine ⟨.tuple #[.slice (some ⟨g2, 0, none⟩) n c2, .int .i64 M], ?_, ?_⟩
          · simp [results, Try.f28, go_sem]
          · exact out_yes LP.out ((show Row W.drew (some ⟨g2, 0, none⟩) c2 g2 P from by rw [e0.out]; exact H1.out.keep fun _ => rfl).keep fun _ => World.putObj_heap_other (by omega)) G2.out (by simp; exact h5) (H7.out.drew.trans bk)
end Go.Proofs.Ytmnmijiikjpdnaa.base
