/-
  Plain helpers of this seat's proofs: the contract of the landed PaidOff. Conditions: none.
-/
import Derived.Test.YtmaejlfjdkkpdaaPoI
import Derived.Test.YtmaejlfjdkkpdaaPd
import Derived.Test.YtmaejlfjdkkpdaaRw7
import Derived.RangeFuncNested
import Derived.RangeFuncBound
import Derived.RangeFuncCalls
import Derived.RangeFuncLeaves
import Derived.Shelf.Abstract
import Derived.Shelf.AbstractIn
import Derived.Shelf.RegionOpen
import Derived.OwnWalkIn
import Derived.TacticsInMore
import Derived.LoopNIn
import Derived.LoopIn
import Derived.Stop.RegionWithIn
namespace Go.Proofs.Ytmaejlfjdkkpdaa.base
open Go.ChangeShapes Go.WideShapes Go.ChangeAt Go.RowKit
open seven (F7 zz Row At)
open pl (inR prOk pok)
open gen
open Go.Shelf
attribute [local go_sem] Oper.semAt_some
/-- A Part of which the first j debts have been paid. -/
def prt (i : Nat) (x : F7) : Nat → F7
  | 0 => x
  | j + 1 => if 0 < (el i x j).2 then bump (prt i x j) ((el i x j).1 % 7) (el i x j).2 else prt i x j
theorem pd_k {L : List F7} (hp : ∀ i, i < L.length → pl.Pin (L.getD i zz)) {k : Nat} (hk : k < L.length) : ∀ j, (pd L (DS L k ++ dsTo k (L.getD k zz) j)).getD k zz = prt k (L.getD k zz) j
  | 0 => by rw [dsTo, List.append_nil, pd_all hp k (by omega) k hk, if_neg (by omega)]; rfl
  | j + 1 => by
    have ih := pd_k hp hk j
    by_cases q : 0 < (el k (L.getD k zz) j).2
    · rw [dsTo_t q, ← List.append_assoc, pd_snoc, ap_same (el_at k j _) (by rw [pd_len]; exact hk), ih, prt, if_pos q]
    · rw [dsTo_f q, ih, prt, if_neg q]
theorem prt_1 (i : Nat) (x : F7) : (prt i x 1).2.2.2.2.2.1 = x.2.2.2.2.2.1 := by
  rw [prt, prt]
  split
  · have e : (el i x 0).1 % 7 = 6 := by show (i * 7 + 6) % 7 = 6; omega
    rw [e]; rfl
  · rfl
theorem prt_2 (i : Nat) (x : F7) : (prt i x 2).2.2.2.2.1 = x.2.2.2.2.1 := by
  have h1 : (prt i x 1).2.2.2.2.1 = x.2.2.2.2.1 := by
    rw [prt, prt]
    split
    · have e : (el i x 0).1 % 7 = 6 := by show (i * 7 + 6) % 7 = 6; omega
      rw [e]; rfl
    · rfl
  rw [prt]
  split
  · have e : (el i x 1).1 % 7 = 5 := by show (i * 7 + 5) % 7 = 5; omega
    rw [e]; exact h1
  · exact h1
theorem step_row {W : World} {a : Option Addr} {c g : Nat} {L : List F7} {pre : List (Nat × Int)} {x : Nat × Int} (r : Row W a c g (pd L pre)) (hp : ∀ i, i < L.length → pl.Pin (L.getD i zz)) (hV : Nx L pre x) :
    ∃ v, 0 ≤ v ∧ v ≤ 1000000000000 ∧ W.cell? ⟨g, x.1, none⟩ = some (.int .i64 v) ∧ W.frozen? ⟨g, x.1, none⟩ = false ∧ Row (W.setCell ⟨g, x.1, none⟩ (.int .i64 (v + x.2))) a c g (pd L (pre ++ [x])) := by
  obtain ⟨k, j, hk, hj, hpre, hx, hpos⟩ := hV
  have hk' : k < (pd L pre).length := by rw [pd_len]; exact hk
  have hf := r.free (Nat.lt_of_le_of_lt (Nat.zero_le _) hk')
  have hq := pd_k hp hk j
  rw [← hpre] at hq
  have hc := r.cells k hk'
  have P := hp k hk
  rw [pd_snoc]
  have hd : x.1 / 7 = k := by rw [hx]; exact el_at k j _
  unfold ap
  rw [hd]
  obtain ⟨X, hX⟩ : ∃ X, X = L.getD k zz := ⟨_, rfl⟩
  rw [← hX] at hq hx P
  match j, hj with
  | 0, _ =>
    have e1 : x.1 = k * 7 + 6 := by rw [hx]; rfl
    have e2 : x.1 % 7 = 6 := by omega
    have hv : ((pd L pre).getD k zz).2.2.2.2.2.2 = X.2.2.2.2.2.2 := by rw [hq]; rfl
    rw [e2, e1]
    refine ⟨X.2.2.2.2.2.2, P.g0, by have := P.g1; have := P.f1; omega, by rw [← hv]; exact hc.c6, hf _, ?_⟩
    rw [← hv]
    exact seven.rowSet6 r hk' rfl _
  | 1, _ =>
    have e1 : x.1 = k * 7 + 5 := by rw [hx]; rfl
    have e2 : x.1 % 7 = 5 := by omega
    have hv : ((pd L pre).getD k zz).2.2.2.2.2.1 = X.2.2.2.2.2.1 := by rw [hq]; exact prt_1 k X
    rw [e2, e1]
    refine ⟨X.2.2.2.2.2.1, P.j0, by have := P.j1; have := P.i1; omega, by rw [← hv]; exact hc.c5, hf _, ?_⟩
    rw [← hv]
    exact seven.rowSet5 r hk' rfl _
  | 2, _ =>
    have e1 : x.1 = k * 7 + 4 := by rw [hx]; rfl
    have e2 : x.1 % 7 = 4 := by omega
    have hv : ((pd L pre).getD k zz).2.2.2.2.1 = X.2.2.2.2.1 := by rw [hq]; exact prt_2 k X
    rw [e2, e1]
    refine ⟨X.2.2.2.2.1, P.q0, by have := P.q1; have := P.p1; omega, by rw [← hv]; exact hc.c4, hf _, ?_⟩
    rw [← hv]
    exact seven.rowSet4 r hk' rfl _
set_option maxRecDepth 100000 in
set_option maxHeartbeats 4000000 in
theorem pdI (d : Int) (w : World) (cap g : Nat) (l : List F7) (r : Row w (some ⟨g, 0, none⟩) cap g l) (hn : l.length ≤ 1048577) : Calls Try.prog 112 #[.slice (some ⟨g, 0, none⟩) l.length cap, .int .i64 d] w (Out w (pl.pv l && inR d 0 100000) (poL l d) (poN l d)) := by
  obtain ⟨P, hP⟩ : ∃ P, P = poL l d := ⟨_, rfl⟩
  obtain ⟨M, hM⟩ : ∃ M, M = poN l d := ⟨_, rfl⟩
  rw [← hP, ← hM]
  have HP := Lib.hid hP
  have HM := Lib.hid hM
  clear hP hM
  have GL := Lib.hid (fun h : 0 < l.length => r.lt h)
  have C := Lib.hid (pkI w (some ⟨g, 0, none⟩) cap g l r hn)
  have R := Lib.hid r
  have CD := Lib.hid (fun w1 => dayI d w1)
  have CW := Lib.hid (fun w1 h hv => wvC d w1 cap g l h hv)
  clear r
  obtain ⟨n, hnz⟩ : ∃ n, n = l.length := ⟨_, rfl⟩
  rw [← hnz] at hn C CW ⊢
  have HNZ := Lib.hid hnz
  clear hnz
  refine (callsIn_wide (n := 8)).1 ?_
  have hro : Fence.wide.round = none := rfl
  have hw1 : Fence.wide.fn 92 := trivial
  have hw2 : Fence.wide.fn 79 := trivial
  have hw3 : Fence.wide.fn 120 := trivial
  have hw4 : Fence.wide.fn 117 := trivial
  refine callsIn_of_wp_marks Try.func112 rfl trivial ?_ hro
  simp only [Try.ntmps112, List.size_toArray, List.length_cons, List.length_nil, Nat.reduceAdd, Nat.reduceSub, Array.replicate_succ, Array.replicate_zero, List.push_toArray, List.append_toArray, List.nil_append, List.cons_append]
  gi_wp2_with fail
  refine (callsIn_wide.2 C.out).mono ?_
  rintro e w1 ⟨rfl, b1⟩
  have BN := Lib.hid b1
  have R1 := Lib.hid (R.out.keep (w' := w1) fun h => b1.block g (GL.out h))
  clear b1 R C
  cases hv : pl.pv l with
  | false =>
    have NOK := Lib.hid (show (pl.pv l && inR d 0 100000) = false from (by rw [hv]; rfl))
    have NOL := Lib.hid (HP.out.trans (po_no (by rw [hv]; rfl)).1)
    have NON := Lib.hid (HM.out.trans (po_no (by rw [hv]; rfl)).2)
    clear hv
    gi_wp2
    refine ⟨.tuple #[.slice none 0 0, .int .i64 0], ?_, out_no NOK.out NOL.out NON.out BN.out⟩
    simp [results, Try.f112, go_sem]
  | true =>
    have HV := Lib.hid hv
    have PVH := Lib.hid (pl.pv_iff.1 hv)
    clear hv
    cases hd : inR d 0 100000 with
    | false =>
      rw [hd] at CD
      have NOK := Lib.hid (show (pl.pv l && inR d 0 100000) = false from (by rw [HV.out, hd]; rfl))
      have NOL := Lib.hid (HP.out.trans (po_no (by rw [HV.out, hd]; rfl)).1)
      have NON := Lib.hid (HM.out.trans (po_no (by rw [HV.out, hd]; rfl)).2)
      clear hd
      gi_wp2_with fail
      refine (callsIn_wide.2 (CD.out _)).mono ?_
      rintro e w' ⟨rfl, rfl⟩
      gi_wp2
      refine ⟨.tuple #[.slice none 0 0, .int .i64 0], ?_, out_no NOK.out NOL.out NON.out BN.out⟩
      simp [results, Try.f112, go_sem]
    | true =>
      rw [hd] at CD
      have YP := Lib.hid (HP.out.trans (po_yes (by rw [HV.out, hd]; rfl)).1)
      have YM := Lib.hid (HM.out.trans (po_yes (by rw [HV.out, hd]; rfl)).2)
      rw [← HNZ.out] at YM
      clear hd
      gi_wp2_with fail
      refine (callsIn_wide.2 (CD.out _)).mono ?_
      rintro e w' ⟨rfl, rfl⟩
      gi_wp2_with fail
      refine (callsIn_wide.2 (CW.out w1 R1.out PVH.out)).mono ?_
      rintro e w2 ⟨c2, g2, rfl, r2, l2, k2, b2⟩
      have R2 := Lib.hid r2
      have B2 := Lib.hid (BN.out.trans (b2.mono BN.out.size))
      have G2 := Lib.hid (Nat.le_trans BN.out.size l2)
      clear r2 b2
      gi_wp2_with fail
      refine (callsIn_wide.2 (odC _ _ _ _)).mono ?_
      rintro e w3 ⟨rfl, rfl⟩
      gi_wp2_with fail
      obtain ⟨F, hF⟩ : ∃ F, F = pl.fs (wv d) 0 l n := ⟨_, rfl⟩
      rw [← hF] at YM ⊢
      clear hF
      have LW := Lib.hid (show (wvL l d).length = n from by rw [HNZ.out]; unfold wvL; simp)
      have PW := Lib.hid (show ∀ i, i < (wvL l d).length → pl.Pin ((wvL l d).getD i zz) from fun i hi => by
        have hi' : i < l.length := by have := LW.out; have := HNZ.out; omega
        rw [wvL_get hi']; exact wvX_pin (PVH.out.pin hi'))
      have hn24 : n ≤ 24 := by rw [HNZ.out]; exact PVH.out.1
      have m2 := R2.out.room
      rw [LW.out] at m2
      obtain ⟨W0, hW0⟩ : ∃ W0, W0 = w2.alloc (.cells #[.slice (some ⟨g2, 0, none⟩) n c2] 60) := ⟨_, rfl⟩
      have sz : W0.heap.size = w2.heap.size + 1 := by rw [hW0]; simp
      have R0 := Lib.hid (show Row W0 (some ⟨g2, 0, none⟩) c2 g2 (wvL l d) from R2.out.keep fun _ => by rw [hW0]; exact Below.heap_alloc w2 _ g2 k2)
      have HB := Lib.hid (show W0.cell? ⟨w2.heap.size, 0, none⟩ = some (.slice (some ⟨g2, 0, none⟩) n c2) from by rw [hW0]; exact box_cell (box_refl w2 _) 0 rfl)
      have BW := Lib.hid (show Below w.heap.size w W0 from by rw [hW0]; exact B2.out.alloc B2.out.size _)
      rw [← hW0]
      obtain ⟨Bs, hBs⟩ : ∃ Bs, Bs = w2.heap.size := ⟨_, rfl⟩
      rw [← hBs] at HB
      try rw [← hBs]
      have ngB : Bs ≠ g2 := by omega
      have hg2W : g2 < W0.heap.size := by omega
      clear hW0 hBs k2 l2 B2 R2
      refine rf.range hro (by omega) (gf := 123) (lb := #[.pointer (some ⟨Bs, 0, none⟩)]) rfl trivial (enters_of Try.func123 (by kernel_rfl) rfl)
        (odIt 7 (by omega) g2 Bs c2 (wvL l d) (by rw [LW.out]; exact hn24) (by rw [LW.out]; exact m2) PW.out) (fun _ => rfl)
        (fun pre W => Row W (some ⟨g2, 0, none⟩) c2 g2 (pd (wvL l d) pre) ∧ W.cell? ⟨Bs, 0, none⟩ = some (.slice (some ⟨g2, 0, none⟩) n c2) ∧ g2 < W.heap.size ∧ Below w.heap.size w W)
        (fun _ _ _ => False)
        (fun x a' W => ∃ Bx, W.cell? ⟨Bx, 0, none⟩ = some (.pointer (some ⟨g2, x.1, none⟩)) ∧ W.cell? ⟨Bx, 1, none⟩ = some (.int .i64 x.2) ∧ a' = { tmps := #[.slice (some ⟨g, 0, none⟩) n cap, .int .i64 d, undef, undef, .slice none 0 0, .int .i64 0, .slice (some ⟨g2, 0, none⟩) n c2, .int .i64 F, .pointer (some ⟨Bx, 0, none⟩), .slice (some ⟨g, 0, none⟩) n cap, .bool true, .bool false, .bool false, .int .i64 d, .bool true, .bool false, .bool false, .tuple #[.slice (some ⟨g2, 0, none⟩) n c2, .int .i64 F], .slice (some ⟨g, 0, none⟩) n cap, .int .i64 d, .tuple #[.slice (some ⟨g2, 0, none⟩) n c2, .int .i64 F], .slice (some ⟨g2, 0, none⟩) n c2, .int .i64 F, .slice (some ⟨g2, 0, none⟩) n c2, .func (.func 123) #[] #[.pointer (some ⟨Bs, 0, none⟩)], .agg #[.pointer (some ⟨g2, x.1, none⟩), .int .i64 x.2], undef, undef, undef, undef, undef, undef, undef, undef, undef, undef], defers := [] })
        (fun s A B row hs hg hr => ⟨row_own hs.1 hg (fun r e => (hr r e).2), cell_kept hs.2.1 hg (fun r e => (hr r e).2), Nat.lt_of_lt_of_le hs.2.2.1 hg.size, hs.2.2.2.grown hg hs.2.2.2.size (fun k e => (Nat.le_trans BW.out.size (hr k e).1))⟩)
        (fun _ _ _ _ _ hs _ _ => hs)
        (fun x a' s A B row hs hg hr => by obtain ⟨Bx, h0, h1, h2⟩ := hs; exact ⟨Bx, cell_kept h0 hg (fun r e => (hr r e).2), cell_kept h1 hg (fun r e => (hr r e).2), h2⟩)
        (fun pre W h => ⟨by rw [LW.out]; exact h.2.1, fun i hi e => by
          have q := h.1.cells i (by rw [pd_len]; exact hi)
          rw [e, pd_other _ _ i (fun p hp => by have := DS_at i p hp; omega)] at q
          exact q⟩)
        ⟨R0.out, HB.out, hg2W, BW.out⟩ ?assign ?body ?done ?stop
      case assign =>
        rintro lp pre x W K ⟨h1, h2, h3, h5⟩ hV hK
        dsimp only [encD]
        gi_wp2
        have gr := World.grownBy_alloc W (.cells #[.pointer (some ⟨g2, x.1, none⟩), .int .i64 x.2] 127) none
        exact hK _ _ ((KeepsOthers.alloc _ _).from _) ⟨row_own h1 gr (fun r e => by cases e), cell_kept h2 gr (fun r e => by cases e), by simp; omega, h5.alloc h5.size _⟩ ⟨W.heap.size, box_cell (box_refl W _) 0 rfl, box_cell (box_refl W _) 1 rfl, rfl⟩
      case body =>
        rintro lp pre x a' W ⟨h1, h2, h3, h5⟩ hV ⟨Bx, hb0, hb1, rfl⟩
        obtain ⟨_, _, v3, v4⟩ := Nx_b (by rw [LW.out]; exact hn24) PW.out hV
        obtain ⟨v, p0, p1, p2, p3, p4⟩ := step_row h1 PW.out hV
        have H4 := Lib.hid p4
        have H5 := Lib.hid h5
        have mixed : Try.prog.follows .mixedOrders = true := Try.checked.mixed
        obtain ⟨o, ho⟩ : ∃ o, o = x.1 := ⟨_, rfl⟩
        obtain ⟨y, hy⟩ : ∃ y, y = x.2 := ⟨_, rfl⟩
        rw [← ho, ← hy] at H4
        rw [← ho] at hb0 p2 p3
        rw [← hy] at hb1 v3 v4
        try rw [← ho, ← hy]
        clear hV h1 h5 p4 ho hy
        have ew : IntKind.i64.wrap (v + y) = v + y := by rw [IntKind.wrap_i64]; omega
        have FIN := Lib.hid (show KeepsFrom W0.heap.size W (W.setCell ⟨g2, o, none⟩ (.int .i64 (v + y))).drew ∧ True ∧ Row (W.setCell ⟨g2, o, none⟩ (.int .i64 (v + y))).drew (some ⟨g2, 0, none⟩) c2 g2 (pd (wvL l d) (pre ++ [x])) ∧ (W.setCell ⟨g2, o, none⟩ (.int .i64 (v + y))).drew.cell? ⟨Bs, 0, none⟩ = some (.slice (some ⟨g2, 0, none⟩) n c2) ∧ g2 < (W.setCell ⟨g2, o, none⟩ (.int .i64 (v + y))).drew.heap.size ∧ Below w.heap.size w (W.setCell ⟨g2, o, none⟩ (.int .i64 (v + y))).drew from
          ⟨((KeepsOthers.setCell W _ _).trans (KeepsOthers.drew _)).from _, trivial, H4.out.keep fun _ => rfl, (World.cell?_setCell_other W ⟨g2, o, none⟩ ⟨Bs, 0, none⟩ _ (fun q => by injection q with q1 q2; exact ngB (by omega))).trans h2, by show g2 < (W.setCell _ _).heap.size; simp [World.setCell]; exact h3, (H5.out.setCell (p := ⟨g2, o, none⟩) G2.out _).drew⟩)
        clear h2 h3 H4 H5
        gi_wp2_with fail
        gi_region_with (fail)
        all_goals exact FIN.out
      case done =>
        rintro xs W D hD hK rfl ⟨h1, h2, h3, h5⟩
        have E := Lib.hid (show P = pd (wvL l d) (DS (wvL l d) (wvL l d).length) from by
          rw [YP.out, pd_off (fun i hi => PVH.out.pin (i := i) hi)])
        have LP := Lib.hid (show P.length = n from by rw [E.out, pd_len, LW.out])
        rw [← E.out] at h1
        have H1 := Lib.hid h1
        have H5 := Lib.hid h5
        have bws := BW.out.size
        clear h1 h2 h5
        gi_wp2
        refine ⟨by simp, .inl ⟨_, _, rfl, run_takeDeferred hK, ?_⟩⟩
        have bk := belowK_b (w := w) (Nat.le_refl _) W D _ (.deferred none) (by omega) hK rfl rfl
        refine ⟨.tuple #[.slice (some ⟨g2, 0, none⟩) n c2, .int .i64 F], ?_, ?_⟩
        · simp [results, Try.f112, go_sem]
        · rw [YM.out]
          refine out_yes LP.out (H1.out.keep fun _ => World.putObj_heap_other (by omega)) G2.out (by simp; exact h3) (H5.out.trans bk)
      case stop => intro c pre W D _ _ h; exact h.elim
end Go.Proofs.Ytmaejlfjdkkpdaa.base
