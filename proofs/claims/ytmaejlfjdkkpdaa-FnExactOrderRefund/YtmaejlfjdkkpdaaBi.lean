/-
  Plain helpers of this seat's proofs: the landed iterator over Parts from the last one on. Conditions: none.
-/
import Derived.Test.YtmaejlfjdkkpdaaOm
import Derived.Test.YtmaejlfjdkkpdaaRf
import Derived.RangeFuncNested
import Derived.RangeFuncBound
import Derived.RangeFuncCalls
import Derived.RangeFuncLeaves
import Derived.Shelf.Abstract
import Derived.Shelf.AbstractIn
import Derived.Shelf.RegionOpen
import Derived.OwnWalkIn
import Derived.TacticsInMore
import Derived.LoopNIn
import Derived.LoopIn
import Derived.Stop.RegionWithIn
namespace Go.Proofs.Ytmaejlfjdkkpdaa.base
open Go.ChangeShapes Go.WideShapes Go.ChangeAt Go.RowKit
open seven (F7 zz Row At)
open pl (inR prOk pok)
open gen
set_option maxRecDepth 40000 in
set_option maxHeartbeats 4000000 in
theorem wvC (d : Int) (w : World) (cap g : Nat) (l : List F7) (r : Row w (some ⟨g, 0, none⟩) cap g l) (hv : pl.PV l) : Calls Try.prog 120 #[.slice (some ⟨g, 0, none⟩) l.length cap, .int .i64 d] w fun e w' => ∃ c2 g2, e = .returned (.tuple #[.slice (some ⟨g2, 0, none⟩) l.length c2, .int .i64 (pl.fs (wv d) 0 l l.length)]) ∧ Row w' (some ⟨g2, 0, none⟩) c2 g2 (wvL l d) ∧ w.heap.size ≤ g2 ∧ g2 < w'.heap.size ∧ Below w.heap.size w w' := by
  have PVH := Lib.hid hv
  have CP := Lib.hid (seven.cpI w g cap l r (by have := hv.1; omega))
  have LS := Lib.hid (fun k hk => wv_sum (d := d) (fun i hi => hv.pin (i := i) hi) k hk)
  clear r hv
  obtain ⟨n, hnz⟩ : ∃ n, n = l.length := ⟨_, rfl⟩
  rw [← hnz] at CP ⊢
  have HNZ := Lib.hid hnz
  clear hnz
  have hn24 : n ≤ 24 := by rw [HNZ.out]; exact PVH.out.1
  go_enter Try.func120, Try.ntmps120
  go_wp2_with fail
  refine CP.out.mono ?_
  rintro e w2 ⟨v, rfl, c2, g2, hv2, r2, l2, k2, b2⟩
  rw [← HNZ.out] at hv2
  subst hv2
  have B2 := Lib.hid b2
  have R2 := Lib.hid r2
  have G2 := Lib.hid l2
  have m2 := r2.room
  rw [← HNZ.out] at m2
  clear r2 b2 l2 CP
  go_wp2
  go_loopw [7, 14] (fun sv iv wr => Below w.heap.size w wr ∧ g2 < wr.heap.size ∧ ∃ k : Nat, k ≤ n ∧ iv = .int .i64 k ∧ sv = .int .i64 (pl.fs (wv d) 0 l k) ∧ Row wr (some ⟨g2, 0, none⟩) c2 g2 (pl.fw (wv d) 0 l k)) (fun _ iv _ => n - (intOf iv).toNat)
  case atStart => exact ⟨B2.out, k2, 0, by omega, rfl, by rw [pl.fs_zero], by rw [pl.fw_zero]; exact R2.out⟩
  case round =>
    obtain ⟨hB, hg2, k, hk, rfl, rfl, hR⟩ := hrel
    have BB := Lib.hid hB
    have RR := Lib.hid hR
    clear hB
    have sB := LS.out k (by rw [← HNZ.out]; exact hk)
    obtain ⟨s0, s1⟩ := sB
    replace s1 : pl.fs (wv d) 0 l k ≤ 24000000000000 := by omega
    by_cases hlt : k < n
    · have HLT := Lib.hid (show k < l.length from by rw [← HNZ.out]; exact hlt)
      have FS := Lib.hid (pl.fs_succ (wv d) 0 HLT.out)
      have FW := Lib.hid (pl.fw_succ (wv d) 0 HLT.out)
      have FG := Lib.hid (pl.fw_get (wv d) 0 HLT.out)
      have FL := Lib.hid (show k < (pl.fw (wv d) 0 l k).length from by rw [pl.fw_len]; exact HLT.out)
      have q1 := hR.cells k FL.out
      rw [FG.out] at q1
      obtain ⟨x, hx⟩ : ∃ x, x = l.getD k zz := ⟨_, rfl⟩
      have PX := PVH.out.pin HLT.out
      rw [← hx] at q1 FS FW FG PX
      obtain ⟨S, hS⟩ : ∃ S, S = pl.fs (wv d) 0 l k := ⟨_, rfl⟩
      rw [← hS] at FS FW s0 s1 ⊢
      obtain ⟨L, hL⟩ : ∃ L, L = pl.fw (wv d) 0 l k := ⟨_, rfl⟩
      rw [← hL] at FW FG RR FL
      have i0 := PX.i0
      have i1 := PX.i1
      have j0 := PX.j0
      have j1 := PX.j1
      clear hx hS hL hR PX
      have mixed : Try.prog.follows .mixedOrders = true := Try.checked.mixed
      have z1 : (k : Int) < (n : Int) := by omega
      have u1 : decide (k < n) = true := by simp; omega
      cases t1 : decide (d < x.1) with
      | false =>
        have WO := Lib.hid (show pl.woff d x = 0 from by unfold pl.woff; rw [if_neg (by simpa using t1)])
        obtain ⟨x1, x2, x3, x4, x5, x6, x7⟩ := q1
        go_wp2
        go_roundw
        case rel =>
          refine ⟨BB.out, hg2, k + 1, by omega, by go_num, by rw [FS.out]; unfold wv; rw [WO.out]; simp, ?_⟩
          rw [FW.out]
          have e : (wv d S x).1 = x := by unfold wv; rw [WO.out]; simp
          rw [e, ← FG.out, set_self FL.out]
          exact RR.out
        case measure => simp [intOf]; omega
      | true =>
        have WO := Lib.hid (show pl.woff d x = x.2.2.1 - x.2.2.2.2.2.1 from by unfold pl.woff; rw [if_pos (by simpa using t1)])
        obtain ⟨v1, v2, v3, v4, v5, v6, v7⟩ := q1.keep (w' := wr) rfl
        have x1 := fun n os => (q1.grown n os).c0
        have x3 := fun n os => (q1.grown n os).c2
        have x6 := fun n os => (q1.grown n os).c5
        clear q1
        go_wp2_with fail
        refine wp_region_quiet_grown mixed (by kernel_rfl) ?_
        repeat (go_big_quiet_step (fail))
        refine wpQuiet_nil ?_
        intro w3 hw'
        have G1 := Lib.hid (show Grew wr w3 from by obtain ⟨p, h⟩ := hw'; exact ⟨p.n, p.os, h⟩)
        clear hw'
        have R3 := Lib.hid (RR.out.keep (w' := w3) fun _ => G1.out.below.block g2 hg2)
        have y3 := (R3.out.cells k FL.out).c2
        have y6 := (R3.out.cells k FL.out).c5
        rw [FG.out] at y3 y6
        have fz3 := R3.out.free (Nat.lt_of_le_of_lt (Nat.zero_le _) FL.out) (k * 7 + 2)
        go_wp2
        go_roundw
        case rel =>
          refine ⟨((Grew.step BB.out (Nat.le_refl _) G1.out).setCell (p := ⟨g2, k * 7 + 2, none⟩) G2.out _), by have := G1.out.below.size; simp [World.setCell]; omega, k + 1, by omega, by go_num, by rw [FS.out]; unfold wv; rw [WO.out], ?_⟩
          rw [FW.out]
          have e : (wv d S x).1 = (x.1, x.2.1, x.2.2.2.2.2.1, x.2.2.2.1, x.2.2.2.2.1, x.2.2.2.2.2.1, x.2.2.2.2.2.2) := by unfold wv; rw [WO.out]; simp; omega
          rw [e]
          exact seven.rowSet2 R3.out FL.out FG.out _
        case measure => simp [intOf]; omega
    · have u1 : decide (k < n) = false := by simp; omega
      obtain rfl : k = n := by omega
      have E1 := Lib.hid (show pl.fw (wv d) 0 l k = wvL l d from by rw [HNZ.out]; exact wvL_fw l d)
      clear hR
      go_wp2
      go_ret2
      exact ⟨c2, g2, rfl, by rw [← E1.out]; exact RR.out, G2.out, hg2, BB.out⟩
end Go.Proofs.Ytmaejlfjdkkpdaa.base

namespace Go.Proofs.Ytmaejlfjdkkpdaa.base
open Go.ChangeShapes Go.WideShapes Go.ChangeAt Go.RowKit
open seven (F7 zz Row At)
open pl (inR prOk pok)
open gen
open Go.Shelf
attribute [local go_sem] Oper.semAt_some
theorem row_own {A B : World} {row : Option Nat} {a : Option Addr} {cap g : Nat} {l : List F7} (r : Row A a cap g l) (hg : A.grownBy B row) (hr : ∀ r, row = some r → ∃ o : Obj, A.heap[r]? = some o ∧ o.isCells = false) : Row B a cap g l := by
  refine r.keep fun h => ?_
  obtain ⟨o, ho, hc⟩ := cells_of_cell (r.cells 0 h).c0
  refine hg.block g (r.lt h) fun e => ?_
  obtain ⟨o', ho', hc'⟩ := hr g e.symm
  rw [show A.heap[g]? = some o from ho] at ho'
  cases ho'
  rw [hc] at hc'
  cases hc'
theorem frz_own {A B : World} {row : Option Nat} {ad : Addr} {v : Value} (h : A.cell? ad = some v) (f : A.frozen? ad = false) (hg : A.grownBy B row) (hr : ∀ r, row = some r → ∃ o : Obj, A.heap[r]? = some o ∧ o.isCells = false) : B.frozen? ad = false := by
  obtain ⟨o, ho, hc⟩ := cells_of_cell h
  have e : B.heap[ad.block]? = A.heap[ad.block]? := hg.block _ (Array.getElem?_eq_some_iff.1 ho).1 fun e => by
    obtain ⟨o', ho', hc'⟩ := hr _ e.symm
    rw [ho] at ho'
    cases ho'
    rw [hc] at hc'
    cases hc'
  rw [World.frozen?_of_block e]; exact f
theorem odC (a : Option Addr) (len cap : Nat) (w : World) : Calls Try.prog 117 #[.slice a len cap] w fun e w' => e = .returned (.func (.func 123) #[] #[.pointer (some ⟨w.heap.size, 0, none⟩)]) ∧ w' = w.alloc (.cells #[.slice a len cap] 60) := by
  go_enter Try.func117, Try.ntmps117
  go_wp2
  go_ret
  exact ⟨rfl, rfl⟩
set_option maxRecDepth 100000 in
set_option maxHeartbeats 4000000 in
theorem poI (d : Int) (w : World) (cap g : Nat) (l : List F7) (r : Row w (some ⟨g, 0, none⟩) cap g l) (hn : l.length ≤ 1048577) : Calls Try.prog 111 #[.slice (some ⟨g, 0, none⟩) l.length cap, .int .i64 d] w fun e w' => e = .returned (.int .i64 (pof l d)) ∧ Below w.heap.size w w' := by
  obtain ⟨M, hM⟩ : ∃ M, M = pof l d := ⟨_, rfl⟩
  rw [← hM]
  have HM := Lib.hid hM
  clear hM
  have GL := Lib.hid (fun h : 0 < l.length => r.lt h)
  have C := Lib.hid (pkI w (some ⟨g, 0, none⟩) cap g l r hn)
  have R := Lib.hid r
  have CD := Lib.hid (fun w1 => dayI d w1)
  have CW := Lib.hid (fun w1 h hv => wvC d w1 cap g l h hv)
  clear r
  obtain ⟨n, hnz⟩ : ∃ n, n = l.length := ⟨_, rfl⟩
  rw [← hnz] at hn C CW ⊢
  have HNZ := Lib.hid hnz
  clear hnz
  refine (callsIn_wide (n := 8)).1 ?_
  have hro : Fence.wide.round = none := rfl
  have hw1 : Fence.wide.fn 92 := trivial
  have hw2 : Fence.wide.fn 79 := trivial
  have hw3 : Fence.wide.fn 120 := trivial
  have hw4 : Fence.wide.fn 117 := trivial
  refine callsIn_of_wp_marks Try.func111 rfl trivial ?_ hro
  simp only [Try.ntmps111, List.size_toArray, List.length_cons, List.length_nil, Nat.reduceAdd, Nat.reduceSub, Array.replicate_succ, Array.replicate_zero, List.push_toArray, List.append_toArray, List.nil_append, List.cons_append]
  gi_wp2_with fail
  refine (callsIn_wide.2 C.out).mono ?_
  rintro e w1 ⟨rfl, b1⟩
  have BN := Lib.hid b1
  have R1 := Lib.hid (R.out.keep (w' := w1) fun h => b1.block g (GL.out h))
  clear b1 R C
  cases hv : pl.pv l with
  | false =>
    have MM := Lib.hid (HM.out.trans (pof_f hv))
    clear hv
    gi_wp2
    refine ⟨.int .i64 (-1), ?_, by rw [MM.out], BN.out⟩
    simp [results, Try.f111, go_sem]
  | true =>
    have HV := Lib.hid hv
    have PVH := Lib.hid (pl.pv_iff.1 hv)
    clear hv
    cases hd : inR d 0 100000 with
    | false =>
      rw [hd] at CD
      have MM := Lib.hid (HM.out.trans (pof_g HV.out hd))
      clear hd
      gi_wp2_with fail
      refine (callsIn_wide.2 (CD.out _)).mono ?_
      rintro e w' ⟨rfl, rfl⟩
      gi_wp2
      refine ⟨.int .i64 (-1), ?_, by rw [MM.out], BN.out⟩
      simp [results, Try.f111, go_sem]
    | true =>
      rw [hd] at CD
      have MM := Lib.hid (HM.out.trans (pof_t HV.out hd))
      clear hd
      gi_wp2_with fail
      refine (callsIn_wide.2 (CD.out _)).mono ?_
      rintro e w' ⟨rfl, rfl⟩
      gi_wp2_with fail
      refine (callsIn_wide.2 (CW.out w1 R1.out PVH.out)).mono ?_
      rintro e w2 ⟨c2, g2, rfl, r2, l2, k2, b2⟩
      have R2 := Lib.hid r2
      have B2 := Lib.hid (BN.out.trans (b2.mono BN.out.size))
      clear r2 b2
      gi_wp2_with fail
      refine (callsIn_wide.2 (odC _ _ _ _)).mono ?_
      rintro e w3 ⟨rfl, rfl⟩
      gi_wp2_with fail
      obtain ⟨F, hF⟩ : ∃ F, F = pl.fs (wv d) 0 l n := ⟨_, rfl⟩
      rw [← hF]
      clear hF
      have LW := Lib.hid (show (wvL l d).length = n from by rw [HNZ.out]; unfold wvL; simp)
      have PW := Lib.hid (show ∀ i, i < (wvL l d).length → pl.Pin ((wvL l d).getD i zz) from fun i hi => by
        have hi' : i < l.length := by have := LW.out; have := HNZ.out; omega
        rw [wvL_get hi']; exact wvX_pin (PVH.out.pin hi'))
      have hn24 : n ≤ 24 := by rw [HNZ.out]; exact PVH.out.1
      have m2 := R2.out.room
      rw [LW.out] at m2
      obtain ⟨W0, hW0⟩ : ∃ W0, W0 = (w2.alloc (.cells #[.int .i64 0] 2)).alloc (.cells #[.slice (some ⟨g2, 0, none⟩) n c2] 60) := ⟨_, rfl⟩
      have sz : W0.heap.size = w2.heap.size + 2 := by rw [hW0]; simp
      have al1 := Below.heap_alloc w2 (.cells #[.int .i64 0] 2)
      have al2 := Below.heap_alloc (w2.alloc (.cells #[.int .i64 0] 2)) (.cells #[.slice (some ⟨g2, 0, none⟩) n c2] 60)
      have R0 := Lib.hid (show Row W0 (some ⟨g2, 0, none⟩) c2 g2 (wvL l d) from R2.out.keep fun _ => by rw [hW0]; exact (al2 g2 (by simp; omega)).trans (al1 g2 k2))
      have SB := Lib.hid (show W0.cell? ⟨w2.heap.size, 0, none⟩ = some (.int .i64 0) from by
        rw [hW0, World.cell?_of_block (w := w2.alloc (.cells #[.int .i64 0] 2)) (a := ⟨w2.heap.size, 0, none⟩) (al2 _ (by simp))]
        exact box_cell (box_refl w2 _) 0 rfl)
      have SF := Lib.hid (show W0.frozen? ⟨w2.heap.size, 0, none⟩ = false from by
        rw [hW0, World.frozen?_of_block (w := w2.alloc (.cells #[.int .i64 0] 2)) (a := ⟨w2.heap.size, 0, none⟩) (al2 _ (by simp))]
        exact World.frozen?_alloc_new w2 _ _ 0)
      have HB := Lib.hid (show W0.cell? ⟨w2.heap.size + 1, 0, none⟩ = some (.slice (some ⟨g2, 0, none⟩) n c2) from by
        have := box_cell (box_refl (w2.alloc (.cells #[.int .i64 0] 2)) (.cells #[.slice (some ⟨g2, 0, none⟩) n c2] 60)) 0 rfl
        rw [World.size_alloc] at this
        rw [hW0]; exact this)
      have BW := Lib.hid (show Below w.heap.size w W0 from by rw [hW0]; exact (B2.out.alloc B2.out.size _).alloc (by simp; have := B2.out.size; omega) _)
      have hws : w.heap.size ≤ w2.heap.size := B2.out.size
      rw [← hW0]
      obtain ⟨sb, hsb⟩ : ∃ sb, sb = w2.heap.size := ⟨_, rfl⟩
      obtain ⟨Bs, hBs⟩ : ∃ Bs, Bs = w2.heap.size + 1 := ⟨_, rfl⟩
      rw [← hsb] at SB SF
      rw [← hBs] at HB
      try rw [← hBs]
      try rw [← hsb]
      have wsb : w.heap.size ≤ sb := by omega
      have nsB : Bs ≠ sb := by omega
      have ngs : g2 ≠ sb := by omega
      have hsW : sb < W0.heap.size := by omega
      clear hW0 hsb hBs al1 al2 k2 l2 B2 R2
      refine rf.range hro (by omega) (gf := 123) (lb := #[.pointer (some ⟨Bs, 0, none⟩)]) rfl trivial (enters_of Try.func123 (by kernel_rfl) rfl)
        (odIt 7 (by omega) g2 Bs c2 (wvL l d) (by rw [LW.out]; exact hn24) (by rw [LW.out]; exact m2) PW.out) (fun _ => rfl)
        (fun pre W => Row W (some ⟨g2, 0, none⟩) c2 g2 (wvL l d) ∧ W.cell? ⟨Bs, 0, none⟩ = some (.slice (some ⟨g2, 0, none⟩) n c2) ∧ W.cell? ⟨sb, 0, none⟩ = some (.int .i64 (sm pre)) ∧ W.frozen? ⟨sb, 0, none⟩ = false ∧ Below w.heap.size w W)
        (fun _ _ _ => False)
        (fun x a' W => ∃ Bx, W.cell? ⟨Bx, 1, none⟩ = some (.int .i64 x.2) ∧ a' = { tmps := #[.slice (some ⟨g, 0, none⟩) n cap, .int .i64 d, undef, undef, .int .i64 0, .slice (some ⟨g2, 0, none⟩) n c2, .int .i64 F, .pointer (some ⟨sb, 0, none⟩), .pointer (some ⟨Bx, 0, none⟩), .slice (some ⟨g, 0, none⟩) n cap, .bool true, .bool false, .bool false, .int .i64 d, .bool true, .bool false, .bool false, .tuple #[.slice (some ⟨g2, 0, none⟩) n c2, .int .i64 F], .slice (some ⟨g, 0, none⟩) n cap, .int .i64 d, .tuple #[.slice (some ⟨g2, 0, none⟩) n c2, .int .i64 F], .slice (some ⟨g2, 0, none⟩) n c2, .int .i64 F, .slice (some ⟨g2, 0, none⟩) n c2, .func (.func 123) #[] #[.pointer (some ⟨Bs, 0, none⟩)], .agg #[.pointer (some ⟨g2, x.1, none⟩), .int .i64 x.2], undef, undef, undef, undef, undef], defers := [] })
        (fun s A B row hs hg hr => ⟨row_own hs.1 hg (fun r e => (hr r e).2), cell_kept hs.2.1 hg (fun r e => (hr r e).2), cell_kept hs.2.2.1 hg (fun r e => (hr r e).2), frz_own hs.2.2.1 hs.2.2.2.1 hg (fun r e => (hr r e).2), hs.2.2.2.2.grown hg hs.2.2.2.2.size (fun k e => (Nat.le_trans BW.out.size (hr k e).1))⟩)
        (fun _ _ _ _ _ hs _ _ => hs)
        (fun x a' s A B row hs hg hr => by obtain ⟨Bx, h1, h2⟩ := hs; exact ⟨Bx, cell_kept h1 hg (fun r e => (hr r e).2), h2⟩)
        (fun pre W h => ⟨by rw [LW.out]; exact h.2.1, fun i hi _ => h.1.cells i hi⟩)
        ⟨R0.out, HB.out, SB.out, SF.out, BW.out⟩ ?assign ?body ?done ?stop
      case assign =>
        rintro lp pre x W K ⟨h1, h2, h3, h4, h5⟩ hV hK
        dsimp only [encD]
        gi_wp2
        have gr := World.grownBy_alloc W (.cells #[.pointer (some ⟨g2, x.1, none⟩), .int .i64 x.2] 127) none
        exact hK _ _ ((KeepsOthers.alloc _ _).from _) ⟨row_own h1 gr (fun r e => by cases e), cell_kept h2 gr (fun r e => by cases e), cell_kept h3 gr (fun r e => by cases e), frz_own h3 h4 gr (fun r e => by cases e), h5.alloc h5.size _⟩ ⟨W.heap.size, box_cell (box_refl W _) 1 rfl, rfl⟩
      case body =>
        rintro lp pre x a' W ⟨h1, h2, h3, h4, h5⟩ hV ⟨Bx, hb, rfl⟩
        obtain ⟨v1, v2, v3, v4⟩ := Nx_b (by rw [LW.out]; exact hn24) PW.out hV
        have H1 := Lib.hid h1
        have H5 := Lib.hid h5
        have SA := Lib.hid (show sm (pre ++ [x]) = sm pre + x.2 from by rw [sm_app]; simp [sm])
        obtain ⟨S, hS⟩ : ∃ S, S = sm pre := ⟨_, rfl⟩
        rw [← hS] at v1 v2 h3 SA
        clear hV hS h1 h5
        gi_wp2
        refine ⟨(KeepsOthers.setCell W _ _).from _, trivial, H1.out.keep fun _ => Below.heap_setCell _ _ _ _ ngs, ?_, ?_, ?_, H5.out.setCell (p := ⟨sb, 0, none⟩) wsb _⟩
        · exact (World.cell?_setCell_other W ⟨sb, 0, none⟩ ⟨Bs, 0, none⟩ _ (fun q => by injection q with q1 q2; exact nsB (by omega))).trans h2
        · rw [SA.out]; exact World.cell?_setCell_same' _ _ _ (by rw [h3]; rfl)
        · rw [World.frozen?_setCell]; exact h4
      case done =>
        rintro xs W D hD hK rfl ⟨h1, h2, h3, h4, h5⟩
        have E := Lib.hid (show M = sm (DS (wvL l d) (wvL l d).length) from by
          rw [MM.out, DS_sm PW.out _ (Nat.le_refl _), LW.out, HNZ.out, pf_op _ (Nat.le_refl _)])
        have H5 := Lib.hid h5
        have bws := BW.out.size
        obtain ⟨S, hS⟩ : ∃ S, S = sm (DS (wvL l d) (wvL l d).length) := ⟨_, rfl⟩
        rw [← hS] at h3 E
        clear hS h1 h2 h4 h5
        gi_wp2
        refine ⟨by simp, .inl ⟨_, _, rfl, run_takeDeferred hK, ?_⟩⟩
        refine ⟨.int .i64 S, ?_, by rw [E.out], H5.out.trans (belowK_b (w := w) (Nat.le_refl _) W D _ _ (by omega) hK rfl rfl)⟩
        simp [results, Try.f111, go_sem]
      case stop => intro c pre W D _ _ h; exact h.elim
end Go.Proofs.Ytmaejlfjdkkpdaa.base

namespace Go.Proofs.Ytmaejlfjdkkpdaa.rf
open Go.ChangeShapes Go.WideShapes Go.ChangeAt Go.RowKit
variable {F : Fence} {n : Nat} {P : Program}
/-- Every block from N on lies as it lay. -/
def Kept (N : Nat) (A B : World) : Prop := A.heap.size ≤ B.heap.size ∧ ∀ k, N ≤ k → k < A.heap.size → B.heap[k]? = A.heap[k]?
theorem Kept.refl (N : Nat) (A : World) : Kept N A A := ⟨Nat.le_refl _, fun _ _ _ => rfl⟩
theorem Kept.trans {N : Nat} {A B C : World} (h : Kept N A B) (k : Kept N B C) : Kept N A C := ⟨Nat.le_trans h.1 k.1, fun i hi hl => (k.2 i hi (Nat.lt_of_lt_of_le hl h.1)).trans (h.2 i hi hl)⟩
theorem Kept.mono {N M : Nat} {A B : World} (h : Kept N A B) (hm : N ≤ M) : Kept M A B := ⟨h.1, fun i hi hl => h.2 i (Nat.le_trans hm hi) hl⟩
theorem Kept.from {N : Nat} {A B : World} (h : Kept N A B) : KeepsFrom N A B := ⟨h.1, fun k _ hk h0 _ => (h.2 k hk (Array.getElem?_eq_some_iff.1 h0).1).trans h0⟩
theorem Kept.put {N : Nat} {A : World} {r : Nat} (o : Obj) (h : r < N) : Kept N A (A.putObj r o) := ⟨by simp [World.putObj], fun k hk _ => World.putObj_heap_other (by omega)⟩
theorem Kept.set {N : Nat} {A : World} {p : Addr} (v : Value) (h : p.block < N) : Kept N A (A.setCell p v) := ⟨by simp [World.setCell], fun k hk _ => Below.heap_setCell A p v k (by omega)⟩
theorem Kept.alloc (N : Nat) (A : World) (o : Obj) : Kept N A (A.alloc o) := ⟨by simp, fun k _ hl => Below.heap_alloc A o k hl⟩
theorem Kept.drew (N : Nat) (A : World) : Kept N A A.drew := ⟨Nat.le_refl _, fun _ _ _ => rfl⟩
theorem roundIn_wide {m k l : Nat} {f : FuncId} {tmps : Array Value} {assign body : Code} {w : World} {R : Ending → World → Prop} (h : RoundIn Fence.wide m P l f tmps assign body w R) : RoundIn Fence.wide k P l f tmps assign body w R := by
  exact ⟨h.1, fun c cs _ => h.2 c cs (room_wide _)⟩
/-- What a function does that is ranged over and that has memory of its own. -/
def IterK {α : Type} (F : Fence) (n : Nat) (P : Program) (g : Nat) (lb : Array Value) (encs : α → Array Value) (Q : List α → World → Prop) (V : List α → α → Prop) (S : List α → Prop) : Prop :=
  ∀ (l : Nat) (J Jx : List α → World → Prop) (W : World), OwnFrom W.heap.size J → OwnFrom W.heap.size Jx → (∀ pre A, J pre A → Q pre A) →
    (∀ pre x A, J pre A → V pre x → YieldAt F (n - 1) P l (encs x) A fun e B => (e = .returned (.bool true) ∧ J (pre ++ [x]) B ∧ Kept W.heap.size A B) ∨ (e = .returned (.bool false) ∧ Jx (pre ++ [x]) B ∧ KeepsFrom W.heap.size A B)) →
    J [] W → CallsIn F n P g (#[.func (.yield l) #[] #[]] ++ lb) W fun e B => (∃ v, e = .returned v) ∧ ((∃ xs, S xs ∧ J xs B) ∨ ∃ pre, Jx pre B)
theorem Book.grownK {D : Nat} {r : Loop} {A B : World} {row : Option Nat} (h : Book D r A) (hg : A.grownBy B row) (hr : ∀ k, row = some k → D + 2 ≤ k) : Book D r B :=
  ⟨(hg.block _ h.lt (fun e => by have := hr _ e.symm; omega)).trans h.lp, (hg.block _ (Nat.lt_of_succ_lt h.lt) (fun e => by have := hr _ e.symm; omega)).trans h.dfr⟩
theorem roundPost_mono {l : Nat} {R R' : Ending → World → Prop} (h : ∀ e w, R e w → R' e w) : ∀ e a w, roundPost P l R e a w → roundPost P l R' e a w := by
  intro e a w hp
  cases e <;> first
    | (obtain ⟨x, y, h1, h2⟩ := hp; exact ⟨x, y, h1, h _ _ h2⟩)
    | exact hp
    | exact h _ _ hp
section
variable {α : Type} {ps : Array Tmp} {assign body : Code} {fn : FuncId} {tm : Array Value} {encs : α → Array Value} {V : List α → α → Prop} {D : Nat} {I : List α → World → Prop} {Ix : Code → List α → World → Prop} {Ax : α → Act → World → Prop}
/-- How a round ends, the record with it. -/
theorem round_endK (hI : OwnFrom D I) (hIx : ∀ c, OwnFrom D (Ix c)) {xs : List α} {A : World} (hb : Book D (rcd fn tm ps assign body D .busy none) A) :
    ∀ e a' B, ownPostG D (Kept (D + 2)) I Ix xs A e a' B → roundPost P (D + 1) (fun e B =>
      (e = .returned (.bool true) ∧ I xs B ∧ Book D (rcd fn tm ps assign body D .ready none) B ∧ Kept (D + 2) A B) ∨
      (e = .returned (.bool false) ∧ ∃ c, Ix c xs B ∧ Book D (rcd fn tm ps assign body D .done (some c)) B ∧ KeepsFrom (D + 2) A B)) e a' B := by
  intro e a' B h
  have kf : ∀ {B : World} {r r' : Loop}, KeepsFrom D A B → B.heap[D + 1]? = some (.loop r) → KeepsFrom (D + 2) A (B.putObj (D + 1) (.loop r')) := fun {B r r'} hk _ => ⟨Nat.le_trans hk.size (by simp [World.putObj]), fun k o hk2 h0 ho => (World.putObj_heap_other (by omega)).trans (hk.same k o (by omega) h0 ho)⟩
  cases e with
  | normal =>
    obtain ⟨hk, hkp, hi⟩ := h
    have b2 := hb.kept hk
    exact ⟨_, _, run_endRound none b2.lp, .inl ⟨rfl, hI.putObj _ hi (Nat.le_succ _) b2.lp rfl, b2.put _, hkp.trans (Kept.put _ (by omega))⟩⟩
  | ret =>
    obtain ⟨hk, hi⟩ := h
    have b2 := hb.kept hk
    exact ⟨_, _, run_endRound (some .ret) b2.lp, .inr ⟨rfl, .ret, (hIx _).putObj _ hi (Nat.le_succ _) b2.lp rfl, b2.put _, kf hk b2.lp⟩⟩
  | exit id =>
    obtain ⟨hk, hi⟩ := h
    have b2 := hb.kept hk
    exact ⟨_, _, run_endRound (some (.exit id)) b2.lp, .inr ⟨rfl, .exit id, (hIx _).putObj _ hi (Nat.le_succ _) b2.lp rfl, b2.put _, kf hk b2.lp⟩⟩
  | goto t =>
    obtain ⟨hk, hi⟩ := h
    have b2 := hb.kept hk
    exact ⟨_, _, run_endRound (some (.goto t)) b2.lp, .inr ⟨rfl, .goto t, (hIx _).putObj _ hi (Nat.le_succ _) b2.lp rfl, b2.put _, kf hk b2.lp⟩⟩
  | panic c => exact h.elim
  | outgrown => exact h.elim
/-- One round. -/
theorem roundK (hfn : F.fn fn) (hps : ∀ x, (encs x).size = ps.size) (hI : OwnFrom D I) (hIx : ∀ c, OwnFrom D (Ix c)) (hAx : ∀ x a', OwnFrom D (fun (_ : Unit) W => Ax x a' W)) {m : Nat}
    (hassign : ∀ (l : Nat) (pre : List α) (x : α) (W : World) (K : Act → World → Prop), I pre W → V pre x → (∀ a' W', KeepsFrom D W W' → Kept (D + 2) W W' → I pre W' → Ax x a' W' → K a' W') →
      assign.wpIn (F.inRound l) m P (Exit.then K (fun _ _ _ => False)) { tmps := (ps.zip (encs x)).foldl (fun t (p, v) => t.setIfInBounds p v) tm, defers := [] } W)
    (hbody : ∀ (l : Nat) (pre : List α) (x : α) (a' : Act) (W : World), I pre W → V pre x → Ax x a' W → body.wpIn (F.inRound l) m P (ownPostG D (Kept (D + 2)) I Ix (pre ++ [x]) W) a' W)
    {pre : List α} {x : α} {A : World} (hi : I pre A) (hb : Book D (rcd fn tm ps assign body D .ready none) A) (hv : V pre x) :
    YieldAt F m P (D + 1) (encs x) A fun e B => (e = .returned (.bool true) ∧ I (pre ++ [x]) B ∧ Book D (rcd fn tm ps assign body D .ready none) B ∧ Kept (D + 2) A B) ∨
      (e = .returned (.bool false) ∧ ∃ c, Ix c (pre ++ [x]) B ∧ Book D (rcd fn tm ps assign body D .done (some c)) B ∧ KeepsFrom (D + 2) A B) := by
  refine ⟨fn, _, assign, body, run_yield (args := encs x) hb.lp (hps x), roundIn_of_wpIn hfn (hassign _ pre x A _ hi hv ?_)⟩
  intro a' W hk hkp hi' hax
  have b1 := hb.kept hk
  refine ⟨_, run_beginRound b1.lp rfl, ?_⟩
  have k1 : Kept (D + 2) A (W.putObj (D + 1) (.loop (rcd fn tm ps assign body D .busy none))) := hkp.trans (Kept.put _ (by omega))
  refine wpIn_mono (hbody _ pre x a' _ (hI.putObj _ hi' (Nat.le_succ _) b1.lp rfl) hv ((hAx x a').putObj (s := ()) _ hax (Nat.le_succ _) b1.lp rfl)) fun e a' B h => ?_
  have hw : ∀ (e : Ending) (B : World), ((e = .returned (.bool true) ∧ I (pre ++ [x]) B ∧ Book D (rcd fn tm ps assign body D .ready none) B ∧ Kept (D + 2) (W.putObj (D + 1) (.loop (rcd fn tm ps assign body D .busy none))) B) ∨
      (e = .returned (.bool false) ∧ ∃ c, Ix c (pre ++ [x]) B ∧ Book D (rcd fn tm ps assign body D .done (some c)) B ∧ KeepsFrom (D + 2) (W.putObj (D + 1) (.loop (rcd fn tm ps assign body D .busy none))) B)) → ((e = .returned (.bool true) ∧ I (pre ++ [x]) B ∧ Book D (rcd fn tm ps assign body D .ready none) B ∧ Kept (D + 2) A B) ∨
      (e = .returned (.bool false) ∧ ∃ c, Ix c (pre ++ [x]) B ∧ Book D (rcd fn tm ps assign body D .done (some c)) B ∧ KeepsFrom (D + 2) A B)) := by
    rintro e B (⟨h1, h2, h3, h4⟩ | ⟨h1, c, h2, h3, h4⟩)
    · exact .inl ⟨h1, h2, h3, k1.trans h4⟩
    · exact .inr ⟨h1, c, h2, h3, k1.from.trans h4⟩
  exact roundPost_mono hw _ _ _ (round_endK hI hIx (b1.put _) e a' B h)
end
/-- The statement. -/
theorem rangeK {α : Type} {g : Operand} {ps : Array Tmp} {assign body : Code} {R : Exit → Act → World → Prop} {a : Act} {w : World} (hro : F.round = none) (h1 : 1 ≤ n) {gf : Nat} {lb : Array Value} (hg : a.eval g = .func (.func gf) #[] lb) (hFg : F.fn gf)
    (eg : ∀ args w, (callFunc gf args).run P w = .ok (.enter gf args) w) {encs : α → Array Value} {Q : List α → World → Prop} {V : List α → α → Prop} {S : List α → Prop} (hit : IterK F (n - 1) P gf lb encs Q V S) (hps : ∀ x, (encs x).size = ps.size)
    (I : List α → World → Prop) (Ix : Code → List α → World → Prop) (Ax : α → Act → World → Prop) (hI : OwnFrom w.heap.size I) (hIx : ∀ c, OwnFrom w.heap.size (Ix c)) (hAx : ∀ x a', OwnFrom w.heap.size (fun (_ : Unit) W => Ax x a' W)) (hQ : ∀ pre W, I pre W → Q pre W) (h0 : I [] w)
    (hassign : ∀ (l : Nat) (pre : List α) (x : α) (W : World) (K : Act → World → Prop), I pre W → V pre x → (∀ a' W', KeepsFrom w.heap.size W W' → Kept (w.heap.size + 2) W W' → I pre W' → Ax x a' W' → K a' W') →
      assign.wpIn (F.inRound l) (n - 1 - 1) P (Exit.then K (fun _ _ _ => False)) { tmps := (ps.zip (encs x)).foldl (fun t (p, v) => t.setIfInBounds p v) a.tmps, defers := [] } W)
    (hbody : ∀ (l : Nat) (pre : List α) (x : α) (a' : Act) (W : World), I pre W → V pre x → Ax x a' W → body.wpIn (F.inRound l) (n - 1 - 1) P (ownPostG w.heap.size (Kept (w.heap.size + 2)) I Ix (pre ++ [x]) W) a' W)
    (hdone : ∀ (xs : List α) (W : World) (D : Nat), w.heap.size ≤ D → W.heap[D]? = some (.deferred (some [])) → S xs → I xs W → R .normal { a with defers := { target := .collected D, args := #[] } :: a.defers } W)
    (hstop : ∀ (c : Code) (pre : List α) (W : World) (D : Nat), w.heap.size ≤ D → W.heap[D]? = some (.deferred (some [])) → Ix c pre W → c.wpIn F n P R { a with defers := { target := .collected D, args := #[] } :: a.defers } W) :
    (Code.rangeFunc g ps assign body).wpIn F n P R a w := by
  refine wpIn_rangeFunc fun fn hfn => ?_
  rw [hro]
  have hbk := Book.new w (rcd fn a.tmps ps assign body w.heap.size .ready none)
  have hi0 : I [] ((w.alloc (.deferred (some []))).alloc (.loop (rcd fn a.tmps ps assign body w.heap.size .ready none))) := hI.alloc _ (hI.alloc _ h0)
  have hrun := run_enterLoop_outer (P := P) (w := w) fn a.tmps ps assign body
  change _ = Result.ok _ ((w.alloc (.deferred (some []))).alloc (.loop (rcd fn a.tmps ps assign body w.heap.size .ready none))) at hrun
  have hs2 : ((w.alloc (.deferred (some []))).alloc (.loop (rcd fn a.tmps ps assign body w.heap.size .ready none))).heap.size = w.heap.size + 2 := by simp
  generalize (w.alloc (.deferred (some []))).alloc (.loop (rcd fn a.tmps ps assign body w.heap.size .ready none)) = W1 at hbk hi0 hrun hs2
  have hs1 : w.heap.size ≤ W1.heap.size := by omega
  refine ⟨_, _, W1, { target := .fn (.func gf) lb, args := #[.func (.yield (w.heap.size + 1)) #[] #[]] }, W1, gf, #[.func (.yield (w.heap.size + 1)) #[] #[]] ++ lb, W1, hrun, ?_, ?_, ?_, fun _ => h1, ?_⟩
  · simp only [resolve, hg]
    simp [go_sem]
  · intro f' hf'
    simp [Target.leads] at hf'
    subst hf'
    exact hFg
  · simp [invoke, go_sem, eg]
  · refine (hit (w.heap.size + 1) (fun pre W => I pre W ∧ Book w.heap.size (rcd fn a.tmps ps assign body w.heap.size .ready none) W)
      (fun pre W => ∃ c, Ix c pre W ∧ Book w.heap.size (rcd fn a.tmps ps assign body w.heap.size .done (some c)) W) W1
      (fun pre A B row h hgr hr => ⟨hI pre A B row h.1 hgr (fun r e => ⟨Nat.le_trans hs1 (hr r e).1, (hr r e).2⟩), h.2.grownK hgr (fun r e => hs2 ▸ (hr r e).1)⟩)
      (fun pre A B row h hgr hr => by obtain ⟨c, h1, h2⟩ := h; exact ⟨c, hIx c pre A B row h1 hgr (fun r e => ⟨Nat.le_trans hs1 (hr r e).1, (hr r e).2⟩), h2.grownK hgr (fun r e => hs2 ▸ (hr r e).1)⟩)
      (fun pre A h => hQ pre A h.1)
      (fun pre x A h hv => by
        obtain ⟨fn', t', a1, b1, hy, hR⟩ := roundK hfn hps hI hIx hAx hassign hbody h.1 h.2 hv
        refine ⟨fn', t', a1, b1, hy, hR.mono ?_⟩
        rw [hs2]
        rintro e B (⟨h1, h2, h3, h4⟩ | ⟨h1, c, h2, h3, h4⟩)
        · exact .inl ⟨h1, ⟨h2, h3⟩, h4⟩
        · exact .inr ⟨h1, ⟨c, h2, h3⟩, h4⟩) ⟨hi0, hbk⟩).mono ?_
    rintro e W2 ⟨⟨v, rfl⟩, ⟨xs, hS, hi, hb⟩ | ⟨pre, c, hi, hb⟩⟩
    · exact ⟨none, _, run_endLoop hb.lp (by simp [rcd]), hdone xs _ w.heap.size (Nat.le_refl _) (hb.put _).dfr hS (hI.putObj _ hi (Nat.le_succ _) hb.lp rfl)⟩
    · exact ⟨some c, _, run_endLoop hb.lp (by simp [rcd]), hstop c pre _ w.heap.size (Nat.le_refl _) (hb.put _).dfr ((hIx c).putObj _ hi (Nat.le_succ _) hb.lp rfl)⟩
end Go.Proofs.Ytmaejlfjdkkpdaa.rf

namespace Go.Proofs.Ytmaejlfjdkkpdaa.base
open Go.ChangeShapes Go.WideShapes Go.ChangeAt Go.RowKit
open seven (F7 zz Row At)
open pl (inR prOk pok)
open gen
open Go.Shelf
attribute [local go_sem] Oper.semAt_some
def encB (x : Nat × F7) : Array Value := #[.int .i64 (x.1 : Int), .agg #[.int .i64 x.2.1, .int .i64 x.2.2.1, .int .i64 x.2.2.2.1, .int .i64 x.2.2.2.2.1, .int .i64 x.2.2.2.2.2.1, .int .i64 x.2.2.2.2.2.2.1, .int .i64 x.2.2.2.2.2.2.2]]
def encP (g : Nat) (j : Nat) : Array Value := #[.pointer (some ⟨g, j * 7, none⟩)]
/-- What is read while the Parts are handed on. -/
structure Rb (g Bs len cap k : Nat) (W : World) : Prop where
  hd : W.cell? ⟨Bs, 0, none⟩ = some (.slice (some ⟨g, 0, none⟩) len cap)
  pt : ∀ i, i + 1 + k = len → ∃ x, At W g (i * 7) x
set_option maxRecDepth 100000 in
set_option maxHeartbeats 4000000 in
theorem bwIt (n : Nat) (hn : 1 ≤ n) (g Bs len cap : Nat) (hlen : len ≤ 24) :
    rf.IterK Fence.wide n Try.prog 128 #[.pointer (some ⟨Bs, 0, none⟩)] encB (fun pre => Rb g Bs len cap pre.length) (fun pre x => x.1 + 1 + pre.length = len) (fun xs => xs.length = len) := by
  intro l J Jx W hst hsx hQ hY h0
  have HQ := Lib.hid hQ
  have HY := Lib.hid hY
  have hh0 := (hQ _ _ h0).hd
  clear hst hsx hQ hY
  have hro : Fence.wide.round = none := rfl
  refine callsIn_of_wp Try.func128 rfl trivial ?_ hro
  simp only [Try.ntmps128, List.size_toArray, List.length_cons, List.length_nil, Nat.reduceAdd, Nat.reduceSub, Array.replicate_succ, Array.replicate_zero, List.push_toArray, List.append_toArray, List.nil_append, List.cons_append]
  gi_wp2
  gi_loopw [3] (fun i wr => ∃ (pre : List (Nat × F7)) (m : Nat), m + pre.length = len ∧ i = .int .i64 ((m : Int) - 1) ∧ J pre wr) (fun i _ => (intOf i + 1).toNat)
  case atStart => exact ⟨[], len, by simp, by go_num, h0⟩
  case round =>
    obtain ⟨pre, m, hm, rfl, hJs⟩ := hrel
    cases m with
    | zero =>
      have hm' : pre.length = len := by omega
      gi_wp2
      go_end0
      exact ⟨⟨_, rfl⟩, .inl ⟨_, hm', hJs⟩⟩
    | succ j =>
      have ej : (((j + 1 : Nat) : Int) - 1) = (j : Int) := by omega
      rw [ej]
      clear ej
      have hs := (HQ.out _ _ hJs).hd
      obtain ⟨x, q⟩ := (HQ.out _ _ hJs).pt j (by omega)
      obtain ⟨x1, x2, x3, x4, x5, x6, x7⟩ := q
      obtain ⟨fn, tmps, assign, body, hy, hR⟩ := HY.out pre (j, x) wr hJs (by show j + 1 + pre.length = len; omega)
      dsimp only [encB] at hy
      have z0 : (0 : Int) ≤ (j : Int) := by omega
      have z1 : (j : Int) < (len : Int) := by omega
      gi_wp2
      refine hR.mono ?_
      rintro e W3 (⟨rfl, hJ3, hk3⟩ | ⟨rfl, hJx3, hk3⟩)
      · gi_wp2
        go_roundw
        case rel => exact ⟨pre ++ [(j, x)], j, by simp; omega, by go_num, hJ3⟩
        case measure => simp [intOf]
      · gi_wp2
        refine bodyPost_ret (results_none rfl _ _ _) rfl ?_
        exact ⟨⟨_, rfl⟩, .inr ⟨_, hJx3⟩⟩
theorem b7C (a : Option Addr) (len cap : Nat) (w : World) : Calls Try.prog 127 #[.slice a len cap] w fun e w' => e = .returned (.func (.func 128) #[] #[.pointer (some ⟨w.heap.size, 0, none⟩)]) ∧ w' = w.alloc (.cells #[.slice a len cap] 60) := by
  go_enter Try.func127, Try.ntmps127
  go_wp2
  go_ret
  exact ⟨rfl, rfl⟩
theorem bwC (a : Option Addr) (len cap : Nat) (w : World) : Calls Try.prog 119 #[.slice a len cap] w fun e w' => e = .returned (.func (.func 126) #[] #[.pointer (some ⟨w.heap.size, 0, none⟩)]) ∧ w' = w.alloc (.cells #[.slice a len cap] 60) := by
  go_enter Try.func119, Try.ntmps119
  go_wp2
  go_ret
  exact ⟨rfl, rfl⟩
end Go.Proofs.Ytmaejlfjdkkpdaa.base

namespace Go.Proofs.Ytmaejlfjdkkpdaa.base
open Go.ChangeShapes Go.WideShapes Go.ChangeAt Go.RowKit
open seven (F7 zz Row At)
open pl (inR prOk pok)
open gen
open Go.Shelf
attribute [local go_sem] Oper.semAt_some
set_option maxRecDepth 100000 in
set_option maxHeartbeats 4000000 in
theorem bkIt (n : Nat) (hn : 6 ≤ n) (g Bs len cap : Nat) (hlen : len ≤ 24) :
    rf.IterK Fence.wide n Try.prog 126 #[.pointer (some ⟨Bs, 0, none⟩)] (encP g) (fun pre => Rb g Bs len cap pre.length) (fun pre j => j + 1 + pre.length = len) (fun xs => xs.length = len) := by
  intro l J Jx W hst hsx hQ hY h0
  have HST := Lib.hid hst
  have HSX := Lib.hid hsx
  have HQ := Lib.hid hQ
  have HY := Lib.hid hY
  have hh0 := (hQ _ _ h0).hd
  have J0 := Lib.hid h0
  clear hst hsx hQ hY h0
  have hro : Fence.wide.round = none := rfl
  have hw1 : Fence.wide.fn 127 := trivial
  refine callsIn_of_wp_marks Try.func126 rfl trivial ?_ hro
  simp only [Try.ntmps126, List.size_toArray, List.length_cons, List.length_nil, Nat.reduceAdd, Nat.reduceSub, Array.replicate_succ, Array.replicate_zero, List.push_toArray, List.append_toArray, List.nil_append, List.cons_append]
  have hh1 : (W.alloc (.cells #[.func (.yield l) #[] #[]] 140)).cell? ⟨Bs, 0, none⟩ = some (.slice (some ⟨g, 0, none⟩) len cap) := cell_kept hh0 (World.grownBy_alloc W _ none) (fun r e => by cases e)
  gi_wp2_with fail
  refine ⟨fun _ => (by omega), (callsIn_wide.2 (b7C _ _ _ _)).mono ?_⟩
  rintro e w3 ⟨rfl, rfl⟩
  gi_wp2_with fail
  obtain ⟨W1, hW1⟩ : ∃ W1, W1 = W.alloc (.cells #[.func (.yield l) #[] #[]] 140) := ⟨_, rfl⟩
  rw [← hW1] at hh1
  rw [← hW1]
  have s1 : W1.heap.size = W.heap.size + 1 := by rw [hW1]; simp
  have J1 := Lib.hid (show J [] W1 from by rw [hW1]; exact HST.out _ _ _ none J0.out (World.grownBy_alloc W _ none) (fun r e => by cases e))
  have Y1 : W1.cell? ⟨W.heap.size, 0, none⟩ = some (.func (.yield l) #[] #[]) := by rw [hW1]; exact box_cell (box_refl W _) 0 rfl
  clear hW1 hh0 J0
  obtain ⟨W2, hW2⟩ : ∃ W2, W2 = W1.alloc (.cells #[.slice (some ⟨g, 0, none⟩) len cap] 60) := ⟨_, rfl⟩
  rw [← hW2]
  have s2 : W2.heap.size = W1.heap.size + 1 := by rw [hW2]; simp
  have J2 := Lib.hid (show J [] W2 from by rw [hW2]; exact HST.out _ _ _ none J1.out (World.grownBy_alloc W1 _ none) (fun r e => by cases e))
  have Y2 : W2.cell? ⟨W.heap.size, 0, none⟩ = some (.func (.yield l) #[] #[]) := by rw [hW2]; exact cell_kept Y1 (World.grownBy_alloc W1 _ none) (fun r e => by cases e)
  have H2 : W2.cell? ⟨W1.heap.size, 0, none⟩ = some (.slice (some ⟨g, 0, none⟩) len cap) := by rw [hW2]; exact box_cell (box_refl W1 _) 0 rfl
  clear hW2 hh1 Y1 J1
  obtain ⟨N, hN⟩ : ∃ N, N = W.heap.size := ⟨_, rfl⟩
  obtain ⟨By, hBy⟩ : ∃ By, By = W.heap.size := ⟨_, rfl⟩
  obtain ⟨Bh, hBh⟩ : ∃ Bh, Bh = W1.heap.size := ⟨_, rfl⟩
  have e1 : W.heap.size + 1 = Bh := by omega
  rw [← hN] at HST HSX HY
  try rw [e1]
  try rw [← hBh]
  rw [← hBh] at H2 s2 s1
  clear e1
  rw [← hBy] at Y2 s1
  rw [← hBy]
  have nBy : N ≤ By := by omega
  have nBh : N ≤ Bh := by omega
  have hyh : By ≠ Bh := by omega
  have nW2 : N ≤ W2.heap.size := by omega
  have ly : By < W2.heap.size := by omega
  have lh : Bh < W2.heap.size := by omega
  clear hN hBy hBh s1 s2
  refine rf.rangeK hro (by omega) (gf := 128) (lb := #[.pointer (some ⟨Bh, 0, none⟩)]) rfl trivial (enters_of Try.func128 (by kernel_rfl) rfl)
    (bwIt (n - 1) (by omega) g Bh len cap hlen) (fun _ => rfl)
    (fun pre A => J (pre.map Prod.fst) A ∧ A.cell? ⟨By, 0, none⟩ = some (.func (.yield l) #[] #[]) ∧ A.cell? ⟨Bh, 0, none⟩ = some (.slice (some ⟨g, 0, none⟩) len cap) ∧ W2.heap.size ≤ A.heap.size)
    (fun c pre A => c = .ret ∧ Jx (pre.map Prod.fst) A)
    (fun x a' A => a' = { tmps := #[.func (.yield l) #[] #[], .pointer (some ⟨Bs, 0, none⟩), .pointer (some ⟨By, 0, none⟩), .int .i64 (x.1 : Int), .slice (some ⟨g, 0, none⟩) len cap, .func (.func 128) #[] #[.pointer (some ⟨Bh, 0, none⟩)], .int .i64 (x.1 : Int), .agg #[.int .i64 x.2.1, .int .i64 x.2.2.1, .int .i64 x.2.2.2.1, .int .i64 x.2.2.2.2.1, .int .i64 x.2.2.2.2.2.1, .int .i64 x.2.2.2.2.2.2.1, .int .i64 x.2.2.2.2.2.2.2], undef, undef, undef, undef, undef, undef], defers := [] })
    (fun s A B row hs hg hr => ⟨HST.out _ _ _ row hs.1 hg (fun r e => ⟨Nat.le_trans nW2 (hr r e).1, (hr r e).2⟩), cell_kept hs.2.1 hg (fun r e => (hr r e).2), cell_kept hs.2.2.1 hg (fun r e => (hr r e).2), Nat.le_trans hs.2.2.2 hg.size⟩)
    (fun c s A B row hs hg hr => ⟨hs.1, HSX.out _ _ _ row hs.2 hg (fun r e => ⟨Nat.le_trans nW2 (hr r e).1, (hr r e).2⟩)⟩)
    (fun x a' s A B row hs _ _ => hs)
    (fun pre A h => ⟨h.2.2.1, fun i hi => by have := (HQ.out _ _ h.1).pt i (by rw [List.length_map]; exact hi); exact this⟩)
    ⟨J2.out, Y2, H2, Nat.le_refl _⟩ ?assign ?body ?done ?stop
  case assign =>
    rintro lp pre x A K hI hV hK
    dsimp only [encB]
    gi_wp2
    exact hK _ _ (KeepsFrom.refl _ _) (rf.Kept.refl _ _) hI rfl
  case body =>
    rintro lp pre x a' A ⟨h1, h2, h3, h4⟩ hV rfl
    have hJd : J (pre.map Prod.fst) A.drew := HST.out _ _ _ none h1 (by_below (Below.refl _ A).drew) (fun r e => by cases e)
    obtain ⟨fn, tmps, assign, body, hy, hR⟩ := HY.out (pre.map Prod.fst) x.1 A.drew hJd (by rw [List.length_map]; exact hV)
    have hR' := Lib.hid (show RoundIn Fence.wide (n - 1) Try.prog l fn tmps assign body A.drew (fun e B => ∃ b : Bool, e = .returned (.bool b) ∧ (b = true → J (pre.map Prod.fst ++ [x.1]) B ∧ rf.Kept N A.drew B) ∧ (b = false → Jx (pre.map Prod.fst ++ [x.1]) B ∧ KeepsFrom N A.drew B)) from hR.mono fun e B h => by
      rcases h with ⟨rfl, h2, h3⟩ | ⟨rfl, h2, h3⟩
      · exact ⟨true, rfl, fun _ => ⟨h2, h3⟩, fun h => by cases h⟩
      · exact ⟨false, rfl, fun h => (by cases h), fun _ => ⟨h2, h3⟩⟩)
    dsimp only [encP] at hy
    have hd := (HQ.out _ _ h1).hd
    have mixed : Try.prog.follows .mixedOrders = true := Try.checked.mixed
    obtain ⟨j, hj⟩ : ∃ j, j = x.1 := ⟨_, rfl⟩
    have hjl : j < len := by rw [hj]; omega
    rw [← hj] at hy hR' ⊢
    have z0 : (0 : Int) ≤ (j : Int) := by omega
    have z1 : (j : Int) < (len : Int) := by omega
    have HJ := Lib.hid hj
    have EJ := Lib.hid (show (pre ++ [x]).map Prod.fst = pre.map Prod.fst ++ [j] from by rw [hj]; simp)
    have kd : rf.Kept N A A.drew := rf.Kept.drew _ _
    have FT := Lib.hid (show ∀ W3, (J (pre.map Prod.fst ++ [j]) W3 ∧ rf.Kept N A.drew W3) → KeepsFrom W2.heap.size A W3 ∧ rf.Kept (W2.heap.size + 2) A W3 ∧ J ((pre ++ [x]).map Prod.fst) W3 ∧ W3.cell? ⟨By, 0, none⟩ = some (.func (.yield l) #[] #[]) ∧ W3.cell? ⟨Bh, 0, none⟩ = some (.slice (some ⟨g, 0, none⟩) len cap) ∧ W2.heap.size ≤ W3.heap.size from fun W3 h => by
      have hk := kd.trans h.2
      refine ⟨(hk.mono nW2).from, hk.mono (by omega), by rw [EJ.out]; exact h.1, ?_, ?_, Nat.le_trans h4 hk.1⟩
      · rw [World.cell?_of_block (w := A) (a := ⟨By, 0, none⟩) (hk.2 By nBy (by omega))]; exact h2
      · rw [World.cell?_of_block (w := A) (a := ⟨Bh, 0, none⟩) (hk.2 Bh nBh (by omega))]; exact h3)
    have FF := Lib.hid (show ∀ W3, (Jx (pre.map Prod.fst ++ [j]) W3 ∧ KeepsFrom N A.drew W3) → KeepsFrom W2.heap.size A W3 ∧ Jx ((pre ++ [x]).map Prod.fst) W3 from fun W3 h => by
      have hk := kd.from.trans h.2
      exact ⟨⟨hk.size, fun k o hk2 h0 ho => hk.same k o (Nat.le_trans nW2 hk2) h0 ho⟩, by rw [EJ.out]; exact h.1⟩)
    clear hR hJd h1 hj hV kd EJ h3 h4
    gi_wp2_with fail
    gi_region_with (first | (refine (rf.roundIn_wide hR'.out).mono ?_; rintro e W3 ⟨b, rfl, hb1, hb2⟩) | (refine ⟨fun _ => (by omega), (rf.roundIn_wide hR'.out).mono ?_⟩; rintro e W3 ⟨b, rfl, hb1, hb2⟩))
    all_goals
      cases b
      · have FE := Lib.hid (FF.out W3 (hb2 rfl))
        clear hb1 hb2 FF FT
        gi_wp2
        exact ⟨FE.out.1, rfl, FE.out.2⟩
      · have FE := Lib.hid (FT.out W3 (hb1 rfl))
        clear hb1 hb2 FF FT
        gi_wp2
        exact FE.out
  case done =>
    rintro xs A D hD hK hS ⟨h1, h2, h3, h4⟩
    gi_wp2
    refine ⟨by simp, .inl ⟨_, _, rfl, run_takeDeferred hK, ?_⟩⟩
    refine ⟨_, results_none rfl _ _ _, ?_⟩
    exact ⟨⟨_, rfl⟩, .inl ⟨xs.map Prod.fst, by rw [List.length_map]; exact hS, HST.out.putObj _ h1 (Nat.le_trans nW2 hD) hK rfl⟩⟩
  case stop =>
    rintro c pre A D hD hK ⟨rfl, hx⟩
    gi_wp2
    refine ⟨by simp, .inl ⟨_, _, rfl, run_takeDeferred hK, ?_⟩⟩
    refine ⟨_, results_none rfl _ _ _, ?_⟩
    exact ⟨⟨_, rfl⟩, .inr ⟨pre.map Prod.fst, HSX.out.putObj _ hx (Nat.le_trans nW2 hD) hK rfl⟩⟩
end Go.Proofs.Ytmaejlfjdkkpdaa.base
