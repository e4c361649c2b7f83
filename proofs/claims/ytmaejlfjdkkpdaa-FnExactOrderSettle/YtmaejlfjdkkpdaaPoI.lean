/-
  Plain helpers of this seat's proofs: the contract of the landed PayoffOf. Conditions: none.
-/
import Derived.Test.YtmaejlfjdkkpdaaWv
import Derived.RangeFuncNested
import Derived.RangeFuncBound
import Derived.RangeFuncCalls
import Derived.RangeFuncLeaves
import Derived.Shelf.Abstract
import Derived.Shelf.AbstractIn
import Derived.Shelf.RegionOpen
import Derived.OwnWalkIn
import Derived.TacticsInMore
import Derived.LoopNIn
import Derived.LoopIn
namespace Go.Proofs.Ytmaejlfjdkkpdaa.base
open Go.ChangeShapes Go.WideShapes Go.ChangeAt Go.RowKit
open seven (F7 zz Row At)
open pl (inR prOk pok)
open gen
open Go.Shelf
attribute [local go_sem] Oper.semAt_some
theorem row_own {A B : World} {row : Option Nat} {a : Option Addr} {cap g : Nat} {l : List F7} (r : Row A a cap g l) (hg : A.grownBy B row) (hr : ∀ r, row = some r → ∃ o : Obj, A.heap[r]? = some o ∧ o.isCells = false) : Row B a cap g l := by
  refine r.keep fun h => ?_
  obtain ⟨o, ho, hc⟩ := cells_of_cell (r.cells 0 h).c0
  refine hg.block g (r.lt h) fun e => ?_
  obtain ⟨o', ho', hc'⟩ := hr g e.symm
  rw [show A.heap[g]? = some o from ho] at ho'
  cases ho'
  rw [hc] at hc'
  cases hc'
theorem frz_own {A B : World} {row : Option Nat} {ad : Addr} {v : Value} (h : A.cell? ad = some v) (f : A.frozen? ad = false) (hg : A.grownBy B row) (hr : ∀ r, row = some r → ∃ o : Obj, A.heap[r]? = some o ∧ o.isCells = false) : B.frozen? ad = false := by
  obtain ⟨o, ho, hc⟩ := cells_of_cell h
  have e : B.heap[ad.block]? = A.heap[ad.block]? := hg.block _ (Array.getElem?_eq_some_iff.1 ho).1 fun e => by
    obtain ⟨o', ho', hc'⟩ := hr _ e.symm
    rw [ho] at ho'
    cases ho'
    rw [hc] at hc'
    cases hc'
  rw [World.frozen?_of_block e]; exact f
theorem odC (a : Option Addr) (len cap : Nat) (w : World) : Calls Try.prog 117 #[.slice a len cap] w fun e w' => e = .returned (.func (.func 123) #[] #[.pointer (some ⟨w.heap.size, 0, none⟩)]) ∧ w' = w.alloc (.cells #[.slice a len cap] 60) := by
  go_enter Try.func117, Try.ntmps117
  go_wp2
  go_ret
  exact ⟨rfl, rfl⟩
set_option maxRecDepth 100000 in
set_option maxHeartbeats 4000000 in
theorem poI (d : Int) (w : World) (cap g : Nat) (l : List F7) (r : Row w (some ⟨g, 0, none⟩) cap g l) (hn : l.length ≤ 1048577) : Calls Try.prog 111 #[.slice (some ⟨g, 0, none⟩) l.length cap, .int .i64 d] w fun e w' => e = .returned (.int .i64 (pof l d)) ∧ Below w.heap.size w w' := by
  obtain ⟨M, hM⟩ : ∃ M, M = pof l d := ⟨_, rfl⟩
  rw [← hM]
  have HM := Lib.hid hM
  clear hM
  have GL := Lib.hid (fun h : 0 < l.length => r.lt h)
  have C := Lib.hid (pkI w (some ⟨g, 0, none⟩) cap g l r hn)
  have R := Lib.hid r
  have CD := Lib.hid (fun w1 => dayI d w1)
  have CW := Lib.hid (fun w1 h hv => wvC d w1 cap g l h hv)
  clear r
  obtain ⟨n, hnz⟩ : ∃ n, n = l.length := ⟨_, rfl⟩
  rw [← hnz] at hn C CW ⊢
  have HNZ := Lib.hid hnz
  clear hnz
  refine (callsIn_wide (n := 8)).1 ?_
  have hro : Fence.wide.round = none := rfl
  have hw1 : Fence.wide.fn 92 := trivial
  have hw2 : Fence.wide.fn 79 := trivial
  have hw3 : Fence.wide.fn 120 := trivial
  have hw4 : Fence.wide.fn 117 := trivial
  refine callsIn_of_wp_marks Try.func111 rfl trivial ?_ hro
  simp only [Try.ntmps111, List.size_toArray, List.length_cons, List.length_nil, Nat.reduceAdd, Nat.reduceSub, Array.replicate_succ, Array.replicate_zero, List.push_toArray, List.append_toArray, List.nil_append, List.cons_append]
  gi_wp2_with fail
  refine (callsIn_wide.2 C.out).mono ?_
  rintro e w1 ⟨rfl, b1⟩
  have BN := Lib.hid b1
  have R1 := Lib.hid (R.out.keep (w' := w1) fun h => b1.block g (GL.out h))
  clear b1 R C
  cases hv : pl.pv l with
  | false =>
    have MM := Lib.hid (HM.out.trans (pof_f hv))
    clear hv
    gi_wp2
    refine ⟨.int .i64 (-1), ?_, by rw [MM.out], BN.out⟩
    simp [results, Try.f111, go_sem]
  | true =>
    have HV := Lib.hid hv
    have PVH := Lib.hid (pl.pv_iff.1 hv)
    clear hv
    cases hd : inR d 0 100000 with
    | false =>
      rw [hd] at CD
      have MM := Lib.hid (HM.out.trans (pof_g HV.out hd))
      clear hd
      gi_wp2_with fail
      refine (callsIn_wide.2 (CD.out _)).mono ?_
      rintro e w' ⟨rfl, rfl⟩
      gi_wp2
      refine ⟨.int .i64 (-1), ?_, by rw [MM.out], BN.out⟩
      simp [results, Try.f111, go_sem]
    | true =>
      rw [hd] at CD
      have MM := Lib.hid (HM.out.trans (pof_t HV.out hd))
      clear hd
      gi_wp2_with fail
      refine (callsIn_wide.2 (CD.out _)).mono ?_
      rintro e w' ⟨rfl, rfl⟩
      gi_wp2_with fail
      refine (callsIn_wide.2 (CW.out w1 R1.out PVH.out)).mono ?_
      rintro e w2 ⟨c2, g2, rfl, r2, l2, k2, b2⟩
      have R2 := Lib.hid r2
      have B2 := Lib.hid (BN.out.trans (b2.mono BN.out.size))
      clear r2 b2
      gi_wp2_with fail
      refine (callsIn_wide.2 (odC _ _ _ _)).mono ?_
      rintro e w3 ⟨rfl, rfl⟩
      gi_wp2_with fail
      obtain ⟨F, hF⟩ : ∃ F, F = pl.fs (wv d) 0 l n := ⟨_, rfl⟩
      rw [← hF]
      clear hF
      have LW := Lib.hid (show (wvL l d).length = n from by rw [HNZ.out]; unfold wvL; simp)
      have PW := Lib.hid (show ∀ i, i < (wvL l d).length → pl.Pin ((wvL l d).getD i zz) from fun i hi => by
        have hi' : i < l.length := by have := LW.out; have := HNZ.out; omega
        rw [wvL_get hi']; exact wvX_pin (PVH.out.pin hi'))
      have hn24 : n ≤ 24 := by rw [HNZ.out]; exact PVH.out.1
      have m2 := R2.out.room
      rw [LW.out] at m2
      obtain ⟨W0, hW0⟩ : ∃ W0, W0 = (w2.alloc (.cells #[.int .i64 0] 2)).alloc (.cells #[.slice (some ⟨g2, 0, none⟩) n c2] 60) := ⟨_, rfl⟩
      have sz : W0.heap.size = w2.heap.size + 2 := by rw [hW0]; simp
      have al1 := Below.heap_alloc w2 (.cells #[.int .i64 0] 2)
      have al2 := Below.heap_alloc (w2.alloc (.cells #[.int .i64 0] 2)) (.cells #[.slice (some ⟨g2, 0, none⟩) n c2] 60)
      have R0 := Lib.hid (show Row W0 (some ⟨g2, 0, none⟩) c2 g2 (wvL l d) from R2.out.keep fun _ => by rw [hW0]; exact (al2 g2 (by simp; omega)).trans (al1 g2 k2))
      have SB := Lib.hid (show W0.cell? ⟨w2.heap.size, 0, none⟩ = some (.int .i64 0) from by
        rw [hW0, World.cell?_of_block (w := w2.alloc (.cells #[.int .i64 0] 2)) (a := ⟨w2.heap.size, 0, none⟩) (al2 _ (by simp))]
        exact box_cell (box_refl w2 _) 0 rfl)
      have SF := Lib.hid (show W0.frozen? ⟨w2.heap.size, 0, none⟩ = false from by
        rw [hW0, World.frozen?_of_block (w := w2.alloc (.cells #[.int .i64 0] 2)) (a := ⟨w2.heap.size, 0, none⟩) (al2 _ (by simp))]
        exact World.frozen?_alloc_new w2 _ _ 0)
      have HB := Lib.hid (show W0.cell? ⟨w2.heap.size + 1, 0, none⟩ = some (.slice (some ⟨g2, 0, none⟩) n c2) from by
        have := box_cell (box_refl (w2.alloc (.cells #[.int .i64 0] 2)) (.cells #[.slice (some ⟨g2, 0, none⟩) n c2] 60)) 0 rfl
        rw [World.size_alloc] at this
        rw [hW0]; exact this)
      have BW := Lib.hid (show Below w.heap.size w W0 from by rw [hW0]; exact (B2.out.alloc B2.out.size _).alloc (by simp; have := B2.out.size; omega) _)
      have hws : w.heap.size ≤ w2.heap.size := B2.out.size
      rw [← hW0]
      obtain ⟨sb, hsb⟩ : ∃ sb, sb = w2.heap.size := ⟨_, rfl⟩
      obtain ⟨Bs, hBs⟩ : ∃ Bs, Bs = w2.heap.size + 1 := ⟨_, rfl⟩
      rw [← hsb] at SB SF
      rw [← hBs] at HB
      try rw [← hBs]
      try rw [← hsb]
      have wsb : w.heap.size ≤ sb := by omega
      have nsB : Bs ≠ sb := by omega
      have ngs : g2 ≠ sb := by omega
      have hsW : sb < W0.heap.size := by omega
      clear hW0 hsb hBs al1 al2 k2 l2 B2 R2
      refine rf.range hro (by omega) (gf := 123) (lb := #[.pointer (some ⟨Bs, 0, none⟩)]) rfl trivial (enters_of Try.func123 (by kernel_rfl) rfl)
        (odIt 7 (by omega) g2 Bs c2 (wvL l d) (by rw [LW.out]; exact hn24) (by rw [LW.out]; exact m2) PW.out) (fun _ => rfl)
        (fun pre W => Row W (some ⟨g2, 0, none⟩) c2 g2 (wvL l d) ∧ W.cell? ⟨Bs, 0, none⟩ = some (.slice (some ⟨g2, 0, none⟩) n c2) ∧ W.cell? ⟨sb, 0, none⟩ = some (.int .i64 (sm pre)) ∧ W.frozen? ⟨sb, 0, none⟩ = false ∧ Below w.heap.size w W)
        (fun _ _ _ => False)
        (fun x a' W => ∃ Bx, W.cell? ⟨Bx, 1, none⟩ = some (.int .i64 x.2) ∧ a' = { tmps := #[.slice (some ⟨g, 0, none⟩) n cap, .int .i64 d, undef, undef, .int .i64 0, .slice (some ⟨g2, 0, none⟩) n c2, .int .i64 F, .pointer (some ⟨sb, 0, none⟩), .pointer (some ⟨Bx, 0, none⟩), .slice (some ⟨g, 0, none⟩) n cap, .bool true, .bool false, .bool false, .int .i64 d, .bool true, .bool false, .bool false, .tuple #[.slice (some ⟨g2, 0, none⟩) n c2, .int .i64 F], .slice (some ⟨g, 0, none⟩) n cap, .int .i64 d, .tuple #[.slice (some ⟨g2, 0, none⟩) n c2, .int .i64 F], .slice (some ⟨g2, 0, none⟩) n c2, .int .i64 F, .slice (some ⟨g2, 0, none⟩) n c2, .func (.func 123) #[] #[.pointer (some ⟨Bs, 0, none⟩)], .agg #[.pointer (some ⟨g2, x.1, none⟩), .int .i64 x.2], undef, undef, undef, undef, undef], defers := [] })
        (fun s A B row hs hg hr => ⟨row_own hs.1 hg (fun r e => (hr r e).2), cell_kept hs.2.1 hg (fun r e => (hr r e).2), cell_kept hs.2.2.1 hg (fun r e => (hr r e).2), frz_own hs.2.2.1 hs.2.2.2.1 hg (fun r e => (hr r e).2), hs.2.2.2.2.grown hg hs.2.2.2.2.size (fun k e => (Nat.le_trans BW.out.size (hr k e).1))⟩)
        (fun _ _ _ _ _ hs _ _ => hs)
        (fun x a' s A B row hs hg hr => by obtain ⟨Bx, h1, h2⟩ := hs; exact ⟨Bx, cell_kept h1 hg (fun r e => (hr r e).2), h2⟩)
        (fun pre W h => ⟨by rw [LW.out]; exact h.2.1, fun i hi _ => h.1.cells i hi⟩)
        ⟨R0.out, HB.out, SB.out, SF.out, BW.out⟩ ?assign ?body ?done ?stop
      case assign =>
        rintro lp pre x W K ⟨h1, h2, h3, h4, h5⟩ hV hK
        dsimp only [encD]
        gi_wp2
        have gr := World.grownBy_alloc W (.cells #[.pointer (some ⟨g2, x.1, none⟩), .int .i64 x.2] 127) none
        exact hK _ _ ((KeepsOthers.alloc _ _).from _) ⟨row_own h1 gr (fun r e => by cases e), cell_kept h2 gr (fun r e => by cases e), cell_kept h3 gr (fun r e => by cases e), frz_own h3 h4 gr (fun r e => by cases e), h5.alloc h5.size _⟩ ⟨W.heap.size, box_cell (box_refl W _) 1 rfl, rfl⟩
      case body =>
        rintro lp pre x a' W ⟨h1, h2, h3, h4, h5⟩ hV ⟨Bx, hb, rfl⟩
        obtain ⟨v1, v2, v3, v4⟩ := Nx_b (by rw [LW.out]; exact hn24) PW.out hV
        have H1 := Lib.hid h1
        have H5 := Lib.hid h5
        have SA := Lib.hid (show sm (pre ++ [x]) = sm pre + x.2 from by rw [sm_app]; simp [sm])
        obtain ⟨S, hS⟩ : ∃ S, S = sm pre := ⟨_, rfl⟩
        rw [← hS] at v1 v2 h3 SA
        clear hV hS h1 h5
        gi_wp2
        refine ⟨(KeepsOthers.setCell W _ _).from _, trivial, H1.out.keep fun _ => Below.heap_setCell _ _ _ _ ngs, ?_, ?_, ?_, H5.out.setCell (p := ⟨sb, 0, none⟩) wsb _⟩
        · exact (World.cell?_setCell_other W ⟨sb, 0, none⟩ ⟨Bs, 0, none⟩ _ (fun q => by injection q with q1 q2; exact nsB (by omega))).trans h2
        · rw [SA.out]; exact World.cell?_setCell_same' _ _ _ (by rw [h3]; rfl)
        · rw [World.frozen?_setCell]; exact h4
      case done =>
        rintro xs W D hD hK rfl ⟨h1, h2, h3, h4, h5⟩
        have E := Lib.hid (show M = sm (DS (wvL l d) (wvL l d).length) from by
          rw [MM.out, DS_sm PW.out _ (Nat.le_refl _), LW.out, HNZ.out, pf_op _ (Nat.le_refl _)])
        have H5 := Lib.hid h5
        have bws := BW.out.size
        obtain ⟨S, hS⟩ : ∃ S, S = sm (DS (wvL l d) (wvL l d).length) := ⟨_, rfl⟩
        rw [← hS] at h3 E
        clear hS h1 h2 h4 h5
        gi_wp2
        refine ⟨by simp, .inl ⟨_, _, rfl, run_takeDeferred hK, ?_⟩⟩
        refine ⟨.int .i64 S, ?_, by rw [E.out], H5.out.trans (belowK_b (w := w) (Nat.le_refl _) W D _ _ (by omega) hK rfl rfl)⟩
        simp [results, Try.f111, go_sem]
      case stop => intro c pre W D _ _ h; exact h.elim
end Go.Proofs.Ytmaejlfjdkkpdaa.base
