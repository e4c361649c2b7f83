/-
  Plain helpers of this seat's proofs: the contract of the landed PayPlan. Conditions: none.
-/
import Derived.Test.YtchpjojndkkmeaaDoorPy
import Derived.Test.YtchpjojndkkmeaaDoorOut
import Derived.Test.YtchpjojndkkmeaaDoorSmI
import Derived.Test.YtchpjojndkkmeaaDoorPoI
import Derived.Test.YtchpjojndkkmeaaDoorRw7
import Derived.Test.YtchpjojndkkmeaaDoorPkI
import Derived.Test.YtchpjojndkkmeaaDoorPd
import Derived.RangeFuncNested
import Derived.RangeFuncBound
import Derived.RangeFuncCalls
import Derived.RangeFuncLeaves
import Derived.Shelf.Abstract
import Derived.Shelf.AbstractIn
import Derived.Shelf.RegionOpen
import Derived.OwnWalkIn
import Derived.TacticsInMore
import Derived.LoopNIn
import Derived.LoopIn
import Derived.Stop.RegionWithIn
import Derived.BigRegionIn
namespace Go.Proofs.YtchpjojndkkmeaaDoor.base
open Go.ChangeShapes Go.WideShapes Go.ChangeAt Go.RowKit
open seven (F7 zz Row At)
open pl (inR prOk pok)
open gen
/-- A list of Parts in memory of its own, what has been paid, and a number. -/
def Out3 (w : World) (ok : Bool) (P : List F7) (t : pl.S4) (e : Ending) (w' : World) : Prop := ∃ a cap g, e = .returned (.tuple #[.slice a P.length cap, .agg #[.int .i64 0, .int .i64 0, .int .i64 0, .int .i64 0, .int .i64 t.2.2.2, .int .i64 t.2.2.1, .int .i64 t.2.1], .int .i64 t.1]) ∧ Row w' a cap g P ∧ (0 < P.length → w.heap.size ≤ g ∧ g < w'.heap.size) ∧ Below w.heap.size w w' ∧ (ok = true → a = some ⟨g, 0, none⟩ ∧ w.heap.size ≤ g ∧ g < w'.heap.size)
theorem out3_no {w w' : World} {P : List F7} {t : pl.S4} {ok : Bool} (hok : ok = false) (hP : P = []) (hm : t = (0, 0, 0, 0)) (hb : Below w.heap.size w w') : Out3 w ok P t (.returned (.tuple #[.slice none 0 0, .agg #[.int .i64 0, .int .i64 0, .int .i64 0, .int .i64 0, .int .i64 0, .int .i64 0, .int .i64 0], .int .i64 0])) w' := by
  subst hP hm
  exact ⟨none, 0, 0, rfl, Row.nil w', fun h => absurd h (by simp), hb, fun h => by rw [hok] at h; cases h⟩
theorem out3_yes {w w' : World} {ok : Bool} {P : List F7} {t : pl.S4} {cap g len : Nat} (hl : P.length = len) (R : Row w' (some ⟨g, 0, none⟩) cap g P) (h1 : w.heap.size ≤ g) (h2 : g < w'.heap.size) (hb : Below w.heap.size w w') : Out3 w ok P t (.returned (.tuple #[.slice (some ⟨g, 0, none⟩) len cap, .agg #[.int .i64 0, .int .i64 0, .int .i64 0, .int .i64 0, .int .i64 t.2.2.2, .int .i64 t.2.2.1, .int .i64 t.2.1], .int .i64 t.1])) w' :=
  ⟨_, cap, g, by rw [hl], R, fun _ => ⟨h1, h2⟩, hb, fun _ => ⟨rfl, h1, h2⟩⟩
end Go.Proofs.YtchpjojndkkmeaaDoor.base

namespace Go.Proofs.YtchpjojndkkmeaaDoor.base
open Go.ChangeShapes Go.WideShapes Go.ChangeAt Go.RowKit
open seven (F7 zz Row At)
open pl (inR prOk pok)
open gen
open Go.Shelf
attribute [local go_sem] Oper.semAt_some
theorem bx_own {A B : World} {row : Option Nat} {b : Nat} {x : F7} (h : Bx A b x) (hg : A.grownBy B row) (hr : ∀ r, row = some r → ∃ o : Obj, A.heap[r]? = some o ∧ o.isCells = false) : Bx B b x := by
  obtain ⟨o, ho, hc⟩ := cells_of_cell h.at_.c0
  refine h.keep (hg.block b h.at_.lt fun e => ?_)
  obtain ⟨o', ho', hc'⟩ := hr b e.symm
  rw [show A.heap[b]? = some o from ho] at ho'
  cases ho'
  rw [hc] at hc'
  cases hc'
theorem dh (W : World) (k : Nat) : W.drew.heap[k]? = W.heap[k]? := rfl
theorem dhs (W : World) : W.drew.heap.size = W.heap.size := rfl
theorem st7_size' (W : World) (b : Nat) (x : F7) : (st7 W b x).heap.size = W.heap.size := by unfold st7; simp [World.setCell]
theorem st7_other' (W : World) (b : Nat) (x : F7) (k : Nat) (h : k ≠ b) : (st7 W b x).heap[k]? = W.heap[k]? := by
  unfold st7
  repeat rw [Below.heap_setCell _ _ _ _ h]
theorem lt_cell {W : World} {b o : Nat} {v : Value} (h : W.cell? ⟨b, o, none⟩ = some v) : b < W.heap.size := by
  obtain ⟨ob, ho, _⟩ := cells_of_cell h
  exact (Array.getElem?_eq_some_iff.1 ho).1
theorem lt_dfr {W : World} {D : Nat} {o : Obj} (h : W.heap[D]? = some o) : D < W.heap.size := (Array.getElem?_eq_some_iff.1 h).1
set_option maxRecDepth 100000 in
set_option maxHeartbeats 8000000 in
theorem ppI (m : Int) (w : World) (cap g : Nat) (l : List F7) (r : Row w (some ⟨g, 0, none⟩) cap g l) (hn : l.length ≤ 1048577) : Calls Tryd.prog 18 #[.slice (some ⟨g, 0, none⟩) l.length cap, .int .i64 m] w (Out3 w (pyOk l m) (pyL l m) (pyS l m)) := by
  obtain ⟨P, hP⟩ : ∃ P, P = pyL l m := ⟨_, rfl⟩
  obtain ⟨M, hM⟩ : ∃ M, M = pyS l m := ⟨_, rfl⟩
  rw [← hP, ← hM]
  have HP := Lib.hid hP
  have HM := Lib.hid hM
  clear hP hM
  have GL := Lib.hid (fun h : 0 < l.length => r.lt h)
  have al0 := Below.heap_alloc w (.cells #[.int .i64 0, .int .i64 0, .int .i64 0, .int .i64 0, .int .i64 0, .int .i64 0, .int .i64 0] 35)
  have b0 := (Below.refl w.heap.size w).alloc (Nat.le_refl _) (.cells #[.int .i64 0, .int .i64 0, .int .i64 0, .int .i64 0, .int .i64 0, .int .i64 0, .int .i64 0] 35)
  have X0 := Lib.hid (Bx.zero w)
  have R := Lib.hid (r.keep (w' := w.alloc (.cells #[.int .i64 0, .int .i64 0, .int .i64 0, .int .i64 0, .int .i64 0, .int .i64 0, .int .i64 0] 35)) fun h => al0 g (r.lt h))
  have B0 := Lib.hid b0
  have C := Lib.hid (pkI (w.alloc (.cells #[.int .i64 0, .int .i64 0, .int .i64 0, .int .i64 0, .int .i64 0, .int .i64 0, .int .i64 0] 35)) (some ⟨g, 0, none⟩) cap g l R.out hn)
  have CU := Lib.hid (fun w1 => usI m w1)
  have CP := Lib.hid (fun w1 (h : Row w1 (some ⟨g, 0, none⟩) cap g l) => seven.cpI w1 g cap l h hn)
  have CSM := Lib.hid (fun w1 (h : Row w1 (some ⟨g, 0, none⟩) cap g l) => smI w1 (some ⟨g, 0, none⟩) cap g l h hn)
  clear r al0 b0
  obtain ⟨n, hnz⟩ : ∃ n, n = l.length := ⟨_, rfl⟩
  rw [← hnz] at hn C CP CSM ⊢
  have HNZ := Lib.hid hnz
  clear hnz
  refine (callsIn_wide (n := 8)).1 ?_
  have hro : Fence.wide.round = none := rfl
  have hw1 : Fence.wide.fn 17 := trivial
  have hw2 : Fence.wide.fn 39 := trivial
  have hw3 : Fence.wide.fn 40 := trivial
  have hw4 : Fence.wide.fn 41 := trivial
  have hw5 : Fence.wide.fn 15 := trivial
  refine callsIn_of_wp_marks Tryd.func18 rfl trivial ?_ hro
  simp only [Tryd.ntmps18, List.size_toArray, List.length_cons, List.length_nil, Nat.reduceAdd, Nat.reduceSub, Array.replicate_succ, Array.replicate_zero, List.push_toArray, List.append_toArray, List.nil_append, List.cons_append]
  gi_wp2_with fail
  have sz0 : (w.alloc (.cells #[.int .i64 0, .int .i64 0, .int .i64 0, .int .i64 0, .int .i64 0, .int .i64 0, .int .i64 0] 35)).heap.size = w.heap.size + 1 := by simp
  generalize w.alloc (.cells #[.int .i64 0, .int .i64 0, .int .i64 0, .int .i64 0, .int .i64 0, .int .i64 0, .int .i64 0] 35) = W00 at R B0 X0 C sz0 ⊢
  obtain ⟨rb, hrb⟩ : ∃ rb, rb = w.heap.size := ⟨_, rfl⟩
  rw [← hrb] at X0 ⊢
  have HRB := Lib.hid (Nat.le_of_eq hrb.symm)
  have GR := Lib.hid (fun h : 0 < l.length => (show g < rb from by rw [hrb]; exact GL.out h))
  clear hrb sz0
  refine (callsIn_wide.2 C.out).mono ?_
  rintro e w1 ⟨rfl, b1⟩
  have z1 := b1.size
  have BN := Lib.hid (B0.out.trans (b1.mono B0.out.size))
  have R1 := Lib.hid (R.out.keep (w' := w1) fun h => b1.block g (by have := GR.out h; have := X0.out.at_.lt; omega))
  have X1 := Lib.hid (X0.out.keep (w' := w1) (b1.block rb X0.out.at_.lt))
  clear b1 R C X0 B0
  have rb1 : rb < w1.heap.size := X1.out.at_.lt
  cases hv : pl.pv l with
  | false =>
    have NOK := Lib.hid (show pyOk l m = false from (by unfold pyOk; rw [hv]; rfl))
    have NOL := Lib.hid (HP.out.trans (py_no (by unfold pyOk; rw [hv]; rfl)).1)
    have NON := Lib.hid (HM.out.trans (py_no (by unfold pyOk; rw [hv]; rfl)).2)
    clear hv
    have TZ := st7_at X1.out.at_ zz
    have SB := Lib.hid (st7_below BN.out HRB.out zz)
    obtain ⟨y0, y1, y2, y3, y4, y5, y6⟩ := X1.out.at_
    have f0 := X1.out.free 0
    have f1 := X1.out.free 1
    have f2 := X1.out.free 2
    have f3 := X1.out.free 3
    have f4 := X1.out.free 4
    have f5 := X1.out.free 5
    have f6 := X1.out.free 6
    simp only [Nat.zero_add] at y0 y1 y2 y3 y4 y5 y6
    gi_wp2
    change bodyPostM _ _ _ _ _ _ _ (st7 w1 rb zz)
    generalize st7 w1 rb zz = W9 at TZ SB ⊢
    obtain ⟨c0, c1, c2, c3, c4, c5, c6⟩ := TZ
    simp only [zz, Nat.zero_add] at c0 c1 c2 c3 c4 c5 c6
    refine ⟨.tuple #[.slice none 0 0, .agg #[.int .i64 0, .int .i64 0, .int .i64 0, .int .i64 0, .int .i64 0, .int .i64 0, .int .i64 0], .int .i64 0], ?_, out3_no NOK.out NOL.out NON.out SB.out⟩
    simp [results, Tryd.f18, go_sem, c0, c1, c2, c3, c4, c5, c6]
  | true =>
    have HV := Lib.hid hv
    have PVH := Lib.hid (pl.pv_iff.1 hv)
    clear hv
    cases hd : inR m 0 1000000000000 with
    | false =>
      rw [hd] at CU
      have NOK := Lib.hid (show pyOk l m = false from (by unfold pyOk; rw [HV.out, hd]; rfl))
      have NOL := Lib.hid (HP.out.trans (py_no (by unfold pyOk; rw [HV.out, hd]; rfl)).1)
      have NON := Lib.hid (HM.out.trans (py_no (by unfold pyOk; rw [HV.out, hd]; rfl)).2)
      clear hd
      gi_wp2_with fail
      refine (callsIn_wide.2 (CU.out _)).mono ?_
      rintro e w' ⟨rfl, rfl⟩
      have TZ := st7_at X1.out.at_ zz
      have SB := Lib.hid (st7_below BN.out HRB.out zz)
      obtain ⟨y0, y1, y2, y3, y4, y5, y6⟩ := X1.out.at_
      have f0 := X1.out.free 0
      have f1 := X1.out.free 1
      have f2 := X1.out.free 2
      have f3 := X1.out.free 3
      have f4 := X1.out.free 4
      have f5 := X1.out.free 5
      have f6 := X1.out.free 6
      simp only [Nat.zero_add] at y0 y1 y2 y3 y4 y5 y6
      gi_wp2
      change bodyPostM _ _ _ _ _ _ _ (st7 w1 rb zz)
      generalize st7 w1 rb zz = W9 at TZ SB ⊢
      obtain ⟨c0, c1, c2, c3, c4, c5, c6⟩ := TZ
      simp only [zz, Nat.zero_add] at c0 c1 c2 c3 c4 c5 c6
      refine ⟨.tuple #[.slice none 0 0, .agg #[.int .i64 0, .int .i64 0, .int .i64 0, .int .i64 0, .int .i64 0, .int .i64 0, .int .i64 0], .int .i64 0], ?_, out3_no NOK.out NOL.out NON.out SB.out⟩
      simp [results, Tryd.f18, go_sem, c0, c1, c2, c3, c4, c5, c6]
    | true =>
      rw [hd] at CU
      have YP := Lib.hid (HP.out.trans (py_yes (by unfold pyOk; rw [HV.out, hd]; rfl)).1)
      have YM := Lib.hid (HM.out.trans (py_yes (by unfold pyOk; rw [HV.out, hd]; rfl)).2)
      obtain ⟨M1, MF, MI, MP⟩ := M
      obtain ⟨m0, m1⟩ := pl.inR_iff.1 hd
      clear hd
      have hn24 : n ≤ 24 := by rw [HNZ.out]; exact PVH.out.1
      gi_wp2_with fail
      refine (callsIn_wide.2 (CU.out _)).mono ?_
      rintro e w' ⟨rfl, rfl⟩
      gi_wp2_with fail
      refine (callsIn_wide.2 (CP.out w1 R1.out)).mono ?_
      rintro e w2 ⟨v, rfl, c2, g2, hv2, r2, l2, k2, b2⟩
      rw [← HNZ.out] at hv2
      subst hv2
      have z2 := b2.size
      have R2 := Lib.hid r2
      have X2 := Lib.hid (X1.out.keep (b2.block rb rb1))
      have B2 := Lib.hid (BN.out.trans (b2.mono BN.out.size))
      have G2 := Lib.hid (Nat.le_trans BN.out.size l2)
      have ngr : g2 ≠ rb := by omega
      clear r2 b2
      gi_wp2_with fail
      refine (callsIn_wide.2 (odC _ _ _ _)).mono ?_
      rintro e w3 ⟨rfl, rfl⟩
      gi_wp2_with fail
      obtain ⟨W0, hW0⟩ : ∃ W0, W0 = (w2.alloc (.cells #[.int .i64 m] 2)).alloc (.cells #[.slice (some ⟨g2, 0, none⟩) n c2] 22) := ⟨_, rfl⟩
      have sz : W0.heap.size = w2.heap.size + 2 := by rw [hW0]; simp
      have al1 := Below.heap_alloc w2 (.cells #[.int .i64 m] 2)
      have al2 := Below.heap_alloc (w2.alloc (.cells #[.int .i64 m] 2)) (.cells #[.slice (some ⟨g2, 0, none⟩) n c2] 22)
      have R0 := Lib.hid (show Row W0 (some ⟨g2, 0, none⟩) c2 g2 (py l m []).1 from
        R2.out.keep fun _ => by rw [hW0]; exact (al2 g2 (by simp; omega)).trans (al1 g2 k2))
      have LB := Lib.hid (show W0.cell? ⟨w2.heap.size, 0, none⟩ = some (.int .i64 (py l m []).2) from by
        rw [hW0, World.cell?_of_block (w := w2.alloc (.cells #[.int .i64 m] 2)) (a := ⟨w2.heap.size, 0, none⟩) (al2 _ (by simp))]
        exact box_cell (box_refl w2 _) 0 rfl)
      have LF := Lib.hid (show W0.frozen? ⟨w2.heap.size, 0, none⟩ = false from by
        rw [hW0, World.frozen?_of_block (w := w2.alloc (.cells #[.int .i64 m] 2)) (a := ⟨w2.heap.size, 0, none⟩) (al2 _ (by simp))]
        exact World.frozen?_alloc_new w2 _ _ 0)
      have HB := Lib.hid (show W0.cell? ⟨w2.heap.size + 1, 0, none⟩ = some (.slice (some ⟨g2, 0, none⟩) n c2) from by
        have := box_cell (box_refl (w2.alloc (.cells #[.int .i64 m] 2)) (.cells #[.slice (some ⟨g2, 0, none⟩) n c2] 22)) 0 rfl
        rw [World.size_alloc] at this
        rw [hW0]; exact this)
      have X3 := Lib.hid (show Bx W0 rb zz from X2.out.keep (by rw [hW0]; exact (al2 rb (by simp; omega)).trans (al1 rb (by omega))))
      have BW := Lib.hid (show Below w.heap.size w W0 from by rw [hW0]; exact (B2.out.alloc B2.out.size _).alloc (by simp; have := B2.out.size; omega) _)
      have hws : w.heap.size ≤ w2.heap.size := B2.out.size
      rw [← hW0]
      obtain ⟨Bl, hBl⟩ : ∃ Bl, Bl = w2.heap.size := ⟨_, rfl⟩
      obtain ⟨Bs, hBs⟩ : ∃ Bs, Bs = w2.heap.size + 1 := ⟨_, rfl⟩
      rw [← hBl] at LB LF
      rw [← hBs] at HB
      try rw [← hBs]
      try rw [← hBl]
      have wsb : w.heap.size ≤ Bl := by omega
      have nsB : Bs ≠ Bl := by omega
      have ngs : g2 ≠ Bl := by omega
      have ngB : Bs ≠ g2 := by omega
      have nrl : rb ≠ Bl := by omega
      have hg2W : g2 < W0.heap.size := by omega
      have hlW : Bl < W0.heap.size := by omega
      have hrW : rb < W0.heap.size := by omega
      have hwW : w.heap.size ≤ W0.heap.size := by omega
      have m2 := R2.out.room
      rw [← HNZ.out] at m2
      clear hW0 hBl hBs al1 al2 k2 l2 B2 R2 sz hws X2 X1
      refine rf.range hro (by omega) (gf := 63) (lb := #[.pointer (some ⟨Bs, 0, none⟩)]) rfl trivial (enters_of Tryd.func63 (by kernel_rfl) rfl)
        (odIt 7 (by omega) g2 Bs c2 l (by rw [← HNZ.out]; exact hn24) (by rw [← HNZ.out]; exact m2) (fun i hi => PVH.out.pin (i := i) hi)) (fun _ => rfl)
        (fun pre W => Row W (some ⟨g2, 0, none⟩) c2 g2 (py l m pre).1 ∧ W.cell? ⟨Bl, 0, none⟩ = some (.int .i64 (py l m pre).2) ∧ W.frozen? ⟨Bl, 0, none⟩ = false ∧ W.cell? ⟨Bs, 0, none⟩ = some (.slice (some ⟨g2, 0, none⟩) n c2) ∧ g2 < W.heap.size ∧ Bx W rb zz ∧ Below w.heap.size w W)
        (fun c pre W => c = .exit 0 ∧ Row W (some ⟨g2, 0, none⟩) c2 g2 (py l m (DS l l.length)).1 ∧ W.cell? ⟨Bl, 0, none⟩ = some (.int .i64 (py l m (DS l l.length)).2) ∧ g2 < W.heap.size ∧ Bx W rb zz ∧ Below w.heap.size w W)
        (fun x a' W => ∃ Bd, W.cell? ⟨Bd, 0, none⟩ = some (.pointer (some ⟨g2, x.1, none⟩)) ∧ W.cell? ⟨Bd, 1, none⟩ = some (.int .i64 x.2) ∧ a' = { tmps := #[.slice (some ⟨g, 0, none⟩) n cap, .int .i64 m, undef, undef, .slice none 0 0, .pointer (some ⟨rb, 0, none⟩), .int .i64 0, .slice (some ⟨g2, 0, none⟩) n c2, .pointer (some ⟨Bl, 0, none⟩), .pointer (some ⟨Bd, 0, none⟩), undef, undef, undef, undef, .slice (some ⟨g, 0, none⟩) n cap, .bool true, .bool false, .bool false, .int .i64 m, .bool true, .bool false, .bool false, undef, .slice (some ⟨g, 0, none⟩) n cap, .slice (some ⟨g2, 0, none⟩) n c2, .int .i64 m, .slice (some ⟨g2, 0, none⟩) n c2, .func (.func 63) #[] #[.pointer (some ⟨Bs, 0, none⟩)], .agg #[.pointer (some ⟨g2, x.1, none⟩), .int .i64 x.2], undef, undef, undef, undef, undef, undef, undef, undef, undef, undef, undef, undef, undef, undef, undef, undef, undef, undef, undef, undef, undef, undef, undef, undef, undef, undef, undef, undef, undef, undef, undef, undef, undef, undef, undef, undef, undef, undef, undef], defers := [] })
        (fun s A B row hs hg hr => ⟨row_own hs.1 hg (fun r e => (hr r e).2), cell_kept hs.2.1 hg (fun r e => (hr r e).2), frz_own hs.2.1 hs.2.2.1 hg (fun r e => (hr r e).2), cell_kept hs.2.2.2.1 hg (fun r e => (hr r e).2), Nat.lt_of_lt_of_le hs.2.2.2.2.1 hg.size, bx_own hs.2.2.2.2.2.1 hg (fun r e => (hr r e).2), hs.2.2.2.2.2.2.grown hg hs.2.2.2.2.2.2.size (fun k e => (Nat.le_trans hwW (hr k e).1))⟩)
        (fun c s A B row hs hg hr => ⟨hs.1, row_own hs.2.1 hg (fun r e => (hr r e).2), cell_kept hs.2.2.1 hg (fun r e => (hr r e).2), Nat.lt_of_lt_of_le hs.2.2.2.1 hg.size, bx_own hs.2.2.2.2.1 hg (fun r e => (hr r e).2), hs.2.2.2.2.2.grown hg hs.2.2.2.2.2.size (fun k e => (Nat.le_trans hwW (hr k e).1))⟩)
        (fun x a' s A B row hs hg hr => by obtain ⟨Bd, h0, h1, h2⟩ := hs; exact ⟨Bd, cell_kept h0 hg (fun r e => (hr r e).2), cell_kept h1 hg (fun r e => (hr r e).2), h2⟩)
        (fun pre W h => ⟨by rw [← HNZ.out]; exact h.2.2.2.1, fun i hi e => by
          have q := h.1.cells i (by rw [py_len]; exact hi)
          rw [e, py_other _ _ _ i (fun p hp => by have := DS_at i p hp; omega)] at q
          exact q⟩)
        ⟨R0.out, LB.out, LF.out, HB.out, hg2W, X3.out, BW.out⟩ ?assign ?body ?done ?stop
      case assign =>
        rintro lp pre x W K ⟨h1, h2, h3, h4, h5, h6, h7⟩ hV hK
        dsimp only [encD]
        gi_wp2
        have gr := World.grownBy_alloc W (.cells #[.pointer (some ⟨g2, x.1, none⟩), .int .i64 x.2] 65) none
        exact hK _ _ ((KeepsOthers.alloc _ _).from _) ⟨row_own h1 gr (fun r e => by cases e), cell_kept h2 gr (fun r e => by cases e), frz_own h2 h3 gr (fun r e => by cases e), cell_kept h4 gr (fun r e => by cases e), by simp; omega, bx_own h6 gr (fun r e => by cases e), h7.alloc h7.size _⟩ ⟨W.heap.size, box_cell (box_refl W _) 0 rfl, box_cell (box_refl W _) 1 rfl, rfl⟩
      case body =>
        rintro lp pre x a' W ⟨h1, h2, h3, h4, h5, h6, h7⟩ hV ⟨Bd, hb0, hb1, rfl⟩
        obtain ⟨_, _, v3, v4⟩ := Nx_b (by rw [← HNZ.out]; exact hn24) (fun i hi => PVH.out.pin (i := i) hi) hV
        obtain ⟨v, p0, p1, p2, p3, p4⟩ := pay_row h1 (fun i hi => PVH.out.pin (i := i) hi) hV
        obtain ⟨rest, hrest⟩ := Nx_pre hV
        have PE := Lib.hid (fun hz => py_end (m := m) hrest hz)
        obtain ⟨s0, s1⟩ := py_nn pre l m m0 (fun p hp => Int.le_of_lt (DS_pos l.length p (by rw [hrest]; exact List.mem_append_left _ hp)))
        have SN := Lib.hid (show (py l m (pre ++ [x])).2 = (py l m pre).2 - min (py l m pre).2 x.2 from by rw [py_snoc]; rfl)
        have H4 := Lib.hid p4
        have H1 := Lib.hid h1
        have H6 := Lib.hid h6
        have H7 := Lib.hid h7
        obtain ⟨S, hS⟩ : ∃ S, S = (py l m pre).2 := ⟨_, rfl⟩
        rw [← hS] at H4 h2 PE s0 s1 SN
        obtain ⟨o, ho⟩ : ∃ o, o = x.1 := ⟨_, rfl⟩
        obtain ⟨y, hy⟩ : ∃ y, y = x.2 := ⟨_, rfl⟩
        rw [← ho] at H4 hb0 p2 p3
        rw [← hy] at H4 hb1 v3 v4 SN
        try rw [← ho, ← hy]
        clear hV h1 h6 h7 p4 ho hy hrest hS
        cases t1 : (S == 0) with
        | true =>
          have sz : S = 0 := by simpa using t1
          have FE := Lib.hid (show KeepsFrom W0.heap.size W W ∧ Row W (some ⟨g2, 0, none⟩) c2 g2 (py l m (DS l l.length)).1 ∧ W.cell? ⟨Bl, 0, none⟩ = some (.int .i64 (py l m (DS l l.length)).2) ∧ g2 < W.heap.size ∧ Bx W rb zz ∧ Below w.heap.size w W from
            ⟨KeepsFrom.refl _ _, by rw [PE.out sz]; exact H1.out, by rw [PE.out sz]; rw [sz] at h2; exact h2, h5, H6.out, H7.out⟩)
          clear H1 H4 H6 H7 PE sz SN
          gi_wp2
          exact ⟨FE.out.1, rfl, FE.out.2⟩
        | false =>
          obtain ⟨A, hA⟩ : ∃ A, A = min S y := ⟨_, rfl⟩
          have a0 : 0 ≤ A := by omega
          have a1 : A ≤ S := by omega
          have a2 : A ≤ y := by omega
          rw [← hA] at H4 SN
          have FE := Lib.hid (show KeepsFrom W0.heap.size W ((W.setCell ⟨g2, o, none⟩ (.int .i64 (v + A))).setCell ⟨Bl, 0, none⟩ (.int .i64 (S - A))) ∧ True ∧ Row ((W.setCell ⟨g2, o, none⟩ (.int .i64 (v + A))).setCell ⟨Bl, 0, none⟩ (.int .i64 (S - A))) (some ⟨g2, 0, none⟩) c2 g2 (py l m (pre ++ [x])).1 ∧ ((W.setCell ⟨g2, o, none⟩ (.int .i64 (v + A))).setCell ⟨Bl, 0, none⟩ (.int .i64 (S - A))).cell? ⟨Bl, 0, none⟩ = some (.int .i64 (py l m (pre ++ [x])).2) ∧ ((W.setCell ⟨g2, o, none⟩ (.int .i64 (v + A))).setCell ⟨Bl, 0, none⟩ (.int .i64 (S - A))).frozen? ⟨Bl, 0, none⟩ = false ∧ ((W.setCell ⟨g2, o, none⟩ (.int .i64 (v + A))).setCell ⟨Bl, 0, none⟩ (.int .i64 (S - A))).cell? ⟨Bs, 0, none⟩ = some (.slice (some ⟨g2, 0, none⟩) n c2) ∧ g2 < ((W.setCell ⟨g2, o, none⟩ (.int .i64 (v + A))).setCell ⟨Bl, 0, none⟩ (.int .i64 (S - A))).heap.size ∧ Bx ((W.setCell ⟨g2, o, none⟩ (.int .i64 (v + A))).setCell ⟨Bl, 0, none⟩ (.int .i64 (S - A))) rb zz ∧ Below w.heap.size w ((W.setCell ⟨g2, o, none⟩ (.int .i64 (v + A))).setCell ⟨Bl, 0, none⟩ (.int .i64 (S - A))) from by
            have cb : (W.setCell ⟨g2, o, none⟩ (.int .i64 (v + A))).cell? ⟨Bl, 0, none⟩ = some (.int .i64 S) := (World.cell?_setCell_other W ⟨g2, o, none⟩ ⟨Bl, 0, none⟩ _ (fun q => by injection q with q1 q2; exact ngs (by omega))).trans h2
            refine ⟨((KeepsOthers.setCell W _ _).trans (KeepsOthers.setCell _ _ _)).from _, trivial, H4.out.keep fun _ => Below.heap_setCell _ ⟨Bl, 0, none⟩ _ _ ngs, ?_, ?_, ?_, ?_, (H6.out.keep (Below.heap_setCell _ ⟨g2, o, none⟩ _ _ (Ne.symm ngr))).keep (Below.heap_setCell _ ⟨Bl, 0, none⟩ _ _ nrl), (H7.out.setCell (p := ⟨g2, o, none⟩) G2.out _).setCell (p := ⟨Bl, 0, none⟩) wsb _⟩
            · rw [SN.out]
              exact World.cell?_setCell_same' _ _ _ (by rw [cb]; rfl)
            · rw [World.frozen?_setCell, World.frozen?_setCell]; exact h3
            · exact (World.cell?_setCell_other _ ⟨Bl, 0, none⟩ ⟨Bs, 0, none⟩ _ (fun q => by injection q with q1 q2; exact nsB (by omega))).trans ((World.cell?_setCell_other W ⟨g2, o, none⟩ ⟨Bs, 0, none⟩ _ (fun q => by injection q with q1 q2; exact ngB (by omega))).trans h4)
            · simp [World.setCell]; exact h5)
          clear H1 H4 H6 H7 PE SN
          by_cases t2 : y < S
          · have E : A = y := by omega
            subst E
            clear hA
            gi_wp2
            exact FE.out
          · have E : A = S := by omega
            subst E
            clear hA
            simp only [Int.sub_self] at FE
            gi_wp2
            exact FE.out
      case done =>
        rintro xs W D hD hK rfl ⟨h1, h2, h3, h4, h5, h6, h7⟩
        clear h3 h4
        have DSP := Lib.hid (show (py l m (DS l l.length)).1 = P ∧ (py l m (DS l l.length)).2 = M1 from by
          rw [py_DS (fun i hi => PVH.out.pin (i := i) hi) m0 l.length (Nat.le_refl _), (fw_sim m l l.length).1, (fw_sim m l l.length).2]
          exact ⟨YP.out.symm, by rw [show (pl.fs pl.pay (m, 0, 0, 0) l l.length) = (M1, MF, MI, MP) from YM.out.symm]⟩)
        rw [DSP.out.1] at h1
        rw [DSP.out.2] at h2
        have LP := Lib.hid (show P.length = n from by rw [YP.out, pl.fw_len, HNZ.out])
        have H1 := Lib.hid h1
        have H6 := Lib.hid h6
        have H7 := Lib.hid h7
        have RL := Lib.hid (R1.out.keep (w' := W) fun h => h7.block g (GL.out h) |>.trans (BN.out.block g (GL.out h)).symm)
        clear h1 h6 h7
        gi_wp2_with fail
        refine (callsIn_wide.2 (CSM.out W RL.out)).mono ?_
        rintro e w4 ⟨rfl, b4⟩
        have z4 := b4.size
        have H14 := Lib.hid (H1.out.keep (w' := w4) fun _ => b4.block g2 h5)
        have H64 := Lib.hid (H6.out.keep (b4.block rb H6.out.at_.lt))
        have H74 := Lib.hid (H7.out.trans (b4.mono H7.out.size))
        have c2' := (b4.cell (p := ⟨Bl, 0, none⟩) (lt_cell h2)).trans h2
        have D4 := Lib.hid ((b4.block D (lt_dfr hK)).trans hK)
        gi_wp2_with fail
        have CS2 := Lib.hid (smI w4 (some ⟨g2, 0, none⟩) c2 g2 P H14.out (by rw [LP.out]; omega))
        rw [LP.out] at CS2
        refine (callsIn_wide.2 CS2.out).mono ?_
        rintro e w5 ⟨rfl, b5⟩
        have z5 := b5.size
        have H15 := Lib.hid (H14.out.keep (w' := w5) fun _ => b5.block g2 (by omega))
        have H65 := Lib.hid (H64.out.keep (b5.block rb H64.out.at_.lt))
        have H75 := Lib.hid (H74.out.trans (b5.mono H74.out.size))
        have c2'' := (b5.cell (p := ⟨Bl, 0, none⟩) (lt_cell c2')).trans c2'
        have D5 := Lib.hid ((b5.block D (by have := lt_dfr hK; omega)).trans D4.out)
        clear h2 c2' b4 b5 H1 H6 H7 H14 H64 H74 D4 CS2 RL
        obtain ⟨SA, hSA⟩ : ∃ SA, SA = pl.sums l := ⟨_, rfl⟩
        obtain ⟨SB, hSB⟩ : ∃ SB, SB = pl.sums P := ⟨_, rfl⟩
        rw [← hSA, ← hSB]
        have PVP := pay_pv PVH.out m0
        have EP : P = (pl.ml pl.pay (m, 0, 0, 0) l).1 := by rw [YP.out, pl.fw_all]
        rw [← EP] at PVP
        have SINA := pl.sin PVH.out (k := l.length) (Nat.le_refl _)
        have SINB := pl.sin PVP (k := P.length) (Nat.le_refl _)
        rw [pl.sums_t HV.out] at hSA
        rw [pl.sums_t (pl.pv_t PVP)] at hSB
        have PSM := pay_sum (l := l) m l.length (Nat.le_refl _)
        rw [← EP, show l.length = P.length from by rw [LP.out, HNZ.out]] at PSM
        rw [← hSB] at PSM SINB
        rw [show P.length = l.length from by rw [LP.out, HNZ.out], ← hSA, show pl.fs pl.pay (m, 0, 0, 0) l l.length = (M1, MF, MI, MP) from YM.out.symm] at PSM
        rw [← hSA] at SINA
        clear hSA hSB PVP EP
        obtain ⟨a0, a1, a2, a3, a4, a5, a6⟩ := SA
        obtain ⟨b0, b1, b2, b3, b4, b5, b6⟩ := SB
        dsimp only at PSM
        obtain ⟨q4, q5, q6⟩ := PSM
        have nl : l.length ≤ 24 := PVH.out.1
        have nP : P.length ≤ 24 := by rw [LP.out]; exact hn24
        obtain ⟨-, -, u1, -, u2, -, u3, s7, s8, s9, s10, s11, s12⟩ := SINA
        obtain ⟨-, -, t1, -, t2, -, t3, r7, r8, r9, r10, r11, r12⟩ := SINB
        dsimp only at u1 u2 u3 s7 s8 s9 s10 s11 s12 t1 t2 t3 r7 r8 r9 r10 r11 r12
        have A1 : a4 ≤ 24000000000000 := by omega
        have A2 : a5 ≤ 24000000000000 := by omega
        have A3 : a6 ≤ 24000000000000 := by omega
        have B1 : b4 ≤ 24000000000000 := by omega
        have B2 : b5 ≤ 24000000000000 := by omega
        have B3 : b6 ≤ 24000000000000 := by omega
        have Q := Lib.hid (And.intro q4 (And.intro q5 q6))
        clear u1 u2 u3 t1 t2 t3 s8 s10 s12 r8 r10 r12 q4 q5 q6 nl nP
        have FB := H65.out.free
        obtain ⟨W6, hW6⟩ : ∃ W6, W6 = ((w5.alloc (.cells #[.int .i64 a0, .int .i64 a1, .int .i64 a2, .int .i64 a3, .int .i64 a4, .int .i64 a5, .int .i64 a6] 35)).alloc (.cells #[.int .i64 b0, .int .i64 b1, .int .i64 b2, .int .i64 b3, .int .i64 b4, .int .i64 b5, .int .i64 b6] 35)).alloc (.cells #[.int .i64 0, .int .i64 0, .int .i64 0, .int .i64 0, .int .i64 (b4 - a4), .int .i64 (b5 - a5), .int .i64 (b6 - a6)] 35) := ⟨_, rfl⟩
        have BB6 : Below w5.heap.size w5 W6 := by
          rw [hW6]
          exact (((Below.refl _ _).alloc (Nat.le_refl _) _).alloc (by simp) _).alloc (by simp; omega) _
        have X13 : Bx W6 (w5.heap.size + 1 + 1) (0, 0, 0, 0, b4 - a4, b5 - a5, b6 - a6) := by
          rw [hW6]
          have := Bx.new ((w5.alloc (.cells #[.int .i64 a0, .int .i64 a1, .int .i64 a2, .int .i64 a3, .int .i64 a4, .int .i64 a5, .int .i64 a6] 35)).alloc (.cells #[.int .i64 b0, .int .i64 b1, .int .i64 b2, .int .i64 b3, .int .i64 b4, .int .i64 b5, .int .i64 b6] 35)) (0, 0, 0, 0, b4 - a4, b5 - a5, b6 - a6)
          rw [World.size_alloc, World.size_alloc] at this
          exact this
        have c3 := (BB6.cell (p := ⟨Bl, 0, none⟩) (lt_cell c2'')).trans c2''
        have H66 := H65.out.keep (BB6.block rb H65.out.at_.lt)
        have H16 := Lib.hid (H15.out.keep (w' := W6) fun _ => BB6.block g2 (by omega))
        have H76 := Lib.hid (H75.out.trans (BB6.mono H75.out.size))
        have D6 := Lib.hid ((BB6.block D (lt_dfr D5.out)).trans D5.out)
        have g26 : g2 < W6.heap.size := by have := BB6.size; omega
        clear BB6 H15 H65 H75 D5
        gi_wp2_with fail
        rw [← hW6]
        clear hW6 c2''
        obtain ⟨bx, hbx⟩ : ∃ bx, bx = w5.heap.size + 1 + 1 := ⟨_, rfl⟩
        rw [← hbx] at X13 ⊢
        obtain ⟨x0, x1, x2, x3, x4, x5, x6⟩ := X13.at_
        obtain ⟨y0, y1, y2, y3, y4, y5, y6⟩ := H66.at_
        have f0 := H66.free 0
        have f1 := H66.free 1
        have f2 := H66.free 2
        have f3 := H66.free 3
        have f4 := H66.free 4
        have f5 := H66.free 5
        have f6 := H66.free 6
        simp only [Nat.zero_add] at x0 x1 x2 x3 x4 x5 x6 y0 y1 y2 y3 y4 y5 y6
        have S9 : At (st7 W6 rb (0, 0, 0, 0, b4 - a4, b5 - a5, b6 - a6)).drew rb 0 (0, 0, 0, 0, b4 - a4, b5 - a5, b6 - a6) := (st7_at H66.at_ _).keep (dh _ _)
        have B9 := Lib.hid (st7_below H76.out HRB.out (0, 0, 0, 0, b4 - a4, b5 - a5, b6 - a6)).drew
        have R9 := Lib.hid ((H16.out.keep (w' := st7 W6 rb (0, 0, 0, 0, b4 - a4, b5 - a5, b6 - a6)) fun _ => st7_other' _ _ _ _ ngr).keep (w' := (st7 W6 rb (0, 0, 0, 0, b4 - a4, b5 - a5, b6 - a6)).drew) fun _ => dh _ _)
        have L9 := Lib.hid (show g2 < (st7 W6 rb (0, 0, 0, 0, b4 - a4, b5 - a5, b6 - a6)).drew.heap.size from by rw [dhs, st7_size']; exact g26)
        have D9 := Lib.hid (show (st7 W6 rb (0, 0, 0, 0, b4 - a4, b5 - a5, b6 - a6)).drew.heap[D]? = some (.deferred (some [])) from by
          rw [dh, st7_other' _ _ _ _ (by omega)]; exact D6.out)
        clear H66 X13 hbx
        have mixed : Tryd.prog.follows .mixedOrders = true := Tryd.checked.mixed
        gi_region
        unfold st7 at S9 B9 R9 L9 D9
        dsimp only at S9 B9 R9 L9 D9
        generalize ((((((((W6.setCell ⟨rb, 0, none⟩ (.int .i64 0)).setCell ⟨rb, 1, none⟩ (.int .i64 0)).setCell ⟨rb, 2, none⟩ (.int .i64 0)).setCell ⟨rb, 3, none⟩ (.int .i64 0)).setCell ⟨rb, 4, none⟩ (.int .i64 (b4 - a4))).setCell ⟨rb, 5, none⟩ (.int .i64 (b5 - a5))).setCell ⟨rb, 6, none⟩ (.int .i64 (b6 - a6)))).drew = W9 at S9 B9 R9 L9 D9 ⊢
        have rD : rb ≠ D := by omega
        have gD : g2 ≠ D := by omega
        have S10 := S9.keep (w' := W9.putObj D (.deferred none)) (World.putObj_heap_other rD)
        have R10 := Lib.hid (R9.out.keep (w' := W9.putObj D (.deferred none)) fun _ => World.putObj_heap_other gD)
        obtain ⟨c0, c1, c2', c3', c4, c5, c6⟩ := S10
        simp only [Nat.zero_add] at c0 c1 c2' c3' c4 c5 c6
        clear S9 x0 x1 x2 x3 x4 x5 x6 y0 y1 y2 y3 y4 y5 y6 f0 f1 f2 f3 f4 f5 f6 c3
        gi_wp2
        refine ⟨by simp, .inl ⟨_, _, rfl, run_takeDeferred (w := W9) D9.out, ?_⟩⟩
        have bk := belowK_b (w := w) (Nat.le_refl _) W9 D _ (.deferred none) (by omega) D9.out rfl rfl
        refine ⟨.tuple #[.slice (some ⟨g2, 0, none⟩) n c2, .agg #[.int .i64 0, .int .i64 0, .int .i64 0, .int .i64 0, .int .i64 (b4 - a4), .int .i64 (b5 - a5), .int .i64 (b6 - a6)], .int .i64 M1], ?_, ?_⟩
        · simp [results, Tryd.f18, go_sem, c0, c1, c2', c3', c4, c5, c6]
        · rw [Q.out.1, Q.out.2.1, Q.out.2.2]
          exact out3_yes (t := (M1, MF, MI, MP)) LP.out R10.out G2.out (by simp; exact L9.out) (B9.out.trans bk)
      case stop =>
        rintro c pre W D hD hK ⟨rfl, h1, h2, h5, h6, h7⟩
        have DSP := Lib.hid (show (py l m (DS l l.length)).1 = P ∧ (py l m (DS l l.length)).2 = M1 from by
          rw [py_DS (fun i hi => PVH.out.pin (i := i) hi) m0 l.length (Nat.le_refl _), (fw_sim m l l.length).1, (fw_sim m l l.length).2]
          exact ⟨YP.out.symm, by rw [show (pl.fs pl.pay (m, 0, 0, 0) l l.length) = (M1, MF, MI, MP) from YM.out.symm]⟩)
        rw [DSP.out.1] at h1
        rw [DSP.out.2] at h2
        have LP := Lib.hid (show P.length = n from by rw [YP.out, pl.fw_len, HNZ.out])
        have H1 := Lib.hid h1
        have H6 := Lib.hid h6
        have H7 := Lib.hid h7
        have RL := Lib.hid (R1.out.keep (w' := W) fun h => h7.block g (GL.out h) |>.trans (BN.out.block g (GL.out h)).symm)
        clear h1 h6 h7
        gi_wp2_with fail
        refine (callsIn_wide.2 (CSM.out W RL.out)).mono ?_
        rintro e w4 ⟨rfl, b4⟩
        have z4 := b4.size
        have H14 := Lib.hid (H1.out.keep (w' := w4) fun _ => b4.block g2 h5)
        have H64 := Lib.hid (H6.out.keep (b4.block rb H6.out.at_.lt))
        have H74 := Lib.hid (H7.out.trans (b4.mono H7.out.size))
        have c2' := (b4.cell (p := ⟨Bl, 0, none⟩) (lt_cell h2)).trans h2
        have D4 := Lib.hid ((b4.block D (lt_dfr hK)).trans hK)
        gi_wp2_with fail
        have CS2 := Lib.hid (smI w4 (some ⟨g2, 0, none⟩) c2 g2 P H14.out (by rw [LP.out]; omega))
        rw [LP.out] at CS2
        refine (callsIn_wide.2 CS2.out).mono ?_
        rintro e w5 ⟨rfl, b5⟩
        have z5 := b5.size
        have H15 := Lib.hid (H14.out.keep (w' := w5) fun _ => b5.block g2 (by omega))
        have H65 := Lib.hid (H64.out.keep (b5.block rb H64.out.at_.lt))
        have H75 := Lib.hid (H74.out.trans (b5.mono H74.out.size))
        have c2'' := (b5.cell (p := ⟨Bl, 0, none⟩) (lt_cell c2')).trans c2'
        have D5 := Lib.hid ((b5.block D (by have := lt_dfr hK; omega)).trans D4.out)
        clear h2 c2' b4 b5 H1 H6 H7 H14 H64 H74 D4 CS2 RL
        obtain ⟨SA, hSA⟩ : ∃ SA, SA = pl.sums l := ⟨_, rfl⟩
        obtain ⟨SB, hSB⟩ : ∃ SB, SB = pl.sums P := ⟨_, rfl⟩
        rw [← hSA, ← hSB]
        have PVP := pay_pv PVH.out m0
        have EP : P = (pl.ml pl.pay (m, 0, 0, 0) l).1 := by rw [YP.out, pl.fw_all]
        rw [← EP] at PVP
        have SINA := pl.sin PVH.out (k := l.length) (Nat.le_refl _)
        have SINB := pl.sin PVP (k := P.length) (Nat.le_refl _)
        rw [pl.sums_t HV.out] at hSA
        rw [pl.sums_t (pl.pv_t PVP)] at hSB
        have PSM := pay_sum (l := l) m l.length (Nat.le_refl _)
        rw [← EP, show l.length = P.length from by rw [LP.out, HNZ.out]] at PSM
        rw [← hSB] at PSM SINB
        rw [show P.length = l.length from by rw [LP.out, HNZ.out], ← hSA, show pl.fs pl.pay (m, 0, 0, 0) l l.length = (M1, MF, MI, MP) from YM.out.symm] at PSM
        rw [← hSA] at SINA
        clear hSA hSB PVP EP
        obtain ⟨a0, a1, a2, a3, a4, a5, a6⟩ := SA
        obtain ⟨b0, b1, b2, b3, b4, b5, b6⟩ := SB
        dsimp only at PSM
        obtain ⟨q4, q5, q6⟩ := PSM
        have nl : l.length ≤ 24 := PVH.out.1
        have nP : P.length ≤ 24 := by rw [LP.out]; exact hn24
        obtain ⟨-, -, u1, -, u2, -, u3, s7, s8, s9, s10, s11, s12⟩ := SINA
        obtain ⟨-, -, t1, -, t2, -, t3, r7, r8, r9, r10, r11, r12⟩ := SINB
        dsimp only at u1 u2 u3 s7 s8 s9 s10 s11 s12 t1 t2 t3 r7 r8 r9 r10 r11 r12
        have A1 : a4 ≤ 24000000000000 := by omega
        have A2 : a5 ≤ 24000000000000 := by omega
        have A3 : a6 ≤ 24000000000000 := by omega
        have B1 : b4 ≤ 24000000000000 := by omega
        have B2 : b5 ≤ 24000000000000 := by omega
        have B3 : b6 ≤ 24000000000000 := by omega
        have Q := Lib.hid (And.intro q4 (And.intro q5 q6))
        clear u1 u2 u3 t1 t2 t3 s8 s10 s12 r8 r10 r12 q4 q5 q6 nl nP
        have FB := H65.out.free
        obtain ⟨W6, hW6⟩ : ∃ W6, W6 = ((w5.alloc (.cells #[.int .i64 a0, .int .i64 a1, .int .i64 a2, .int .i64 a3, .int .i64 a4, .int .i64 a5, .int .i64 a6] 35)).alloc (.cells #[.int .i64 b0, .int .i64 b1, .int .i64 b2, .int .i64 b3, .int .i64 b4, .int .i64 b5, .int .i64 b6] 35)).alloc (.cells #[.int .i64 0, .int .i64 0, .int .i64 0, .int .i64 0, .int .i64 (b4 - a4), .int .i64 (b5 - a5), .int .i64 (b6 - a6)] 35) := ⟨_, rfl⟩
        have BB6 : Below w5.heap.size w5 W6 := by
          rw [hW6]
          exact (((Below.refl _ _).alloc (Nat.le_refl _) _).alloc (by simp) _).alloc (by simp; omega) _
        have X13 : Bx W6 (w5.heap.size + 1 + 1) (0, 0, 0, 0, b4 - a4, b5 - a5, b6 - a6) := by
          rw [hW6]
          have := Bx.new ((w5.alloc (.cells #[.int .i64 a0, .int .i64 a1, .int .i64 a2, .int .i64 a3, .int .i64 a4, .int .i64 a5, .int .i64 a6] 35)).alloc (.cells #[.int .i64 b0, .int .i64 b1, .int .i64 b2, .int .i64 b3, .int .i64 b4, .int .i64 b5, .int .i64 b6] 35)) (0, 0, 0, 0, b4 - a4, b5 - a5, b6 - a6)
          rw [World.size_alloc, World.size_alloc] at this
          exact this
        have c3 := (BB6.cell (p := ⟨Bl, 0, none⟩) (lt_cell c2'')).trans c2''
        have H66 := H65.out.keep (BB6.block rb H65.out.at_.lt)
        have H16 := Lib.hid (H15.out.keep (w' := W6) fun _ => BB6.block g2 (by omega))
        have H76 := Lib.hid (H75.out.trans (BB6.mono H75.out.size))
        have D6 := Lib.hid ((BB6.block D (lt_dfr D5.out)).trans D5.out)
        have g26 : g2 < W6.heap.size := by have := BB6.size; omega
        clear BB6 H15 H65 H75 D5
        gi_wp2_with fail
        rw [← hW6]
        clear hW6 c2''
        obtain ⟨bx, hbx⟩ : ∃ bx, bx = w5.heap.size + 1 + 1 := ⟨_, rfl⟩
        rw [← hbx] at X13 ⊢
        obtain ⟨x0, x1, x2, x3, x4, x5, x6⟩ := X13.at_
        obtain ⟨y0, y1, y2, y3, y4, y5, y6⟩ := H66.at_
        have f0 := H66.free 0
        have f1 := H66.free 1
        have f2 := H66.free 2
        have f3 := H66.free 3
        have f4 := H66.free 4
        have f5 := H66.free 5
        have f6 := H66.free 6
        simp only [Nat.zero_add] at x0 x1 x2 x3 x4 x5 x6 y0 y1 y2 y3 y4 y5 y6
        have S9 : At (st7 W6 rb (0, 0, 0, 0, b4 - a4, b5 - a5, b6 - a6)).drew rb 0 (0, 0, 0, 0, b4 - a4, b5 - a5, b6 - a6) := (st7_at H66.at_ _).keep (dh _ _)
        have B9 := Lib.hid (st7_below H76.out HRB.out (0, 0, 0, 0, b4 - a4, b5 - a5, b6 - a6)).drew
        have R9 := Lib.hid ((H16.out.keep (w' := st7 W6 rb (0, 0, 0, 0, b4 - a4, b5 - a5, b6 - a6)) fun _ => st7_other' _ _ _ _ ngr).keep (w' := (st7 W6 rb (0, 0, 0, 0, b4 - a4, b5 - a5, b6 - a6)).drew) fun _ => dh _ _)
        have L9 := Lib.hid (show g2 < (st7 W6 rb (0, 0, 0, 0, b4 - a4, b5 - a5, b6 - a6)).drew.heap.size from by rw [dhs, st7_size']; exact g26)
        have D9 := Lib.hid (show (st7 W6 rb (0, 0, 0, 0, b4 - a4, b5 - a5, b6 - a6)).drew.heap[D]? = some (.deferred (some [])) from by
          rw [dh, st7_other' _ _ _ _ (by omega)]; exact D6.out)
        clear H66 X13 hbx
        have mixed : Tryd.prog.follows .mixedOrders = true := Tryd.checked.mixed
        gi_region
        unfold st7 at S9 B9 R9 L9 D9
        dsimp only at S9 B9 R9 L9 D9
        generalize ((((((((W6.setCell ⟨rb, 0, none⟩ (.int .i64 0)).setCell ⟨rb, 1, none⟩ (.int .i64 0)).setCell ⟨rb, 2, none⟩ (.int .i64 0)).setCell ⟨rb, 3, none⟩ (.int .i64 0)).setCell ⟨rb, 4, none⟩ (.int .i64 (b4 - a4))).setCell ⟨rb, 5, none⟩ (.int .i64 (b5 - a5))).setCell ⟨rb, 6, none⟩ (.int .i64 (b6 - a6)))).drew = W9 at S9 B9 R9 L9 D9 ⊢
        have rD : rb ≠ D := by omega
        have gD : g2 ≠ D := by omega
        have S10 := S9.keep (w' := W9.putObj D (.deferred none)) (World.putObj_heap_other rD)
        have R10 := Lib.hid (R9.out.keep (w' := W9.putObj D (.deferred none)) fun _ => World.putObj_heap_other gD)
        obtain ⟨c0, c1, c2', c3', c4, c5, c6⟩ := S10
        simp only [Nat.zero_add] at c0 c1 c2' c3' c4 c5 c6
        clear S9 x0 x1 x2 x3 x4 x5 x6 y0 y1 y2 y3 y4 y5 y6 f0 f1 f2 f3 f4 f5 f6 c3
        gi_wp2
        refine ⟨by simp, .inl ⟨_, _, rfl, run_takeDeferred (w := W9) D9.out, ?_⟩⟩
        have bk := belowK_b (w := w) (Nat.le_refl _) W9 D _ (.deferred none) (by omega) D9.out rfl rfl
        refine ⟨.tuple #[.slice (some ⟨g2, 0, none⟩) n c2, .agg #[.int .i64 0, .int .i64 0, .int .i64 0, .int .i64 0, .int .i64 (b4 - a4), .int .i64 (b5 - a5), .int .i64 (b6 - a6)], .int .i64 M1], ?_, ?_⟩
        · simp [results, Tryd.f18, go_sem, c0, c1, c2', c3', c4, c5, c6]
        · rw [Q.out.1, Q.out.2.1, Q.out.2.2]
          exact out3_yes (t := (M1, MF, MI, MP)) LP.out R10.out G2.out (by simp; exact L9.out) (B9.out.trans bk)
end Go.Proofs.YtchpjojndkkmeaaDoor.base
