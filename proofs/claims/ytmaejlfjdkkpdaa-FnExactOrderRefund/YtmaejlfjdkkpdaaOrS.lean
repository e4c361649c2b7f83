/-
  Plain helpers of this seat's proofs: the contract of the model's OrderRefund. Conditions: none.
-/
import Derived.Test.YtmaejlfjdkkpdaaOrI
import Derived.Test.YtmaejlfjdkkpdaaOkS
import Derived.Test.YtmaejlfjdkkpdaaTkS
import Derived.Deep.Cut
import Derived.StillTailTactics
import Derived.Deep.RegionHeld3
namespace Go.Proofs.Ytmaejlfjdkkpdaa.ob
open Go.ChangeShapes Go.WideShapes Go.ChangeAt Go.RowKit
open gen
open seven (F7 zz Row At)
open four (F4)
open pl (inR)
open pls (nth Pls OL NewO)
open ord (Sc iok)
set_option maxRecDepth 100000 in
set_option maxHeartbeats 8000000 in
theorem orS (i q : Int) (w : World) (B : Nat) (s : Sc) (ci gi : Nat) (l : List F4) (cp gp : Nat) (p : List (List F7)) (gs cs : Nat → Nat) (h : OL w B l p (some ⟨gi, 0, none⟩) ci gi (some ⟨gp, 0, none⟩) cp gp gs cs) (hl : l.length ≤ 1048576) (hn : p.length ≤ 1048576) (hm : ∀ i, i < p.length → (nth p i).length ≤ 1048576) {S0 S1 C : Int} {s' : Sc} {l' : List F4} {p' : List (List F7)} (hr : refR s l p i q S0 S1 C s' l' p') :
    Calls Try.prog 36 #[.agg #[.int .i64 s.id, .int .i64 s.co, .int .i64 s.me, .int .i64 s.cu, .int .i64 s.da, .int .i64 s.nn, .int .i64 s.ra, .int .i64 s.nu, .int .i64 s.de, .slice (some ⟨gi, 0, none⟩) l.length ci, .slice (some ⟨gp, 0, none⟩) p.length cp, .int .i64 s.op, .int .i64 s.up], .int .i64 i, .int .i64 q] w fun e w' => ∃ v, e = .returned (.tuple #[v, .int .i64 S0, .int .i64 S1, .int .i64 C]) ∧ Res w s' l' p' v w' := by
  have b0 : Below w.heap.size w ((w.alloc (.cells #[.int .i64 s.id, .int .i64 s.co, .int .i64 s.me, .int .i64 s.cu, .int .i64 s.da, .int .i64 s.nn, .int .i64 s.ra, .int .i64 s.nu, .int .i64 s.de, .slice (some ⟨gi, 0, none⟩) l.length ci, .slice (some ⟨gp, 0, none⟩) p.length cp, .int .i64 s.op, .int .i64 s.up] 31)).alloc (.cells #[.int .i64 0, .int .i64 0, .int .i64 0, .int .i64 0, .int .i64 0, .int .i64 0, .int .i64 0, .int .i64 0, .int .i64 0, .slice none 0 0, .slice none 0 0, .int .i64 0, .int .i64 0] 31)) := bAl (bAl (Below.refl _ _) (Nat.le_refl _) _) (Nat.le_refl _) _
  have B0 := Lib.hid b0
  have O0 := Lib.hid ((OB.new w s (some ⟨gi, 0, none⟩) l.length ci (some ⟨gp, 0, none⟩) p.length cp 31).keep (w' := (w.alloc (.cells #[.int .i64 s.id, .int .i64 s.co, .int .i64 s.me, .int .i64 s.cu, .int .i64 s.da, .int .i64 s.nn, .int .i64 s.ra, .int .i64 s.nu, .int .i64 s.de, .slice (some ⟨gi, 0, none⟩) l.length ci, .slice (some ⟨gp, 0, none⟩) p.length cp, .int .i64 s.op, .int .i64 s.up] 31)).alloc (.cells #[.int .i64 0, .int .i64 0, .int .i64 0, .int .i64 0, .int .i64 0, .int .i64 0, .int .i64 0, .int .i64 0, .int .i64 0, .slice none 0 0, .slice none 0 0, .int .i64 0, .int .i64 0] 31)) (Below.heap_alloc _ _ _ (by simp)))
  have X0 := Blk.new (w.alloc (.cells #[.int .i64 s.id, .int .i64 s.co, .int .i64 s.me, .int .i64 s.cu, .int .i64 s.da, .int .i64 s.nn, .int .i64 s.ra, .int .i64 s.nu, .int .i64 s.de, .slice (some ⟨gi, 0, none⟩) l.length ci, .slice (some ⟨gp, 0, none⟩) p.length cp, .int .i64 s.op, .int .i64 s.up] 31)) #[.int .i64 0, .int .i64 0, .int .i64 0, .int .i64 0, .int .i64 0, .int .i64 0, .int .i64 0, .int .i64 0, .int .i64 0, .slice none 0 0, .slice none 0 0, .int .i64 0, .int .i64 0] 31 13 rfl
  have z0 : ((w.alloc (.cells #[.int .i64 s.id, .int .i64 s.co, .int .i64 s.me, .int .i64 s.cu, .int .i64 s.da, .int .i64 s.nn, .int .i64 s.ra, .int .i64 s.nu, .int .i64 s.de, .slice (some ⟨gi, 0, none⟩) l.length ci, .slice (some ⟨gp, 0, none⟩) p.length cp, .int .i64 s.op, .int .i64 s.up] 31)).alloc (.cells #[.int .i64 0, .int .i64 0, .int .i64 0, .int .i64 0, .int .i64 0, .int .i64 0, .int .i64 0, .int .i64 0, .int .i64 0, .slice none 0 0, .slice none 0 0, .int .i64 0, .int .i64 0] 31)).heap.size = w.heap.size + 1 + 1 := by simp only [sz_al]
  simp only [sz_al] at X0
  have X0 := Lib.hid X0
  have hm' : ∀ i, i < p.length → (nth p i).length ≤ 1048577 := fun i hi => Nat.le_trans (hm i hi) (by omega)
  have CK := okS ((w.alloc (.cells #[.int .i64 s.id, .int .i64 s.co, .int .i64 s.me, .int .i64 s.cu, .int .i64 s.da, .int .i64 s.nn, .int .i64 s.ra, .int .i64 s.nu, .int .i64 s.de, .slice (some ⟨gi, 0, none⟩) l.length ci, .slice (some ⟨gp, 0, none⟩) p.length cp, .int .i64 s.op, .int .i64 s.up] 31)).alloc (.cells #[.int .i64 0, .int .i64 0, .int .i64 0, .int .i64 0, .int .i64 0, .int .i64 0, .int .i64 0, .int .i64 0, .int .i64 0, .slice none 0 0, .slice none 0 0, .int .i64 0, .int .i64 0] 31)) B s _ ci gi l _ cp gp p gs cs (h.below b0) (by omega) (by omega) hm'
  have L := Lib.hid h
  have HM := Lib.hid hm'
  clear h hm hm' b0
  rcases hr with ⟨hk, rfl, rfl, rfl, rfl, rfl, rfl⟩ | ⟨hk, hB, rfl, rfl, rfl, rfl, rfl⟩ | ⟨hk, k, x1, x2, x3, x4, rfl, hkl, hx, q1, q2, hP, hV, hN, rfl, rfl, rfl, rfl⟩
  · rw [hk] at CK
    go_enter Try.func36, Try.ntmps36
    go_wp2_with fail
    generalize (w.alloc (.cells #[.int .i64 s.id, .int .i64 s.co, .int .i64 s.me, .int .i64 s.cu, .int .i64 s.da, .int .i64 s.nn, .int .i64 s.ra, .int .i64 s.nu, .int .i64 s.de, .slice (some ⟨gi, 0, none⟩) l.length ci, .slice (some ⟨gp, 0, none⟩) p.length cp, .int .i64 s.op, .int .i64 s.up] 31)).alloc (.cells #[.int .i64 0, .int .i64 0, .int .i64 0, .int .i64 0, .int .i64 0, .int .i64 0, .int .i64 0, .int .i64 0, .int .i64 0, .slice none 0 0, .slice none 0 0, .int .i64 0, .int .i64 0] 31) = W2 at B0 O0 X0 z0 CK ⊢
    refine CK.mono ?_
    rintro e w1 ⟨rfl, b1⟩
    have B1 := Lib.hid (B0.out.trans (b1.mono B0.out.size))
    have O1 := Lib.hid (O0.out.keep (b1.block w.heap.size (by omega)))
    have X1 := Lib.hid (X0.out.below b1 X0.out.lt)
    have z1 := b1.size
    clear b1 O0 X0 B0
    have x0 : w1.cell? ⟨w.heap.size + 1, 0, none⟩ = some (.int .i64 0) := X1.out.cell 0 (by decide)
    have x1 : w1.cell? ⟨w.heap.size + 1, 1, none⟩ = some (.int .i64 0) := X1.out.cell 1 (by decide)
    have x2 : w1.cell? ⟨w.heap.size + 1, 2, none⟩ = some (.int .i64 0) := X1.out.cell 2 (by decide)
    have x3 : w1.cell? ⟨w.heap.size + 1, 3, none⟩ = some (.int .i64 0) := X1.out.cell 3 (by decide)
    have x4 : w1.cell? ⟨w.heap.size + 1, 4, none⟩ = some (.int .i64 0) := X1.out.cell 4 (by decide)
    have x5 : w1.cell? ⟨w.heap.size + 1, 5, none⟩ = some (.int .i64 0) := X1.out.cell 5 (by decide)
    have x6 : w1.cell? ⟨w.heap.size + 1, 6, none⟩ = some (.int .i64 0) := X1.out.cell 6 (by decide)
    have x7 : w1.cell? ⟨w.heap.size + 1, 7, none⟩ = some (.int .i64 0) := X1.out.cell 7 (by decide)
    have x8 : w1.cell? ⟨w.heap.size + 1, 8, none⟩ = some (.int .i64 0) := X1.out.cell 8 (by decide)
    have x9 : w1.cell? ⟨w.heap.size + 1, 9, none⟩ = some (.slice none 0 0) := X1.out.cell 9 (by decide)
    have x10 : w1.cell? ⟨w.heap.size + 1, 10, none⟩ = some (.slice none 0 0) := X1.out.cell 10 (by decide)
    have x11 : w1.cell? ⟨w.heap.size + 1, 11, none⟩ = some (.int .i64 0) := X1.out.cell 11 (by decide)
    have x12 : w1.cell? ⟨w.heap.size + 1, 12, none⟩ = some (.int .i64 0) := X1.out.cell 12 (by decide)
    have f0 := X1.out.free 0
    have f1 := X1.out.free 1
    have f2 := X1.out.free 2
    have f3 := X1.out.free 3
    have f4 := X1.out.free 4
    have f5 := X1.out.free 5
    have f6 := X1.out.free 6
    have f7 := X1.out.free 7
    have f8 := X1.out.free 8
    have f9 := X1.out.free 9
    have f10 := X1.out.free 10
    have f11 := X1.out.free 11
    have f12 := X1.out.free 12
    have Y := Lib.hid (((((((((((((X1.out.set (k := 0) (by decide) (.int .i64 0)).set (k := 1) (by decide) (.int .i64 0)).set (k := 2) (by decide) (.int .i64 0)).set (k := 3) (by decide) (.int .i64 0)).set (k := 4) (by decide) (.int .i64 0)).set (k := 5) (by decide) (.int .i64 0)).set (k := 6) (by decide) (.int .i64 0)).set (k := 7) (by decide) (.int .i64 0)).set (k := 8) (by decide) (.int .i64 0)).set (k := 9) (by decide) (.slice none 0 0)).set (k := 10) (by decide) (.slice none 0 0)).set (k := 11) (by decide) (.int .i64 0)).set (k := 12) (by decide) (.int .i64 0))
    have BF := Lib.hid (show Below w.heap.size w (((((((((((((w1.setCell ⟨w.heap.size + 1, 0, none⟩ (.int .i64 0)).setCell ⟨w.heap.size + 1, 1, none⟩ (.int .i64 0)).setCell ⟨w.heap.size + 1, 2, none⟩ (.int .i64 0)).setCell ⟨w.heap.size + 1, 3, none⟩ (.int .i64 0)).setCell ⟨w.heap.size + 1, 4, none⟩ (.int .i64 0)).setCell ⟨w.heap.size + 1, 5, none⟩ (.int .i64 0)).setCell ⟨w.heap.size + 1, 6, none⟩ (.int .i64 0)).setCell ⟨w.heap.size + 1, 7, none⟩ (.int .i64 0)).setCell ⟨w.heap.size + 1, 8, none⟩ (.int .i64 0)).setCell ⟨w.heap.size + 1, 9, none⟩ (.slice none 0 0)).setCell ⟨w.heap.size + 1, 10, none⟩ (.slice none 0 0)).setCell ⟨w.heap.size + 1, 11, none⟩ (.int .i64 0)).setCell ⟨w.heap.size + 1, 12, none⟩ (.int .i64 0)) from (((((((((((((B1.out.setCell (p := ⟨w.heap.size + 1, 0, none⟩) (show w.heap.size ≤ w.heap.size + 1 by omega) (.int .i64 0)).setCell (p := ⟨w.heap.size + 1, 1, none⟩) (show w.heap.size ≤ w.heap.size + 1 by omega) (.int .i64 0)).setCell (p := ⟨w.heap.size + 1, 2, none⟩) (show w.heap.size ≤ w.heap.size + 1 by omega) (.int .i64 0)).setCell (p := ⟨w.heap.size + 1, 3, none⟩) (show w.heap.size ≤ w.heap.size + 1 by omega) (.int .i64 0)).setCell (p := ⟨w.heap.size + 1, 4, none⟩) (show w.heap.size ≤ w.heap.size + 1 by omega) (.int .i64 0)).setCell (p := ⟨w.heap.size + 1, 5, none⟩) (show w.heap.size ≤ w.heap.size + 1 by omega) (.int .i64 0)).setCell (p := ⟨w.heap.size + 1, 6, none⟩) (show w.heap.size ≤ w.heap.size + 1 by omega) (.int .i64 0)).setCell (p := ⟨w.heap.size + 1, 7, none⟩) (show w.heap.size ≤ w.heap.size + 1 by omega) (.int .i64 0)).setCell (p := ⟨w.heap.size + 1, 8, none⟩) (show w.heap.size ≤ w.heap.size + 1 by omega) (.int .i64 0)).setCell (p := ⟨w.heap.size + 1, 9, none⟩) (show w.heap.size ≤ w.heap.size + 1 by omega) (.slice none 0 0)).setCell (p := ⟨w.heap.size + 1, 10, none⟩) (show w.heap.size ≤ w.heap.size + 1 by omega) (.slice none 0 0)).setCell (p := ⟨w.heap.size + 1, 11, none⟩) (show w.heap.size ≤ w.heap.size + 1 by omega) (.int .i64 0)).setCell (p := ⟨w.heap.size + 1, 12, none⟩) (show w.heap.size ≤ w.heap.size + 1 by omega) (.int .i64 0)))
    go_wp2
    change bodyPost _ _ _ _ _ (((((((((((((w1.setCell ⟨w.heap.size + 1, 0, none⟩ (.int .i64 0)).setCell ⟨w.heap.size + 1, 1, none⟩ (.int .i64 0)).setCell ⟨w.heap.size + 1, 2, none⟩ (.int .i64 0)).setCell ⟨w.heap.size + 1, 3, none⟩ (.int .i64 0)).setCell ⟨w.heap.size + 1, 4, none⟩ (.int .i64 0)).setCell ⟨w.heap.size + 1, 5, none⟩ (.int .i64 0)).setCell ⟨w.heap.size + 1, 6, none⟩ (.int .i64 0)).setCell ⟨w.heap.size + 1, 7, none⟩ (.int .i64 0)).setCell ⟨w.heap.size + 1, 8, none⟩ (.int .i64 0)).setCell ⟨w.heap.size + 1, 9, none⟩ (.slice none 0 0)).setCell ⟨w.heap.size + 1, 10, none⟩ (.slice none 0 0)).setCell ⟨w.heap.size + 1, 11, none⟩ (.int .i64 0)).setCell ⟨w.heap.size + 1, 12, none⟩ (.int .i64 0))
    generalize ((((((((((((w1.setCell ⟨w.heap.size + 1, 0, none⟩ (.int .i64 0)).setCell ⟨w.heap.size + 1, 1, none⟩ (.int .i64 0)).setCell ⟨w.heap.size + 1, 2, none⟩ (.int .i64 0)).setCell ⟨w.heap.size + 1, 3, none⟩ (.int .i64 0)).setCell ⟨w.heap.size + 1, 4, none⟩ (.int .i64 0)).setCell ⟨w.heap.size + 1, 5, none⟩ (.int .i64 0)).setCell ⟨w.heap.size + 1, 6, none⟩ (.int .i64 0)).setCell ⟨w.heap.size + 1, 7, none⟩ (.int .i64 0)).setCell ⟨w.heap.size + 1, 8, none⟩ (.int .i64 0)).setCell ⟨w.heap.size + 1, 9, none⟩ (.slice none 0 0)).setCell ⟨w.heap.size + 1, 10, none⟩ (.slice none 0 0)).setCell ⟨w.heap.size + 1, 11, none⟩ (.int .i64 0)).setCell ⟨w.heap.size + 1, 12, none⟩ (.int .i64 0) = W9 at Y BF ⊢
    have y0 : W9.cell? ⟨w.heap.size + 1, 0, none⟩ = some (.int .i64 0) := Y.out.cell 0 (by decide)
    have y1 : W9.cell? ⟨w.heap.size + 1, 1, none⟩ = some (.int .i64 0) := Y.out.cell 1 (by decide)
    have y2 : W9.cell? ⟨w.heap.size + 1, 2, none⟩ = some (.int .i64 0) := Y.out.cell 2 (by decide)
    have y3 : W9.cell? ⟨w.heap.size + 1, 3, none⟩ = some (.int .i64 0) := Y.out.cell 3 (by decide)
    have y4 : W9.cell? ⟨w.heap.size + 1, 4, none⟩ = some (.int .i64 0) := Y.out.cell 4 (by decide)
    have y5 : W9.cell? ⟨w.heap.size + 1, 5, none⟩ = some (.int .i64 0) := Y.out.cell 5 (by decide)
    have y6 : W9.cell? ⟨w.heap.size + 1, 6, none⟩ = some (.int .i64 0) := Y.out.cell 6 (by decide)
    have y7 : W9.cell? ⟨w.heap.size + 1, 7, none⟩ = some (.int .i64 0) := Y.out.cell 7 (by decide)
    have y8 : W9.cell? ⟨w.heap.size + 1, 8, none⟩ = some (.int .i64 0) := Y.out.cell 8 (by decide)
    have y9 : W9.cell? ⟨w.heap.size + 1, 9, none⟩ = some (.slice none 0 0) := Y.out.cell 9 (by decide)
    have y10 : W9.cell? ⟨w.heap.size + 1, 10, none⟩ = some (.slice none 0 0) := Y.out.cell 10 (by decide)
    have y11 : W9.cell? ⟨w.heap.size + 1, 11, none⟩ = some (.int .i64 0) := Y.out.cell 11 (by decide)
    have y12 : W9.cell? ⟨w.heap.size + 1, 12, none⟩ = some (.int .i64 0) := Y.out.cell 12 (by decide)
    exact bodyPost_ret (v := .tuple #[.agg #[.int .i64 0, .int .i64 0, .int .i64 0, .int .i64 0, .int .i64 0, .int .i64 0, .int .i64 0, .int .i64 0, .int .i64 0, .slice none 0 0, .slice none 0 0, .int .i64 0, .int .i64 0], .int .i64 0, .int .i64 0, .int .i64 1]) (by simp [results, Try.results36, go_sem, y0, y1, y2, y3, y4, y5, y6, y7, y8, y9, y10, y11, y12]) rfl ⟨_, rfl, res_no BF.out⟩
  · rw [hk] at CK
    have OKV := ord.ok_iff.1 hk
    have p8 := OKV.p1
    have i8 := OKV.i1
    have IVh := Lib.hid OKV.iv
    clear OKV hk
    rcases hB with ⟨hi, rfl⟩ | ⟨k, x1, x2, x3, x4, rfl, hkl, hx, hq, rfl⟩ | ⟨k, x1, x2, x3, x4, rfl, hkl, hx, q1, q2, hP, rfl⟩
    · go_enter Try.func36, Try.ntmps36
      go_wp2_with fail
      generalize (w.alloc (.cells #[.int .i64 s.id, .int .i64 s.co, .int .i64 s.me, .int .i64 s.cu, .int .i64 s.da, .int .i64 s.nn, .int .i64 s.ra, .int .i64 s.nu, .int .i64 s.de, .slice (some ⟨gi, 0, none⟩) l.length ci, .slice (some ⟨gp, 0, none⟩) p.length cp, .int .i64 s.op, .int .i64 s.up] 31)).alloc (.cells #[.int .i64 0, .int .i64 0, .int .i64 0, .int .i64 0, .int .i64 0, .int .i64 0, .int .i64 0, .int .i64 0, .int .i64 0, .slice none 0 0, .slice none 0 0, .int .i64 0, .int .i64 0] 31) = W2 at B0 O0 X0 z0 CK ⊢
      refine CK.mono ?_
      rintro e w1 ⟨rfl, b1⟩
      have B1 := Lib.hid (B0.out.trans (b1.mono B0.out.size))
      have O1 := Lib.hid (O0.out.keep (b1.block w.heap.size (by omega)))
      have X1 := Lib.hid (X0.out.below b1 X0.out.lt)
      have z1 := b1.size
      clear b1 O0 X0 B0
      have c0 := fun W => base.inB i 0 ((l.length : Int) - 1) W
      have t0 : inR i 0 ((l.length : Int) - 1) = false := by cases h : inR i 0 ((l.length : Int) - 1) with | false => rfl | true => exact absurd (by have := pl.inR_iff.1 h; omega) hi
      rw [t0] at c0
      have a9 := O1.out.c9
      have zl : (l.length : Int) ≤ 8 := by omega
      go_wp2_with fail
      refine (c0 _).mono ?_
      rintro e w' ⟨rfl, rfl⟩
      clear t0 c0
      clear a9
      have x0 : w1.cell? ⟨w.heap.size + 1, 0, none⟩ = some (.int .i64 0) := X1.out.cell 0 (by decide)
      have x1 : w1.cell? ⟨w.heap.size + 1, 1, none⟩ = some (.int .i64 0) := X1.out.cell 1 (by decide)
      have x2 : w1.cell? ⟨w.heap.size + 1, 2, none⟩ = some (.int .i64 0) := X1.out.cell 2 (by decide)
      have x3 : w1.cell? ⟨w.heap.size + 1, 3, none⟩ = some (.int .i64 0) := X1.out.cell 3 (by decide)
      have x4 : w1.cell? ⟨w.heap.size + 1, 4, none⟩ = some (.int .i64 0) := X1.out.cell 4 (by decide)
      have x5 : w1.cell? ⟨w.heap.size + 1, 5, none⟩ = some (.int .i64 0) := X1.out.cell 5 (by decide)
      have x6 : w1.cell? ⟨w.heap.size + 1, 6, none⟩ = some (.int .i64 0) := X1.out.cell 6 (by decide)
      have x7 : w1.cell? ⟨w.heap.size + 1, 7, none⟩ = some (.int .i64 0) := X1.out.cell 7 (by decide)
      have x8 : w1.cell? ⟨w.heap.size + 1, 8, none⟩ = some (.int .i64 0) := X1.out.cell 8 (by decide)
      have x9 : w1.cell? ⟨w.heap.size + 1, 9, none⟩ = some (.slice none 0 0) := X1.out.cell 9 (by decide)
      have x10 : w1.cell? ⟨w.heap.size + 1, 10, none⟩ = some (.slice none 0 0) := X1.out.cell 10 (by decide)
      have x11 : w1.cell? ⟨w.heap.size + 1, 11, none⟩ = some (.int .i64 0) := X1.out.cell 11 (by decide)
      have x12 : w1.cell? ⟨w.heap.size + 1, 12, none⟩ = some (.int .i64 0) := X1.out.cell 12 (by decide)
      have f0 := X1.out.free 0
      have f1 := X1.out.free 1
      have f2 := X1.out.free 2
      have f3 := X1.out.free 3
      have f4 := X1.out.free 4
      have f5 := X1.out.free 5
      have f6 := X1.out.free 6
      have f7 := X1.out.free 7
      have f8 := X1.out.free 8
      have f9 := X1.out.free 9
      have f10 := X1.out.free 10
      have f11 := X1.out.free 11
      have f12 := X1.out.free 12
      have Y := Lib.hid (((((((((((((X1.out.set (k := 0) (by decide) (.int .i64 0)).set (k := 1) (by decide) (.int .i64 0)).set (k := 2) (by decide) (.int .i64 0)).set (k := 3) (by decide) (.int .i64 0)).set (k := 4) (by decide) (.int .i64 0)).set (k := 5) (by decide) (.int .i64 0)).set (k := 6) (by decide) (.int .i64 0)).set (k := 7) (by decide) (.int .i64 0)).set (k := 8) (by decide) (.int .i64 0)).set (k := 9) (by decide) (.slice none 0 0)).set (k := 10) (by decide) (.slice none 0 0)).set (k := 11) (by decide) (.int .i64 0)).set (k := 12) (by decide) (.int .i64 0))
      have BF := Lib.hid (show Below w.heap.size w (((((((((((((w1.setCell ⟨w.heap.size + 1, 0, none⟩ (.int .i64 0)).setCell ⟨w.heap.size + 1, 1, none⟩ (.int .i64 0)).setCell ⟨w.heap.size + 1, 2, none⟩ (.int .i64 0)).setCell ⟨w.heap.size + 1, 3, none⟩ (.int .i64 0)).setCell ⟨w.heap.size + 1, 4, none⟩ (.int .i64 0)).setCell ⟨w.heap.size + 1, 5, none⟩ (.int .i64 0)).setCell ⟨w.heap.size + 1, 6, none⟩ (.int .i64 0)).setCell ⟨w.heap.size + 1, 7, none⟩ (.int .i64 0)).setCell ⟨w.heap.size + 1, 8, none⟩ (.int .i64 0)).setCell ⟨w.heap.size + 1, 9, none⟩ (.slice none 0 0)).setCell ⟨w.heap.size + 1, 10, none⟩ (.slice none 0 0)).setCell ⟨w.heap.size + 1, 11, none⟩ (.int .i64 0)).setCell ⟨w.heap.size + 1, 12, none⟩ (.int .i64 0)) from (((((((((((((B1.out.setCell (p := ⟨w.heap.size + 1, 0, none⟩) (show w.heap.size ≤ w.heap.size + 1 by omega) (.int .i64 0)).setCell (p := ⟨w.heap.size + 1, 1, none⟩) (show w.heap.size ≤ w.heap.size + 1 by omega) (.int .i64 0)).setCell (p := ⟨w.heap.size + 1, 2, none⟩) (show w.heap.size ≤ w.heap.size + 1 by omega) (.int .i64 0)).setCell (p := ⟨w.heap.size + 1, 3, none⟩) (show w.heap.size ≤ w.heap.size + 1 by omega) (.int .i64 0)).setCell (p := ⟨w.heap.size + 1, 4, none⟩) (show w.heap.size ≤ w.heap.size + 1 by omega) (.int .i64 0)).setCell (p := ⟨w.heap.size + 1, 5, none⟩) (show w.heap.size ≤ w.heap.size + 1 by omega) (.int .i64 0)).setCell (p := ⟨w.heap.size + 1, 6, none⟩) (show w.heap.size ≤ w.heap.size + 1 by omega) (.int .i64 0)).setCell (p := ⟨w.heap.size + 1, 7, none⟩) (show w.heap.size ≤ w.heap.size + 1 by omega) (.int .i64 0)).setCell (p := ⟨w.heap.size + 1, 8, none⟩) (show w.heap.size ≤ w.heap.size + 1 by omega) (.int .i64 0)).setCell (p := ⟨w.heap.size + 1, 9, none⟩) (show w.heap.size ≤ w.heap.size + 1 by omega) (.slice none 0 0)).setCell (p := ⟨w.heap.size + 1, 10, none⟩) (show w.heap.size ≤ w.heap.size + 1 by omega) (.slice none 0 0)).setCell (p := ⟨w.heap.size + 1, 11, none⟩) (show w.heap.size ≤ w.heap.size + 1 by omega) (.int .i64 0)).setCell (p := ⟨w.heap.size + 1, 12, none⟩) (show w.heap.size ≤ w.heap.size + 1 by omega) (.int .i64 0)))
      go_wp2
      change bodyPost _ _ _ _ _ (((((((((((((w1.setCell ⟨w.heap.size + 1, 0, none⟩ (.int .i64 0)).setCell ⟨w.heap.size + 1, 1, none⟩ (.int .i64 0)).setCell ⟨w.heap.size + 1, 2, none⟩ (.int .i64 0)).setCell ⟨w.heap.size + 1, 3, none⟩ (.int .i64 0)).setCell ⟨w.heap.size + 1, 4, none⟩ (.int .i64 0)).setCell ⟨w.heap.size + 1, 5, none⟩ (.int .i64 0)).setCell ⟨w.heap.size + 1, 6, none⟩ (.int .i64 0)).setCell ⟨w.heap.size + 1, 7, none⟩ (.int .i64 0)).setCell ⟨w.heap.size + 1, 8, none⟩ (.int .i64 0)).setCell ⟨w.heap.size + 1, 9, none⟩ (.slice none 0 0)).setCell ⟨w.heap.size + 1, 10, none⟩ (.slice none 0 0)).setCell ⟨w.heap.size + 1, 11, none⟩ (.int .i64 0)).setCell ⟨w.heap.size + 1, 12, none⟩ (.int .i64 0))
      generalize ((((((((((((w1.setCell ⟨w.heap.size + 1, 0, none⟩ (.int .i64 0)).setCell ⟨w.heap.size + 1, 1, none⟩ (.int .i64 0)).setCell ⟨w.heap.size + 1, 2, none⟩ (.int .i64 0)).setCell ⟨w.heap.size + 1, 3, none⟩ (.int .i64 0)).setCell ⟨w.heap.size + 1, 4, none⟩ (.int .i64 0)).setCell ⟨w.heap.size + 1, 5, none⟩ (.int .i64 0)).setCell ⟨w.heap.size + 1, 6, none⟩ (.int .i64 0)).setCell ⟨w.heap.size + 1, 7, none⟩ (.int .i64 0)).setCell ⟨w.heap.size + 1, 8, none⟩ (.int .i64 0)).setCell ⟨w.heap.size + 1, 9, none⟩ (.slice none 0 0)).setCell ⟨w.heap.size + 1, 10, none⟩ (.slice none 0 0)).setCell ⟨w.heap.size + 1, 11, none⟩ (.int .i64 0)).setCell ⟨w.heap.size + 1, 12, none⟩ (.int .i64 0) = W9 at Y BF ⊢
      have y0 : W9.cell? ⟨w.heap.size + 1, 0, none⟩ = some (.int .i64 0) := Y.out.cell 0 (by decide)
      have y1 : W9.cell? ⟨w.heap.size + 1, 1, none⟩ = some (.int .i64 0) := Y.out.cell 1 (by decide)
      have y2 : W9.cell? ⟨w.heap.size + 1, 2, none⟩ = some (.int .i64 0) := Y.out.cell 2 (by decide)
      have y3 : W9.cell? ⟨w.heap.size + 1, 3, none⟩ = some (.int .i64 0) := Y.out.cell 3 (by decide)
      have y4 : W9.cell? ⟨w.heap.size + 1, 4, none⟩ = some (.int .i64 0) := Y.out.cell 4 (by decide)
      have y5 : W9.cell? ⟨w.heap.size + 1, 5, none⟩ = some (.int .i64 0) := Y.out.cell 5 (by decide)
      have y6 : W9.cell? ⟨w.heap.size + 1, 6, none⟩ = some (.int .i64 0) := Y.out.cell 6 (by decide)
      have y7 : W9.cell? ⟨w.heap.size + 1, 7, none⟩ = some (.int .i64 0) := Y.out.cell 7 (by decide)
      have y8 : W9.cell? ⟨w.heap.size + 1, 8, none⟩ = some (.int .i64 0) := Y.out.cell 8 (by decide)
      have y9 : W9.cell? ⟨w.heap.size + 1, 9, none⟩ = some (.slice none 0 0) := Y.out.cell 9 (by decide)
      have y10 : W9.cell? ⟨w.heap.size + 1, 10, none⟩ = some (.slice none 0 0) := Y.out.cell 10 (by decide)
      have y11 : W9.cell? ⟨w.heap.size + 1, 11, none⟩ = some (.int .i64 0) := Y.out.cell 11 (by decide)
      have y12 : W9.cell? ⟨w.heap.size + 1, 12, none⟩ = some (.int .i64 0) := Y.out.cell 12 (by decide)
      exact bodyPost_ret (v := .tuple #[.agg #[.int .i64 0, .int .i64 0, .int .i64 0, .int .i64 0, .int .i64 0, .int .i64 0, .int .i64 0, .int .i64 0, .int .i64 0, .slice none 0 0, .slice none 0 0, .int .i64 0, .int .i64 0], .int .i64 0, .int .i64 0, .int .i64 2]) (by simp [results, Try.results36, go_sem, y0, y1, y2, y3, y4, y5, y6, y7, y8, y9, y10, y11, y12]) rfl ⟨_, rfl, res_no BF.out⟩
    · have hv : ord.Iin (x1, x2, x3, x4) := by rw [← hx]; exact ord.iok_iff.1 (IVh.out k hkl)
      go_enter Try.func36, Try.ntmps36
      go_wp2_with fail
      generalize (w.alloc (.cells #[.int .i64 s.id, .int .i64 s.co, .int .i64 s.me, .int .i64 s.cu, .int .i64 s.da, .int .i64 s.nn, .int .i64 s.ra, .int .i64 s.nu, .int .i64 s.de, .slice (some ⟨gi, 0, none⟩) l.length ci, .slice (some ⟨gp, 0, none⟩) p.length cp, .int .i64 s.op, .int .i64 s.up] 31)).alloc (.cells #[.int .i64 0, .int .i64 0, .int .i64 0, .int .i64 0, .int .i64 0, .int .i64 0, .int .i64 0, .int .i64 0, .int .i64 0, .slice none 0 0, .slice none 0 0, .int .i64 0, .int .i64 0] 31) = W2 at B0 O0 X0 z0 CK ⊢
      refine CK.mono ?_
      rintro e w1 ⟨rfl, b1⟩
      have B1 := Lib.hid (B0.out.trans (b1.mono B0.out.size))
      have O1 := Lib.hid (O0.out.keep (b1.block w.heap.size (by omega)))
      have X1 := Lib.hid (X0.out.below b1 X0.out.lt)
      have z1 := b1.size
      clear b1 O0 X0 B0
      have c0 := fun W => base.inB (k : Int) 0 ((l.length : Int) - 1) W
      have t0 : inR (k : Int) 0 ((l.length : Int) - 1) = true := pl.inR_iff.2 (by omega)
      rw [t0] at c0
      have a9 := O1.out.c9
      have zl : (l.length : Int) ≤ 8 := by omega
      go_wp2_with fail
      refine (c0 _).mono ?_
      rintro e w' ⟨rfl, rfl⟩
      clear t0 c0
      have r := (L.out.below B1.out).items
      have A := r.cells k hkl
      rw [hx] at A
      obtain ⟨e0, e1, e2, e3⟩ := A
      dsimp only at e0 e1 e2 e3
      obtain ⟨v1, v2, v3, v4, v5, v6, v7, v8⟩ := hv
      dsimp only at v1 v2 v3 v4 v5 v6 v7 v8
      have z0 : (0 : Int) ≤ (k : Int) := by omega
      have z1 : (k : Int) < (l.length : Int) := by omega
      have t1 : inR q 1 (x3 - x4) = false := by cases h : inR q 1 (x3 - x4) with | false => rfl | true => exact absurd (pl.inR_iff.1 h) hq
      have c1 := fun W => base.inB q 1 (x3 - x4) W
      rw [t1] at c1
      have mw : IntKind.i64.wrap (x3 - x4) = x3 - x4 := by rw [IntKind.wrap_i64]; omega
      go_wp2_with fail
      have SD : w1.drew.cell? ⟨w.heap.size, 9, none⟩ = some (.slice (some ⟨gi, 0, none⟩) l.length ci) ∧ w1.drew.cell? ⟨gi, k * 4 + 2, none⟩ = some (.int .i64 x3) ∧ w1.drew.cell? ⟨gi, k * 4 + 3, none⟩ = some (.int .i64 x4) := ⟨a9, e2, e3⟩
      have SDh := Lib.hid SD
      clear SD
      go_region_held3 (fun w' => w'.cell? ⟨w.heap.size, 9, none⟩ = some (.slice (some ⟨gi, 0, none⟩) l.length ci) ∧ w'.cell? ⟨gi, k * 4 + 2, none⟩ = some (.int .i64 x3) ∧ w'.cell? ⟨gi, k * 4 + 3, none⟩ = some (.int .i64 x4)) (first | exact SDh.out | go_keep)
        (first | (go_at_call 47; (try rw [mw]); refine (c1 _).mono ?_; rintro e w7 ⟨rfl, rfl⟩))
      replace B1 := Lib.hid B1.out.drew
      replace O1 := Lib.hid (O1.out.keep (w' := w1.drew) rfl)
      replace X1 := Lib.hid X1.out.drew
      have zd : w1.heap.size ≤ w1.drew.heap.size := Nat.le_refl _
      replace e1 : w1.drew.cell? ⟨gi, k * 4 + 1, none⟩ = some (.int .i64 x2) := e1
      replace e3 : w1.drew.cell? ⟨gi, k * 4 + 3, none⟩ = some (.int .i64 x4) := e3
      clear SDh e0 e2 r t1 c1 mw
      clear a9
      generalize w1.drew = w1d at B1 O1 X1 zd e1 e3 ⊢
      clear e1 e3
      have x0 : w1d.cell? ⟨w.heap.size + 1, 0, none⟩ = some (.int .i64 0) := X1.out.cell 0 (by decide)
      have x1 : w1d.cell? ⟨w.heap.size + 1, 1, none⟩ = some (.int .i64 0) := X1.out.cell 1 (by decide)
      have x2 : w1d.cell? ⟨w.heap.size + 1, 2, none⟩ = some (.int .i64 0) := X1.out.cell 2 (by decide)
      have x3 : w1d.cell? ⟨w.heap.size + 1, 3, none⟩ = some (.int .i64 0) := X1.out.cell 3 (by decide)
      have x4 : w1d.cell? ⟨w.heap.size + 1, 4, none⟩ = some (.int .i64 0) := X1.out.cell 4 (by decide)
      have x5 : w1d.cell? ⟨w.heap.size + 1, 5, none⟩ = some (.int .i64 0) := X1.out.cell 5 (by decide)
      have x6 : w1d.cell? ⟨w.heap.size + 1, 6, none⟩ = some (.int .i64 0) := X1.out.cell 6 (by decide)
      have x7 : w1d.cell? ⟨w.heap.size + 1, 7, none⟩ = some (.int .i64 0) := X1.out.cell 7 (by decide)
      have x8 : w1d.cell? ⟨w.heap.size + 1, 8, none⟩ = some (.int .i64 0) := X1.out.cell 8 (by decide)
      have x9 : w1d.cell? ⟨w.heap.size + 1, 9, none⟩ = some (.slice none 0 0) := X1.out.cell 9 (by decide)
      have x10 : w1d.cell? ⟨w.heap.size + 1, 10, none⟩ = some (.slice none 0 0) := X1.out.cell 10 (by decide)
      have x11 : w1d.cell? ⟨w.heap.size + 1, 11, none⟩ = some (.int .i64 0) := X1.out.cell 11 (by decide)
      have x12 : w1d.cell? ⟨w.heap.size + 1, 12, none⟩ = some (.int .i64 0) := X1.out.cell 12 (by decide)
      have f0 := X1.out.free 0
      have f1 := X1.out.free 1
      have f2 := X1.out.free 2
      have f3 := X1.out.free 3
      have f4 := X1.out.free 4
      have f5 := X1.out.free 5
      have f6 := X1.out.free 6
      have f7 := X1.out.free 7
      have f8 := X1.out.free 8
      have f9 := X1.out.free 9
      have f10 := X1.out.free 10
      have f11 := X1.out.free 11
      have f12 := X1.out.free 12
      have Y := Lib.hid (((((((((((((X1.out.set (k := 0) (by decide) (.int .i64 0)).set (k := 1) (by decide) (.int .i64 0)).set (k := 2) (by decide) (.int .i64 0)).set (k := 3) (by decide) (.int .i64 0)).set (k := 4) (by decide) (.int .i64 0)).set (k := 5) (by decide) (.int .i64 0)).set (k := 6) (by decide) (.int .i64 0)).set (k := 7) (by decide) (.int .i64 0)).set (k := 8) (by decide) (.int .i64 0)).set (k := 9) (by decide) (.slice none 0 0)).set (k := 10) (by decide) (.slice none 0 0)).set (k := 11) (by decide) (.int .i64 0)).set (k := 12) (by decide) (.int .i64 0))
      have BF := Lib.hid (show Below w.heap.size w (((((((((((((w1d.setCell ⟨w.heap.size + 1, 0, none⟩ (.int .i64 0)).setCell ⟨w.heap.size + 1, 1, none⟩ (.int .i64 0)).setCell ⟨w.heap.size + 1, 2, none⟩ (.int .i64 0)).setCell ⟨w.heap.size + 1, 3, none⟩ (.int .i64 0)).setCell ⟨w.heap.size + 1, 4, none⟩ (.int .i64 0)).setCell ⟨w.heap.size + 1, 5, none⟩ (.int .i64 0)).setCell ⟨w.heap.size + 1, 6, none⟩ (.int .i64 0)).setCell ⟨w.heap.size + 1, 7, none⟩ (.int .i64 0)).setCell ⟨w.heap.size + 1, 8, none⟩ (.int .i64 0)).setCell ⟨w.heap.size + 1, 9, none⟩ (.slice none 0 0)).setCell ⟨w.heap.size + 1, 10, none⟩ (.slice none 0 0)).setCell ⟨w.heap.size + 1, 11, none⟩ (.int .i64 0)).setCell ⟨w.heap.size + 1, 12, none⟩ (.int .i64 0)) from (((((((((((((B1.out.setCell (p := ⟨w.heap.size + 1, 0, none⟩) (show w.heap.size ≤ w.heap.size + 1 by omega) (.int .i64 0)).setCell (p := ⟨w.heap.size + 1, 1, none⟩) (show w.heap.size ≤ w.heap.size + 1 by omega) (.int .i64 0)).setCell (p := ⟨w.heap.size + 1, 2, none⟩) (show w.heap.size ≤ w.heap.size + 1 by omega) (.int .i64 0)).setCell (p := ⟨w.heap.size + 1, 3, none⟩) (show w.heap.size ≤ w.heap.size + 1 by omega) (.int .i64 0)).setCell (p := ⟨w.heap.size + 1, 4, none⟩) (show w.heap.size ≤ w.heap.size + 1 by omega) (.int .i64 0)).setCell (p := ⟨w.heap.size + 1, 5, none⟩) (show w.heap.size ≤ w.heap.size + 1 by omega) (.int .i64 0)).setCell (p := ⟨w.heap.size + 1, 6, none⟩) (show w.heap.size ≤ w.heap.size + 1 by omega) (.int .i64 0)).setCell (p := ⟨w.heap.size + 1, 7, none⟩) (show w.heap.size ≤ w.heap.size + 1 by omega) (.int .i64 0)).setCell (p := ⟨w.heap.size + 1, 8, none⟩) (show w.heap.size ≤ w.heap.size + 1 by omega) (.int .i64 0)).setCell (p := ⟨w.heap.size + 1, 9, none⟩) (show w.heap.size ≤ w.heap.size + 1 by omega) (.slice none 0 0)).setCell (p := ⟨w.heap.size + 1, 10, none⟩) (show w.heap.size ≤ w.heap.size + 1 by omega) (.slice none 0 0)).setCell (p := ⟨w.heap.size + 1, 11, none⟩) (show w.heap.size ≤ w.heap.size + 1 by omega) (.int .i64 0)).setCell (p := ⟨w.heap.size + 1, 12, none⟩) (show w.heap.size ≤ w.heap.size + 1 by omega) (.int .i64 0)))
      go_wp2
      change bodyPost _ _ _ _ _ (((((((((((((w1d.setCell ⟨w.heap.size + 1, 0, none⟩ (.int .i64 0)).setCell ⟨w.heap.size + 1, 1, none⟩ (.int .i64 0)).setCell ⟨w.heap.size + 1, 2, none⟩ (.int .i64 0)).setCell ⟨w.heap.size + 1, 3, none⟩ (.int .i64 0)).setCell ⟨w.heap.size + 1, 4, none⟩ (.int .i64 0)).setCell ⟨w.heap.size + 1, 5, none⟩ (.int .i64 0)).setCell ⟨w.heap.size + 1, 6, none⟩ (.int .i64 0)).setCell ⟨w.heap.size + 1, 7, none⟩ (.int .i64 0)).setCell ⟨w.heap.size + 1, 8, none⟩ (.int .i64 0)).setCell ⟨w.heap.size + 1, 9, none⟩ (.slice none 0 0)).setCell ⟨w.heap.size + 1, 10, none⟩ (.slice none 0 0)).setCell ⟨w.heap.size + 1, 11, none⟩ (.int .i64 0)).setCell ⟨w.heap.size + 1, 12, none⟩ (.int .i64 0))
      generalize ((((((((((((w1d.setCell ⟨w.heap.size + 1, 0, none⟩ (.int .i64 0)).setCell ⟨w.heap.size + 1, 1, none⟩ (.int .i64 0)).setCell ⟨w.heap.size + 1, 2, none⟩ (.int .i64 0)).setCell ⟨w.heap.size + 1, 3, none⟩ (.int .i64 0)).setCell ⟨w.heap.size + 1, 4, none⟩ (.int .i64 0)).setCell ⟨w.heap.size + 1, 5, none⟩ (.int .i64 0)).setCell ⟨w.heap.size + 1, 6, none⟩ (.int .i64 0)).setCell ⟨w.heap.size + 1, 7, none⟩ (.int .i64 0)).setCell ⟨w.heap.size + 1, 8, none⟩ (.int .i64 0)).setCell ⟨w.heap.size + 1, 9, none⟩ (.slice none 0 0)).setCell ⟨w.heap.size + 1, 10, none⟩ (.slice none 0 0)).setCell ⟨w.heap.size + 1, 11, none⟩ (.int .i64 0)).setCell ⟨w.heap.size + 1, 12, none⟩ (.int .i64 0) = W9 at Y BF ⊢
      have y0 : W9.cell? ⟨w.heap.size + 1, 0, none⟩ = some (.int .i64 0) := Y.out.cell 0 (by decide)
      have y1 : W9.cell? ⟨w.heap.size + 1, 1, none⟩ = some (.int .i64 0) := Y.out.cell 1 (by decide)
      have y2 : W9.cell? ⟨w.heap.size + 1, 2, none⟩ = some (.int .i64 0) := Y.out.cell 2 (by decide)
      have y3 : W9.cell? ⟨w.heap.size + 1, 3, none⟩ = some (.int .i64 0) := Y.out.cell 3 (by decide)
      have y4 : W9.cell? ⟨w.heap.size + 1, 4, none⟩ = some (.int .i64 0) := Y.out.cell 4 (by decide)
      have y5 : W9.cell? ⟨w.heap.size + 1, 5, none⟩ = some (.int .i64 0) := Y.out.cell 5 (by decide)
      have y6 : W9.cell? ⟨w.heap.size + 1, 6, none⟩ = some (.int .i64 0) := Y.out.cell 6 (by decide)
      have y7 : W9.cell? ⟨w.heap.size + 1, 7, none⟩ = some (.int .i64 0) := Y.out.cell 7 (by decide)
      have y8 : W9.cell? ⟨w.heap.size + 1, 8, none⟩ = some (.int .i64 0) := Y.out.cell 8 (by decide)
      have y9 : W9.cell? ⟨w.heap.size + 1, 9, none⟩ = some (.slice none 0 0) := Y.out.cell 9 (by decide)
      have y10 : W9.cell? ⟨w.heap.size + 1, 10, none⟩ = some (.slice none 0 0) := Y.out.cell 10 (by decide)
      have y11 : W9.cell? ⟨w.heap.size + 1, 11, none⟩ = some (.int .i64 0) := Y.out.cell 11 (by decide)
      have y12 : W9.cell? ⟨w.heap.size + 1, 12, none⟩ = some (.int .i64 0) := Y.out.cell 12 (by decide)
      exact bodyPost_ret (v := .tuple #[.agg #[.int .i64 0, .int .i64 0, .int .i64 0, .int .i64 0, .int .i64 0, .int .i64 0, .int .i64 0, .int .i64 0, .int .i64 0, .slice none 0 0, .slice none 0 0, .int .i64 0, .int .i64 0], .int .i64 0, .int .i64 0, .int .i64 3]) (by simp [results, Try.results36, go_sem, y0, y1, y2, y3, y4, y5, y6, y7, y8, y9, y10, y11, y12]) rfl ⟨_, rfl, res_no BF.out⟩
    · have hv : ord.Iin (x1, x2, x3, x4) := by rw [← hx]; exact ord.iok_iff.1 (IVh.out k hkl)
      obtain ⟨V, hV⟩ : ∃ V, V = x2 * q := ⟨_, rfl⟩
      rw [← hV] at hP
      have VB := mul_in hv.p0 hv.p1 q1 (show q ≤ 1000 by have h1 := hv.q1; have h2 := hv.s1; have h3 := hv.r0; dsimp only at h1 h2 h3; omega)
      rw [← hV] at VB
      obtain ⟨V0, V1⟩ := VB
      have m0 : IntKind.i64.wrap (q * x2) = V := by rw [Int.mul_comm, ← hV, IntKind.wrap_i64]; omega
      clear hV
      go_enter Try.func36, Try.ntmps36
      go_wp2_with fail
      generalize (w.alloc (.cells #[.int .i64 s.id, .int .i64 s.co, .int .i64 s.me, .int .i64 s.cu, .int .i64 s.da, .int .i64 s.nn, .int .i64 s.ra, .int .i64 s.nu, .int .i64 s.de, .slice (some ⟨gi, 0, none⟩) l.length ci, .slice (some ⟨gp, 0, none⟩) p.length cp, .int .i64 s.op, .int .i64 s.up] 31)).alloc (.cells #[.int .i64 0, .int .i64 0, .int .i64 0, .int .i64 0, .int .i64 0, .int .i64 0, .int .i64 0, .int .i64 0, .int .i64 0, .slice none 0 0, .slice none 0 0, .int .i64 0, .int .i64 0] 31) = W2 at B0 O0 X0 z0 CK ⊢
      refine CK.mono ?_
      rintro e w1 ⟨rfl, b1⟩
      have B1 := Lib.hid (B0.out.trans (b1.mono B0.out.size))
      have O1 := Lib.hid (O0.out.keep (b1.block w.heap.size (by omega)))
      have X1 := Lib.hid (X0.out.below b1 X0.out.lt)
      have z1 := b1.size
      clear b1 O0 X0 B0
      have c0 := fun W => base.inB (k : Int) 0 ((l.length : Int) - 1) W
      have t0 : inR (k : Int) 0 ((l.length : Int) - 1) = true := pl.inR_iff.2 (by omega)
      rw [t0] at c0
      have a9 := O1.out.c9
      have zl : (l.length : Int) ≤ 8 := by omega
      go_wp2_with fail
      refine (c0 _).mono ?_
      rintro e w' ⟨rfl, rfl⟩
      clear t0 c0
      have r := (L.out.below B1.out).items
      have gil := r.lt (Nat.lt_of_le_of_lt (Nat.zero_le _) hkl)
      have A := r.cells k hkl
      rw [hx] at A
      obtain ⟨e0, e1, e2, e3⟩ := A
      dsimp only at e0 e1 e2 e3
      obtain ⟨v1, v2, v3, v4, v5, v6, v7, v8⟩ := hv
      dsimp only at v1 v2 v3 v4 v5 v6 v7 v8
      have z0 : (0 : Int) ≤ (k : Int) := by omega
      have z1 : (k : Int) < (l.length : Int) := by omega
      have t1 : inR q 1 (x3 - x4) = true := pl.inR_iff.2 ⟨q1, q2⟩
      have c1 := fun W => base.inB q 1 (x3 - x4) W
      rw [t1] at c1
      have mw : IntKind.i64.wrap (x3 - x4) = x3 - x4 := by rw [IntKind.wrap_i64]; omega
      go_wp2_with fail
      have SD : w1.drew.cell? ⟨w.heap.size, 9, none⟩ = some (.slice (some ⟨gi, 0, none⟩) l.length ci) ∧ w1.drew.cell? ⟨gi, k * 4 + 2, none⟩ = some (.int .i64 x3) ∧ w1.drew.cell? ⟨gi, k * 4 + 3, none⟩ = some (.int .i64 x4) := ⟨a9, e2, e3⟩
      have SDh := Lib.hid SD
      clear SD
      go_region_held3 (fun w' => w'.cell? ⟨w.heap.size, 9, none⟩ = some (.slice (some ⟨gi, 0, none⟩) l.length ci) ∧ w'.cell? ⟨gi, k * 4 + 2, none⟩ = some (.int .i64 x3) ∧ w'.cell? ⟨gi, k * 4 + 3, none⟩ = some (.int .i64 x4)) (first | exact SDh.out | go_keep)
        (first | (go_at_call 47; (try rw [mw]); refine (c1 _).mono ?_; rintro e w7 ⟨rfl, rfl⟩))
      replace B1 := Lib.hid B1.out.drew
      replace O1 := Lib.hid (O1.out.keep (w' := w1.drew) rfl)
      replace X1 := Lib.hid X1.out.drew
      have zd : w1.heap.size ≤ w1.drew.heap.size := Nat.le_refl _
      replace e1 : w1.drew.cell? ⟨gi, k * 4 + 1, none⟩ = some (.int .i64 x2) := e1
      replace e3 : w1.drew.cell? ⟨gi, k * 4 + 3, none⟩ = some (.int .i64 x4) := e3
      clear SDh e0 e2 r t1 c1 mw
      clear a9
      generalize w1.drew = w1d at B1 O1 X1 zd e1 e3 ⊢
      have SU := sumsS w1d _ cp gp p gs cs (L.out.below B1.out).plans p8 HM.out
      obtain ⟨Q, hQ⟩ : ∃ Q, Q = ord.ps p p.length := ⟨_, rfl⟩
      rw [← hQ] at SU hP
      have HQ := Lib.hid hQ
      clear hQ
      obtain ⟨Q0, Q1, Q2, Q3, Q4, Q5, Q6⟩ := Q
      dsimp only at SU hP
      have fF : ∀ w0, (Instr.field 37 (.agg #[.int .i64 Q0, .int .i64 Q1, .int .i64 Q2, .int .i64 Q3, .int .i64 Q4, .int .i64 Q5, .int .i64 Q6]) 1).run Try.prog w0 = .ok (.int .i64 Q1) w0 := fun _ => rfl
      have a10 := O1.out.c10
      have a9 := O1.out.c9
      go_wp2_with fail
      refine SU.mono ?_
      rintro e w1s ⟨rfl, bs⟩
      have B2 := Lib.hid (B1.out.trans (bs.mono B1.out.size))
      have O2 := Lib.hid (O1.out.keep (bs.block w.heap.size (by omega)))
      have X2 := Lib.hid (X1.out.below bs X1.out.lt)
      have z2 := bs.size
      clear a9 a10 bs O1 X1 B1 SU
      have d3 : decide (Q1 < V) = true := by simp; omega
      clear e1 e3
      have x0 : w1s.cell? ⟨w.heap.size + 1, 0, none⟩ = some (.int .i64 0) := X2.out.cell 0 (by decide)
      have x1 : w1s.cell? ⟨w.heap.size + 1, 1, none⟩ = some (.int .i64 0) := X2.out.cell 1 (by decide)
      have x2 : w1s.cell? ⟨w.heap.size + 1, 2, none⟩ = some (.int .i64 0) := X2.out.cell 2 (by decide)
      have x3 : w1s.cell? ⟨w.heap.size + 1, 3, none⟩ = some (.int .i64 0) := X2.out.cell 3 (by decide)
      have x4 : w1s.cell? ⟨w.heap.size + 1, 4, none⟩ = some (.int .i64 0) := X2.out.cell 4 (by decide)
      have x5 : w1s.cell? ⟨w.heap.size + 1, 5, none⟩ = some (.int .i64 0) := X2.out.cell 5 (by decide)
      have x6 : w1s.cell? ⟨w.heap.size + 1, 6, none⟩ = some (.int .i64 0) := X2.out.cell 6 (by decide)
      have x7 : w1s.cell? ⟨w.heap.size + 1, 7, none⟩ = some (.int .i64 0) := X2.out.cell 7 (by decide)
      have x8 : w1s.cell? ⟨w.heap.size + 1, 8, none⟩ = some (.int .i64 0) := X2.out.cell 8 (by decide)
      have x9 : w1s.cell? ⟨w.heap.size + 1, 9, none⟩ = some (.slice none 0 0) := X2.out.cell 9 (by decide)
      have x10 : w1s.cell? ⟨w.heap.size + 1, 10, none⟩ = some (.slice none 0 0) := X2.out.cell 10 (by decide)
      have x11 : w1s.cell? ⟨w.heap.size + 1, 11, none⟩ = some (.int .i64 0) := X2.out.cell 11 (by decide)
      have x12 : w1s.cell? ⟨w.heap.size + 1, 12, none⟩ = some (.int .i64 0) := X2.out.cell 12 (by decide)
      have f0 := X2.out.free 0
      have f1 := X2.out.free 1
      have f2 := X2.out.free 2
      have f3 := X2.out.free 3
      have f4 := X2.out.free 4
      have f5 := X2.out.free 5
      have f6 := X2.out.free 6
      have f7 := X2.out.free 7
      have f8 := X2.out.free 8
      have f9 := X2.out.free 9
      have f10 := X2.out.free 10
      have f11 := X2.out.free 11
      have f12 := X2.out.free 12
      have Y := Lib.hid (((((((((((((X2.out.set (k := 0) (by decide) (.int .i64 0)).set (k := 1) (by decide) (.int .i64 0)).set (k := 2) (by decide) (.int .i64 0)).set (k := 3) (by decide) (.int .i64 0)).set (k := 4) (by decide) (.int .i64 0)).set (k := 5) (by decide) (.int .i64 0)).set (k := 6) (by decide) (.int .i64 0)).set (k := 7) (by decide) (.int .i64 0)).set (k := 8) (by decide) (.int .i64 0)).set (k := 9) (by decide) (.slice none 0 0)).set (k := 10) (by decide) (.slice none 0 0)).set (k := 11) (by decide) (.int .i64 0)).set (k := 12) (by decide) (.int .i64 0))
      have BF := Lib.hid (show Below w.heap.size w (((((((((((((w1s.setCell ⟨w.heap.size + 1, 0, none⟩ (.int .i64 0)).setCell ⟨w.heap.size + 1, 1, none⟩ (.int .i64 0)).setCell ⟨w.heap.size + 1, 2, none⟩ (.int .i64 0)).setCell ⟨w.heap.size + 1, 3, none⟩ (.int .i64 0)).setCell ⟨w.heap.size + 1, 4, none⟩ (.int .i64 0)).setCell ⟨w.heap.size + 1, 5, none⟩ (.int .i64 0)).setCell ⟨w.heap.size + 1, 6, none⟩ (.int .i64 0)).setCell ⟨w.heap.size + 1, 7, none⟩ (.int .i64 0)).setCell ⟨w.heap.size + 1, 8, none⟩ (.int .i64 0)).setCell ⟨w.heap.size + 1, 9, none⟩ (.slice none 0 0)).setCell ⟨w.heap.size + 1, 10, none⟩ (.slice none 0 0)).setCell ⟨w.heap.size + 1, 11, none⟩ (.int .i64 0)).setCell ⟨w.heap.size + 1, 12, none⟩ (.int .i64 0)) from (((((((((((((B2.out.setCell (p := ⟨w.heap.size + 1, 0, none⟩) (show w.heap.size ≤ w.heap.size + 1 by omega) (.int .i64 0)).setCell (p := ⟨w.heap.size + 1, 1, none⟩) (show w.heap.size ≤ w.heap.size + 1 by omega) (.int .i64 0)).setCell (p := ⟨w.heap.size + 1, 2, none⟩) (show w.heap.size ≤ w.heap.size + 1 by omega) (.int .i64 0)).setCell (p := ⟨w.heap.size + 1, 3, none⟩) (show w.heap.size ≤ w.heap.size + 1 by omega) (.int .i64 0)).setCell (p := ⟨w.heap.size + 1, 4, none⟩) (show w.heap.size ≤ w.heap.size + 1 by omega) (.int .i64 0)).setCell (p := ⟨w.heap.size + 1, 5, none⟩) (show w.heap.size ≤ w.heap.size + 1 by omega) (.int .i64 0)).setCell (p := ⟨w.heap.size + 1, 6, none⟩) (show w.heap.size ≤ w.heap.size + 1 by omega) (.int .i64 0)).setCell (p := ⟨w.heap.size + 1, 7, none⟩) (show w.heap.size ≤ w.heap.size + 1 by omega) (.int .i64 0)).setCell (p := ⟨w.heap.size + 1, 8, none⟩) (show w.heap.size ≤ w.heap.size + 1 by omega) (.int .i64 0)).setCell (p := ⟨w.heap.size + 1, 9, none⟩) (show w.heap.size ≤ w.heap.size + 1 by omega) (.slice none 0 0)).setCell (p := ⟨w.heap.size + 1, 10, none⟩) (show w.heap.size ≤ w.heap.size + 1 by omega) (.slice none 0 0)).setCell (p := ⟨w.heap.size + 1, 11, none⟩) (show w.heap.size ≤ w.heap.size + 1 by omega) (.int .i64 0)).setCell (p := ⟨w.heap.size + 1, 12, none⟩) (show w.heap.size ≤ w.heap.size + 1 by omega) (.int .i64 0)))
      go_wp2
      change bodyPost _ _ _ _ _ (((((((((((((w1s.setCell ⟨w.heap.size + 1, 0, none⟩ (.int .i64 0)).setCell ⟨w.heap.size + 1, 1, none⟩ (.int .i64 0)).setCell ⟨w.heap.size + 1, 2, none⟩ (.int .i64 0)).setCell ⟨w.heap.size + 1, 3, none⟩ (.int .i64 0)).setCell ⟨w.heap.size + 1, 4, none⟩ (.int .i64 0)).setCell ⟨w.heap.size + 1, 5, none⟩ (.int .i64 0)).setCell ⟨w.heap.size + 1, 6, none⟩ (.int .i64 0)).setCell ⟨w.heap.size + 1, 7, none⟩ (.int .i64 0)).setCell ⟨w.heap.size + 1, 8, none⟩ (.int .i64 0)).setCell ⟨w.heap.size + 1, 9, none⟩ (.slice none 0 0)).setCell ⟨w.heap.size + 1, 10, none⟩ (.slice none 0 0)).setCell ⟨w.heap.size + 1, 11, none⟩ (.int .i64 0)).setCell ⟨w.heap.size + 1, 12, none⟩ (.int .i64 0))
      generalize ((((((((((((w1s.setCell ⟨w.heap.size + 1, 0, none⟩ (.int .i64 0)).setCell ⟨w.heap.size + 1, 1, none⟩ (.int .i64 0)).setCell ⟨w.heap.size + 1, 2, none⟩ (.int .i64 0)).setCell ⟨w.heap.size + 1, 3, none⟩ (.int .i64 0)).setCell ⟨w.heap.size + 1, 4, none⟩ (.int .i64 0)).setCell ⟨w.heap.size + 1, 5, none⟩ (.int .i64 0)).setCell ⟨w.heap.size + 1, 6, none⟩ (.int .i64 0)).setCell ⟨w.heap.size + 1, 7, none⟩ (.int .i64 0)).setCell ⟨w.heap.size + 1, 8, none⟩ (.int .i64 0)).setCell ⟨w.heap.size + 1, 9, none⟩ (.slice none 0 0)).setCell ⟨w.heap.size + 1, 10, none⟩ (.slice none 0 0)).setCell ⟨w.heap.size + 1, 11, none⟩ (.int .i64 0)).setCell ⟨w.heap.size + 1, 12, none⟩ (.int .i64 0) = W9 at Y BF ⊢
      have y0 : W9.cell? ⟨w.heap.size + 1, 0, none⟩ = some (.int .i64 0) := Y.out.cell 0 (by decide)
      have y1 : W9.cell? ⟨w.heap.size + 1, 1, none⟩ = some (.int .i64 0) := Y.out.cell 1 (by decide)
      have y2 : W9.cell? ⟨w.heap.size + 1, 2, none⟩ = some (.int .i64 0) := Y.out.cell 2 (by decide)
      have y3 : W9.cell? ⟨w.heap.size + 1, 3, none⟩ = some (.int .i64 0) := Y.out.cell 3 (by decide)
      have y4 : W9.cell? ⟨w.heap.size + 1, 4, none⟩ = some (.int .i64 0) := Y.out.cell 4 (by decide)
      have y5 : W9.cell? ⟨w.heap.size + 1, 5, none⟩ = some (.int .i64 0) := Y.out.cell 5 (by decide)
      have y6 : W9.cell? ⟨w.heap.size + 1, 6, none⟩ = some (.int .i64 0) := Y.out.cell 6 (by decide)
      have y7 : W9.cell? ⟨w.heap.size + 1, 7, none⟩ = some (.int .i64 0) := Y.out.cell 7 (by decide)
      have y8 : W9.cell? ⟨w.heap.size + 1, 8, none⟩ = some (.int .i64 0) := Y.out.cell 8 (by decide)
      have y9 : W9.cell? ⟨w.heap.size + 1, 9, none⟩ = some (.slice none 0 0) := Y.out.cell 9 (by decide)
      have y10 : W9.cell? ⟨w.heap.size + 1, 10, none⟩ = some (.slice none 0 0) := Y.out.cell 10 (by decide)
      have y11 : W9.cell? ⟨w.heap.size + 1, 11, none⟩ = some (.int .i64 0) := Y.out.cell 11 (by decide)
      have y12 : W9.cell? ⟨w.heap.size + 1, 12, none⟩ = some (.int .i64 0) := Y.out.cell 12 (by decide)
      exact bodyPost_ret (v := .tuple #[.agg #[.int .i64 0, .int .i64 0, .int .i64 0, .int .i64 0, .int .i64 0, .int .i64 0, .int .i64 0, .int .i64 0, .int .i64 0, .slice none 0 0, .slice none 0 0, .int .i64 0, .int .i64 0], .int .i64 0, .int .i64 0, .int .i64 5]) (by simp [results, Try.results36, go_sem, y0, y1, y2, y3, y4, y5, y6, y7, y8, y9, y10, y11, y12]) rfl ⟨_, rfl, res_no BF.out⟩
  · rw [hk] at CK
    have OKV := ord.ok_iff.1 hk
    have p8 := OKV.p1
    have i8 := OKV.i1
    have IVh := Lib.hid OKV.iv
    have PVh := Lib.hid OKV.pv
    clear OKV hk
    have hv : ord.Iin (x1, x2, x3, x4) := by rw [← hx]; exact ord.iok_iff.1 (IVh.out k hkl)
    rw [hV] at hP hN
    have VB := mul_in hv.p0 hv.p1 q1 (show q ≤ 1000 by have h1 := hv.q1; have h2 := hv.s1; have h3 := hv.r0; dsimp only at h1 h2 h3; omega)
    rw [hV] at VB
    rw [hV]
    obtain ⟨V0, V1⟩ := VB
    have m0 : IntKind.i64.wrap (q * x2) = S0 := by rw [Int.mul_comm, hV, IntKind.wrap_i64]; omega
    have HN := Lib.hid hN
    clear hV hN
    go_enter Try.func36, Try.ntmps36
    go_wp2_with fail
    generalize (w.alloc (.cells #[.int .i64 s.id, .int .i64 s.co, .int .i64 s.me, .int .i64 s.cu, .int .i64 s.da, .int .i64 s.nn, .int .i64 s.ra, .int .i64 s.nu, .int .i64 s.de, .slice (some ⟨gi, 0, none⟩) l.length ci, .slice (some ⟨gp, 0, none⟩) p.length cp, .int .i64 s.op, .int .i64 s.up] 31)).alloc (.cells #[.int .i64 0, .int .i64 0, .int .i64 0, .int .i64 0, .int .i64 0, .int .i64 0, .int .i64 0, .int .i64 0, .int .i64 0, .slice none 0 0, .slice none 0 0, .int .i64 0, .int .i64 0] 31) = W2 at B0 O0 X0 z0 CK ⊢
    refine CK.mono ?_
    rintro e w1 ⟨rfl, b1⟩
    have B1 := Lib.hid (B0.out.trans (b1.mono B0.out.size))
    have O1 := Lib.hid (O0.out.keep (b1.block w.heap.size (by omega)))
    have X1 := Lib.hid (X0.out.below b1 X0.out.lt)
    have z1 := b1.size
    clear b1 O0 X0 B0
    have c0 := fun W => base.inB (k : Int) 0 ((l.length : Int) - 1) W
    have t0 : inR (k : Int) 0 ((l.length : Int) - 1) = true := pl.inR_iff.2 (by omega)
    rw [t0] at c0
    have a9 := O1.out.c9
    have zl : (l.length : Int) ≤ 8 := by omega
    go_wp2_with fail
    refine (c0 _).mono ?_
    rintro e w' ⟨rfl, rfl⟩
    clear t0 c0
    have r := (L.out.below B1.out).items
    have gil := r.lt (Nat.lt_of_le_of_lt (Nat.zero_le _) hkl)
    have A := r.cells k hkl
    rw [hx] at A
    obtain ⟨e0, e1, e2, e3⟩ := A
    dsimp only at e0 e1 e2 e3
    obtain ⟨v1, v2, v3, v4, v5, v6, v7, v8⟩ := hv
    dsimp only at v1 v2 v3 v4 v5 v6 v7 v8
    have z0 : (0 : Int) ≤ (k : Int) := by omega
    have z1 : (k : Int) < (l.length : Int) := by omega
    have t1 : inR q 1 (x3 - x4) = true := pl.inR_iff.2 ⟨q1, q2⟩
    have c1 := fun W => base.inB q 1 (x3 - x4) W
    rw [t1] at c1
    have mw : IntKind.i64.wrap (x3 - x4) = x3 - x4 := by rw [IntKind.wrap_i64]; omega
    go_wp2_with fail
    have SD : w1.drew.cell? ⟨w.heap.size, 9, none⟩ = some (.slice (some ⟨gi, 0, none⟩) l.length ci) ∧ w1.drew.cell? ⟨gi, k * 4 + 2, none⟩ = some (.int .i64 x3) ∧ w1.drew.cell? ⟨gi, k * 4 + 3, none⟩ = some (.int .i64 x4) := ⟨a9, e2, e3⟩
    have SDh := Lib.hid SD
    clear SD
    go_region_held3 (fun w' => w'.cell? ⟨w.heap.size, 9, none⟩ = some (.slice (some ⟨gi, 0, none⟩) l.length ci) ∧ w'.cell? ⟨gi, k * 4 + 2, none⟩ = some (.int .i64 x3) ∧ w'.cell? ⟨gi, k * 4 + 3, none⟩ = some (.int .i64 x4)) (first | exact SDh.out | go_keep)
      (first | (go_at_call 47; (try rw [mw]); refine (c1 _).mono ?_; rintro e w7 ⟨rfl, rfl⟩))
    replace B1 := Lib.hid B1.out.drew
    replace O1 := Lib.hid (O1.out.keep (w' := w1.drew) rfl)
    replace X1 := Lib.hid X1.out.drew
    have zd : w1.heap.size ≤ w1.drew.heap.size := Nat.le_refl _
    replace e1 : w1.drew.cell? ⟨gi, k * 4 + 1, none⟩ = some (.int .i64 x2) := e1
    replace e3 : w1.drew.cell? ⟨gi, k * 4 + 3, none⟩ = some (.int .i64 x4) := e3
    clear SDh e0 e2 r t1 c1 mw
    clear a9
    generalize w1.drew = w1d at B1 O1 X1 zd e1 e3 ⊢
    have SU := sumsS w1d _ cp gp p gs cs (L.out.below B1.out).plans p8 HM.out
    obtain ⟨Q, hQ⟩ : ∃ Q, Q = ord.ps p p.length := ⟨_, rfl⟩
    rw [← hQ] at SU hP
    have HQ := Lib.hid hQ
    clear hQ
    obtain ⟨Q0, Q1, Q2, Q3, Q4, Q5, Q6⟩ := Q
    dsimp only at SU hP
    have fF : ∀ w0, (Instr.field 37 (.agg #[.int .i64 Q0, .int .i64 Q1, .int .i64 Q2, .int .i64 Q3, .int .i64 Q4, .int .i64 Q5, .int .i64 Q6]) 1).run Try.prog w0 = .ok (.int .i64 Q1) w0 := fun _ => rfl
    have a10 := O1.out.c10
    have a9 := O1.out.c9
    go_wp2_with fail
    refine SU.mono ?_
    rintro e w1s ⟨rfl, bs⟩
    have B2 := Lib.hid (B1.out.trans (bs.mono B1.out.size))
    have O2 := Lib.hid (O1.out.keep (bs.block w.heap.size (by omega)))
    have X2 := Lib.hid (X1.out.below bs X1.out.lt)
    have z2 := bs.size
    replace e3 := pls.cell_keep e3 (bs.block gi (pls.cell_lt e3))
    clear a9 a10 bs O1 X1 B1 SU
    have d3 : decide (Q1 < S0) = false := by simp; omega
    clear e1
    have CC := takS S0 w1s B s ci gi l cp gp p gs cs (L.out.below B2.out) hl hn (fun i hi => Nat.le_trans (show (nth p i).length ≤ 24 from (pl.pv_iff.1 (PVh.out i hi)).1) (by omega)) p8 PVh.out (by omega) (by omega)
    rw [HN.out] at CC
    obtain ⟨a0, a1, a2, a3, a4, a5, a6, a7, a8, a9, a10, a11, a12⟩ := O2.out
    go_wp2_with fail
    refine CC.mono ?_
    clear a0 a1 a2 a3 a4 a5 a6 a7 a8 a9 a10 a11 a12
    rintro e w2 ⟨v, rfl, ci', gi', cp', gp', gs2, cs2, rfl, ol, a1, a2, a3, a4, ne, b2⟩
    have PLEN := Lib.hid (tkL_len p S0)
    rw [PLEN.out]
    have B3 := Lib.hid ((B2.out.trans (b2.mono B2.out.size)).alloc (B2.out.trans (b2.mono B2.out.size)).size (.cells #[.int .i64 s.id, .int .i64 s.co, .int .i64 s.me, .int .i64 s.cu, .int .i64 s.da, .int .i64 s.nn, .int .i64 s.ra, .int .i64 s.nu, .int .i64 s.de, .slice (some ⟨gi', 0, none⟩) l.length ci', .slice (some ⟨gp', 0, none⟩) p.length cp', .int .i64 s.op, .int .i64 s.up] 31))
    have al := fun c hc => Below.heap_alloc w2 (.cells #[.int .i64 s.id, .int .i64 s.co, .int .i64 s.me, .int .i64 s.cu, .int .i64 s.da, .int .i64 s.nn, .int .i64 s.ra, .int .i64 s.nu, .int .i64 s.de, .slice (some ⟨gi', 0, none⟩) l.length ci', .slice (some ⟨gp', 0, none⟩) p.length cp', .int .i64 s.op, .int .i64 s.up] 31) c hc
    have N2 := Lib.hid (Blk.new w2 #[.int .i64 s.id, .int .i64 s.co, .int .i64 s.me, .int .i64 s.cu, .int .i64 s.da, .int .i64 s.nn, .int .i64 s.ra, .int .i64 s.nu, .int .i64 s.de, .slice (some ⟨gi', 0, none⟩) l.length ci', .slice (some ⟨gp', 0, none⟩) p.length cp', .int .i64 s.op, .int .i64 s.up] 31 13 rfl)
    have NO2 := Lib.hid (OB.new w2 s (some ⟨gi', 0, none⟩) l.length ci' (some ⟨gp', 0, none⟩) p.length cp' 31)
    have L2 := Lib.hid (ol.below ((Below.refl w2.heap.size w2).alloc (Nat.le_refl _) (.cells #[.int .i64 s.id, .int .i64 s.co, .int .i64 s.me, .int .i64 s.cu, .int .i64 s.da, .int .i64 s.nn, .int .i64 s.ra, .int .i64 s.nu, .int .i64 s.de, .slice (some ⟨gi', 0, none⟩) l.length ci', .slice (some ⟨gp', 0, none⟩) p.length cp', .int .i64 s.op, .int .i64 s.up] 31)))
    have X3 := Lib.hid ((X2.out.below b2 X2.out.lt).keep (w' := w2.alloc (.cells #[.int .i64 s.id, .int .i64 s.co, .int .i64 s.me, .int .i64 s.cu, .int .i64 s.da, .int .i64 s.nn, .int .i64 s.ra, .int .i64 s.nu, .int .i64 s.de, .slice (some ⟨gi', 0, none⟩) l.length ci', .slice (some ⟨gp', 0, none⟩) p.length cp', .int .i64 s.op, .int .i64 s.up] 31)) (al _ (X2.out.below b2 X2.out.lt).lt) (by simp))
    have z3 := b2.size
    have z3' : (w2.alloc (.cells #[.int .i64 s.id, .int .i64 s.co, .int .i64 s.me, .int .i64 s.cu, .int .i64 s.da, .int .i64 s.nn, .int .i64 s.ra, .int .i64 s.nu, .int .i64 s.de, .slice (some ⟨gi', 0, none⟩) l.length ci', .slice (some ⟨gp', 0, none⟩) p.length cp', .int .i64 s.op, .int .i64 s.up] 31)).heap.size = w2.heap.size + 1 := by simp only [sz_al]
    have DD := Lib.hid (show w.heap.size + 1 + 1 ≤ w1s.heap.size ∧ w1s.heap.size ≤ gi' ∧ gi' < w2.heap.size ∧ w1s.heap.size ≤ gp' ∧ gp' < w2.heap.size ∧ gi' ≠ gp' from ⟨by omega, a1, a2, a3, a4, ne⟩)
    have O5 := Lib.hid ((O2.out.keep (b2.block w.heap.size (by omega))).keep (w' := w2.alloc (.cells #[.int .i64 s.id, .int .i64 s.co, .int .i64 s.me, .int .i64 s.cu, .int .i64 s.da, .int .i64 s.nn, .int .i64 s.ra, .int .i64 s.nu, .int .i64 s.de, .slice (some ⟨gi', 0, none⟩) l.length ci', .slice (some ⟨gp', 0, none⟩) p.length cp', .int .i64 s.op, .int .i64 s.up] 31)) (al _ (by omega)))
    replace e3 := pls.cell_keep e3 (b2.block gi (pls.cell_lt e3))
    replace e3 := pls.cell_keep (w' := w2.alloc (.cells #[.int .i64 s.id, .int .i64 s.co, .int .i64 s.me, .int .i64 s.cu, .int .i64 s.da, .int .i64 s.nn, .int .i64 s.ra, .int .i64 s.nu, .int .i64 s.de, .slice (some ⟨gi', 0, none⟩) l.length ci', .slice (some ⟨gp', 0, none⟩) p.length cp', .int .i64 s.op, .int .i64 s.up] 31)) e3 (al _ (pls.cell_lt e3))
    clear b2 al ol a1 a2 a3 a4 ne CC O2 X2 B2 NO2
    obtain ⟨nb, hnb⟩ : ∃ nb, nb = w2.heap.size := ⟨_, rfl⟩
    have HNB := Lib.hid hnb
    have mix : Try.prog.follows .mixedOrders = true := Try.checked.mixed
    go_wp2_with fail
    rw [← hnb]
    rw [← hnb] at N2 z3'
    clear hnb
    generalize w2.alloc (.cells #[.int .i64 s.id, .int .i64 s.co, .int .i64 s.me, .int .i64 s.cu, .int .i64 s.da, .int .i64 s.nn, .int .i64 s.ra, .int .i64 s.nu, .int .i64 s.de, .slice (some ⟨gi', 0, none⟩) l.length ci', .slice (some ⟨gp', 0, none⟩) p.length cp', .int .i64 s.op, .int .i64 s.up] 31) = W3 at B3 N2 L2 X3 O5 e3 z3' ⊢
    have s9 : W3.cell? ⟨nb, 9, none⟩ = some (.slice (some ⟨gi', 0, none⟩) l.length ci') := N2.out.cell 9 (by decide)
    have o9 := O5.out.c9
    have hxs := L2.out.items.cells k hkl
    rw [hx] at hxs
    have j3 := hxs.c3
    have k3 := L2.out.items.free (Nat.lt_of_le_of_lt (Nat.zero_le _) hkl) (k * 4 + 3)
    dsimp only at j3
    have mw : IntKind.i64.wrap (x4 + q) = x4 + q := by rw [IntKind.wrap_i64]; omega
    have dk : decide (l.length ≤ k) = false := by simp; omega
    have LKH := Lib.hid (show k < l.length from hkl)
    have HXH := Lib.hid hx
    clear hxs hx IVh
    go_still_tail 13, mix
    go_upto_region 12 with (fail)
    have zq : (W3.setCell ⟨gi', k * 4 + 3, none⟩ (.int .i64 (x4 + q))).heap.size = W3.heap.size := by simp [World.setCell]
    have N6 := Lib.hid ((N2.out.keep (w' := W3.setCell ⟨gi', k * 4 + 3, none⟩ (.int .i64 (x4 + q))) (Below.heap_setCell _ _ _ _ (show nb ≠ gi' by have := DD.out; have := HNB.out; omega)) (Nat.le_of_eq zq.symm)).drew)
    have X6 := Lib.hid ((X3.out.keep (w' := W3.setCell ⟨gi', k * 4 + 3, none⟩ (.int .i64 (x4 + q))) (Below.heap_setCell _ _ _ _ (show w.heap.size + 1 ≠ gi' by have := DD.out; omega)) (Nat.le_of_eq zq.symm)).drew)
    have B6 := Lib.hid ((B3.out.setCell (p := ⟨gi', k * 4 + 3, none⟩) (show w.heap.size ≤ gi' by have := DD.out; omega) (.int .i64 (x4 + q))).drew)
    have R6 := Lib.hid (four.rowSet3 L2.out.items LKH.out HXH.out (x4 + q))
    have P6 := Lib.hid (L2.out.plans.keep (w' := W3.setCell ⟨gi', k * 4 + 3, none⟩ (.int .i64 (x4 + q))) (fun _ => Below.heap_setCell _ _ _ _ (show gp' ≠ gi' from Ne.symm DD.out.2.2.2.2.2)) (fun i hi => Below.heap_setCell _ _ _ _ (L2.out.is_ i hi (Nat.lt_of_le_of_lt (Nat.zero_le _) LKH.out))) (Nat.le_of_eq zq.symm))
    have L6 := Lib.hid (show OL (W3.setCell ⟨gi', k * 4 + 3, none⟩ (.int .i64 (x4 + q))).drew (w.heap.size + 1 + 1) (l.set k (x1, x2, x3, x4 + q)) (tkL p S0) (some ⟨gi', 0, none⟩) ci' gi' (some ⟨gp', 0, none⟩) cp' gp' gs2 cs2 from
      ⟨R6.out.keep fun _ => rfl, P6.out.keep (fun _ => rfl) (fun _ _ => rfl) (Nat.le_refl _), fun _ => by have := DD.out; omega, fun _ => by have := DD.out; omega, fun i hi => by have := L2.out.gs0 i hi; have := DD.out; omega, fun _ _ => DD.out.2.2.2.2.2, fun i hi _ => L2.out.is_ i hi (Nat.lt_of_le_of_lt (Nat.zero_le _) LKH.out)⟩)
    clear s9 o9 j3 k3 mw dk e3 O5 N2 X3 B3 R6 P6 L2 zq z3'
    generalize (W3.setCell ⟨gi', k * 4 + 3, none⟩ (.int .i64 (x4 + q))).drew = W6 at N6 X6 B6 L6 ⊢
    have x0_ : W6.cell? ⟨w.heap.size + 1, 0, none⟩ = some (.int .i64 0) := X6.out.cell 0 (by decide)
    have x1_ : W6.cell? ⟨w.heap.size + 1, 1, none⟩ = some (.int .i64 0) := X6.out.cell 1 (by decide)
    have x2_ : W6.cell? ⟨w.heap.size + 1, 2, none⟩ = some (.int .i64 0) := X6.out.cell 2 (by decide)
    have x3_ : W6.cell? ⟨w.heap.size + 1, 3, none⟩ = some (.int .i64 0) := X6.out.cell 3 (by decide)
    have x4_ : W6.cell? ⟨w.heap.size + 1, 4, none⟩ = some (.int .i64 0) := X6.out.cell 4 (by decide)
    have x5_ : W6.cell? ⟨w.heap.size + 1, 5, none⟩ = some (.int .i64 0) := X6.out.cell 5 (by decide)
    have x6_ : W6.cell? ⟨w.heap.size + 1, 6, none⟩ = some (.int .i64 0) := X6.out.cell 6 (by decide)
    have x7_ : W6.cell? ⟨w.heap.size + 1, 7, none⟩ = some (.int .i64 0) := X6.out.cell 7 (by decide)
    have x8_ : W6.cell? ⟨w.heap.size + 1, 8, none⟩ = some (.int .i64 0) := X6.out.cell 8 (by decide)
    have x9_ : W6.cell? ⟨w.heap.size + 1, 9, none⟩ = some (.slice none 0 0) := X6.out.cell 9 (by decide)
    have x10_ : W6.cell? ⟨w.heap.size + 1, 10, none⟩ = some (.slice none 0 0) := X6.out.cell 10 (by decide)
    have x11_ : W6.cell? ⟨w.heap.size + 1, 11, none⟩ = some (.int .i64 0) := X6.out.cell 11 (by decide)
    have x12_ : W6.cell? ⟨w.heap.size + 1, 12, none⟩ = some (.int .i64 0) := X6.out.cell 12 (by decide)
    have f0_ := X6.out.free 0
    have f1_ := X6.out.free 1
    have f2_ := X6.out.free 2
    have f3_ := X6.out.free 3
    have f4_ := X6.out.free 4
    have f5_ := X6.out.free 5
    have f6_ := X6.out.free 6
    have f7_ := X6.out.free 7
    have f8_ := X6.out.free 8
    have f9_ := X6.out.free 9
    have f10_ := X6.out.free 10
    have f11_ := X6.out.free 11
    have f12_ := X6.out.free 12
    have n0_ : W6.cell? ⟨nb, 0, none⟩ = some (.int .i64 s.id) := N6.out.cell 0 (by decide)
    have n1_ : W6.cell? ⟨nb, 1, none⟩ = some (.int .i64 s.co) := N6.out.cell 1 (by decide)
    have n2_ : W6.cell? ⟨nb, 2, none⟩ = some (.int .i64 s.me) := N6.out.cell 2 (by decide)
    have n3_ : W6.cell? ⟨nb, 3, none⟩ = some (.int .i64 s.cu) := N6.out.cell 3 (by decide)
    have n4_ : W6.cell? ⟨nb, 4, none⟩ = some (.int .i64 s.da) := N6.out.cell 4 (by decide)
    have n5_ : W6.cell? ⟨nb, 5, none⟩ = some (.int .i64 s.nn) := N6.out.cell 5 (by decide)
    have n6_ : W6.cell? ⟨nb, 6, none⟩ = some (.int .i64 s.ra) := N6.out.cell 6 (by decide)
    have n7_ : W6.cell? ⟨nb, 7, none⟩ = some (.int .i64 s.nu) := N6.out.cell 7 (by decide)
    have n8_ : W6.cell? ⟨nb, 8, none⟩ = some (.int .i64 s.de) := N6.out.cell 8 (by decide)
    have n9_ : W6.cell? ⟨nb, 9, none⟩ = some (.slice (some ⟨gi', 0, none⟩) l.length ci') := N6.out.cell 9 (by decide)
    have n10_ : W6.cell? ⟨nb, 10, none⟩ = some (.slice (some ⟨gp', 0, none⟩) p.length cp') := N6.out.cell 10 (by decide)
    have n11_ : W6.cell? ⟨nb, 11, none⟩ = some (.int .i64 s.op) := N6.out.cell 11 (by decide)
    have n12_ : W6.cell? ⟨nb, 12, none⟩ = some (.int .i64 s.up) := N6.out.cell 12 (by decide)
    have Y := Lib.hid (((((((((((((X6.out.set (k := 0) (by decide) (.int .i64 s.id)).set (k := 1) (by decide) (.int .i64 s.co)).set (k := 2) (by decide) (.int .i64 s.me)).set (k := 3) (by decide) (.int .i64 s.cu)).set (k := 4) (by decide) (.int .i64 s.da)).set (k := 5) (by decide) (.int .i64 s.nn)).set (k := 6) (by decide) (.int .i64 s.ra)).set (k := 7) (by decide) (.int .i64 s.nu)).set (k := 8) (by decide) (.int .i64 s.de)).set (k := 9) (by decide) (.slice (some ⟨gi', 0, none⟩) l.length ci')).set (k := 10) (by decide) (.slice (some ⟨gp', 0, none⟩) p.length cp')).set (k := 11) (by decide) (.int .i64 s.op)).set (k := 12) (by decide) (.int .i64 s.up))
    have BF := Lib.hid (show Below w.heap.size w (((((((((((((W6.setCell ⟨w.heap.size + 1, 0, none⟩ (.int .i64 s.id)).setCell ⟨w.heap.size + 1, 1, none⟩ (.int .i64 s.co)).setCell ⟨w.heap.size + 1, 2, none⟩ (.int .i64 s.me)).setCell ⟨w.heap.size + 1, 3, none⟩ (.int .i64 s.cu)).setCell ⟨w.heap.size + 1, 4, none⟩ (.int .i64 s.da)).setCell ⟨w.heap.size + 1, 5, none⟩ (.int .i64 s.nn)).setCell ⟨w.heap.size + 1, 6, none⟩ (.int .i64 s.ra)).setCell ⟨w.heap.size + 1, 7, none⟩ (.int .i64 s.nu)).setCell ⟨w.heap.size + 1, 8, none⟩ (.int .i64 s.de)).setCell ⟨w.heap.size + 1, 9, none⟩ (.slice (some ⟨gi', 0, none⟩) l.length ci')).setCell ⟨w.heap.size + 1, 10, none⟩ (.slice (some ⟨gp', 0, none⟩) p.length cp')).setCell ⟨w.heap.size + 1, 11, none⟩ (.int .i64 s.op)).setCell ⟨w.heap.size + 1, 12, none⟩ (.int .i64 s.up)) from (((((((((((((B6.out.setCell (p := ⟨w.heap.size + 1, 0, none⟩) (show w.heap.size ≤ w.heap.size + 1 by omega) (.int .i64 s.id)).setCell (p := ⟨w.heap.size + 1, 1, none⟩) (show w.heap.size ≤ w.heap.size + 1 by omega) (.int .i64 s.co)).setCell (p := ⟨w.heap.size + 1, 2, none⟩) (show w.heap.size ≤ w.heap.size + 1 by omega) (.int .i64 s.me)).setCell (p := ⟨w.heap.size + 1, 3, none⟩) (show w.heap.size ≤ w.heap.size + 1 by omega) (.int .i64 s.cu)).setCell (p := ⟨w.heap.size + 1, 4, none⟩) (show w.heap.size ≤ w.heap.size + 1 by omega) (.int .i64 s.da)).setCell (p := ⟨w.heap.size + 1, 5, none⟩) (show w.heap.size ≤ w.heap.size + 1 by omega) (.int .i64 s.nn)).setCell (p := ⟨w.heap.size + 1, 6, none⟩) (show w.heap.size ≤ w.heap.size + 1 by omega) (.int .i64 s.ra)).setCell (p := ⟨w.heap.size + 1, 7, none⟩) (show w.heap.size ≤ w.heap.size + 1 by omega) (.int .i64 s.nu)).setCell (p := ⟨w.heap.size + 1, 8, none⟩) (show w.heap.size ≤ w.heap.size + 1 by omega) (.int .i64 s.de)).setCell (p := ⟨w.heap.size + 1, 9, none⟩) (show w.heap.size ≤ w.heap.size + 1 by omega) (.slice (some ⟨gi', 0, none⟩) l.length ci')).setCell (p := ⟨w.heap.size + 1, 10, none⟩) (show w.heap.size ≤ w.heap.size + 1 by omega) (.slice (some ⟨gp', 0, none⟩) p.length cp')).setCell (p := ⟨w.heap.size + 1, 11, none⟩) (show w.heap.size ≤ w.heap.size + 1 by omega) (.int .i64 s.op)).setCell (p := ⟨w.heap.size + 1, 12, none⟩) (show w.heap.size ≤ w.heap.size + 1 by omega) (.int .i64 s.up)))
    have LF := Lib.hid (show OL (((((((((((((W6.setCell ⟨w.heap.size + 1, 0, none⟩ (.int .i64 s.id)).setCell ⟨w.heap.size + 1, 1, none⟩ (.int .i64 s.co)).setCell ⟨w.heap.size + 1, 2, none⟩ (.int .i64 s.me)).setCell ⟨w.heap.size + 1, 3, none⟩ (.int .i64 s.cu)).setCell ⟨w.heap.size + 1, 4, none⟩ (.int .i64 s.da)).setCell ⟨w.heap.size + 1, 5, none⟩ (.int .i64 s.nn)).setCell ⟨w.heap.size + 1, 6, none⟩ (.int .i64 s.ra)).setCell ⟨w.heap.size + 1, 7, none⟩ (.int .i64 s.nu)).setCell ⟨w.heap.size + 1, 8, none⟩ (.int .i64 s.de)).setCell ⟨w.heap.size + 1, 9, none⟩ (.slice (some ⟨gi', 0, none⟩) l.length ci')).setCell ⟨w.heap.size + 1, 10, none⟩ (.slice (some ⟨gp', 0, none⟩) p.length cp')).setCell ⟨w.heap.size + 1, 11, none⟩ (.int .i64 s.op)).setCell ⟨w.heap.size + 1, 12, none⟩ (.int .i64 s.up)) w.heap.size (l.set k (x1, x2, x3, x4 + q)) (tkL p S0) (some ⟨gi', 0, none⟩) ci' gi' (some ⟨gp', 0, none⟩) cp' gp' gs2 cs2 from ⟨L6.out.items.keep fun _ => (((((((((((((Below.heap_setCell _ _ _ _ (show gi' ≠ w.heap.size + 1 by have := DD.out; omega)).trans (Below.heap_setCell _ _ _ _ (show gi' ≠ w.heap.size + 1 by have := DD.out; omega))).trans (Below.heap_setCell _ _ _ _ (show gi' ≠ w.heap.size + 1 by have := DD.out; omega))).trans (Below.heap_setCell _ _ _ _ (show gi' ≠ w.heap.size + 1 by have := DD.out; omega))).trans (Below.heap_setCell _ _ _ _ (show gi' ≠ w.heap.size + 1 by have := DD.out; omega))).trans (Below.heap_setCell _ _ _ _ (show gi' ≠ w.heap.size + 1 by have := DD.out; omega))).trans (Below.heap_setCell _ _ _ _ (show gi' ≠ w.heap.size + 1 by have := DD.out; omega))).trans (Below.heap_setCell _ _ _ _ (show gi' ≠ w.heap.size + 1 by have := DD.out; omega))).trans (Below.heap_setCell _ _ _ _ (show gi' ≠ w.heap.size + 1 by have := DD.out; omega))).trans (Below.heap_setCell _ _ _ _ (show gi' ≠ w.heap.size + 1 by have := DD.out; omega))).trans (Below.heap_setCell _ _ _ _ (show gi' ≠ w.heap.size + 1 by have := DD.out; omega))).trans (Below.heap_setCell _ _ _ _ (show gi' ≠ w.heap.size + 1 by have := DD.out; omega))).trans (Below.heap_setCell _ _ _ _ (show gi' ≠ w.heap.size + 1 by have := DD.out; omega))), L6.out.plans.keep (fun _ => (((((((((((((Below.heap_setCell _ _ _ _ (show gp' ≠ w.heap.size + 1 by have := DD.out; omega)).trans (Below.heap_setCell _ _ _ _ (show gp' ≠ w.heap.size + 1 by have := DD.out; omega))).trans (Below.heap_setCell _ _ _ _ (show gp' ≠ w.heap.size + 1 by have := DD.out; omega))).trans (Below.heap_setCell _ _ _ _ (show gp' ≠ w.heap.size + 1 by have := DD.out; omega))).trans (Below.heap_setCell _ _ _ _ (show gp' ≠ w.heap.size + 1 by have := DD.out; omega))).trans (Below.heap_setCell _ _ _ _ (show gp' ≠ w.heap.size + 1 by have := DD.out; omega))).trans (Below.heap_setCell _ _ _ _ (show gp' ≠ w.heap.size + 1 by have := DD.out; omega))).trans (Below.heap_setCell _ _ _ _ (show gp' ≠ w.heap.size + 1 by have := DD.out; omega))).trans (Below.heap_setCell _ _ _ _ (show gp' ≠ w.heap.size + 1 by have := DD.out; omega))).trans (Below.heap_setCell _ _ _ _ (show gp' ≠ w.heap.size + 1 by have := DD.out; omega))).trans (Below.heap_setCell _ _ _ _ (show gp' ≠ w.heap.size + 1 by have := DD.out; omega))).trans (Below.heap_setCell _ _ _ _ (show gp' ≠ w.heap.size + 1 by have := DD.out; omega))).trans (Below.heap_setCell _ _ _ _ (show gp' ≠ w.heap.size + 1 by have := DD.out; omega)))) (fun i hi => (((((((((((((Below.heap_setCell _ _ _ _ (show gs2 i ≠ w.heap.size + 1 by have := L6.out.gs0 i hi; omega)).trans (Below.heap_setCell _ _ _ _ (show gs2 i ≠ w.heap.size + 1 by have := L6.out.gs0 i hi; omega))).trans (Below.heap_setCell _ _ _ _ (show gs2 i ≠ w.heap.size + 1 by have := L6.out.gs0 i hi; omega))).trans (Below.heap_setCell _ _ _ _ (show gs2 i ≠ w.heap.size + 1 by have := L6.out.gs0 i hi; omega))).trans (Below.heap_setCell _ _ _ _ (show gs2 i ≠ w.heap.size + 1 by have := L6.out.gs0 i hi; omega))).trans (Below.heap_setCell _ _ _ _ (show gs2 i ≠ w.heap.size + 1 by have := L6.out.gs0 i hi; omega))).trans (Below.heap_setCell _ _ _ _ (show gs2 i ≠ w.heap.size + 1 by have := L6.out.gs0 i hi; omega))).trans (Below.heap_setCell _ _ _ _ (show gs2 i ≠ w.heap.size + 1 by have := L6.out.gs0 i hi; omega))).trans (Below.heap_setCell _ _ _ _ (show gs2 i ≠ w.heap.size + 1 by have := L6.out.gs0 i hi; omega))).trans (Below.heap_setCell _ _ _ _ (show gs2 i ≠ w.heap.size + 1 by have := L6.out.gs0 i hi; omega))).trans (Below.heap_setCell _ _ _ _ (show gs2 i ≠ w.heap.size + 1 by have := L6.out.gs0 i hi; omega))).trans (Below.heap_setCell _ _ _ _ (show gs2 i ≠ w.heap.size + 1 by have := L6.out.gs0 i hi; omega))).trans (Below.heap_setCell _ _ _ _ (show gs2 i ≠ w.heap.size + 1 by have := L6.out.gs0 i hi; omega)))) (by simp only [sz_set]; exact Nat.le_refl _), fun h => Nat.le_trans (show w.heap.size ≤ w.heap.size + 1 + 1 by omega) (L6.out.gi0 h), fun h => Nat.le_trans (show w.heap.size ≤ w.heap.size + 1 + 1 by omega) (L6.out.gp0 h), fun i h => Nat.le_trans (show w.heap.size ≤ w.heap.size + 1 + 1 by omega) (L6.out.gs0 i h), L6.out.ip, L6.out.is_⟩)
    clear X6 N6 L6 B6
    go_wp2
    change bodyPost _ _ _ _ _ (((((((((((((W6.setCell ⟨w.heap.size + 1, 0, none⟩ (.int .i64 s.id)).setCell ⟨w.heap.size + 1, 1, none⟩ (.int .i64 s.co)).setCell ⟨w.heap.size + 1, 2, none⟩ (.int .i64 s.me)).setCell ⟨w.heap.size + 1, 3, none⟩ (.int .i64 s.cu)).setCell ⟨w.heap.size + 1, 4, none⟩ (.int .i64 s.da)).setCell ⟨w.heap.size + 1, 5, none⟩ (.int .i64 s.nn)).setCell ⟨w.heap.size + 1, 6, none⟩ (.int .i64 s.ra)).setCell ⟨w.heap.size + 1, 7, none⟩ (.int .i64 s.nu)).setCell ⟨w.heap.size + 1, 8, none⟩ (.int .i64 s.de)).setCell ⟨w.heap.size + 1, 9, none⟩ (.slice (some ⟨gi', 0, none⟩) l.length ci')).setCell ⟨w.heap.size + 1, 10, none⟩ (.slice (some ⟨gp', 0, none⟩) p.length cp')).setCell ⟨w.heap.size + 1, 11, none⟩ (.int .i64 s.op)).setCell ⟨w.heap.size + 1, 12, none⟩ (.int .i64 s.up))
    generalize ((((((((((((W6.setCell ⟨w.heap.size + 1, 0, none⟩ (.int .i64 s.id)).setCell ⟨w.heap.size + 1, 1, none⟩ (.int .i64 s.co)).setCell ⟨w.heap.size + 1, 2, none⟩ (.int .i64 s.me)).setCell ⟨w.heap.size + 1, 3, none⟩ (.int .i64 s.cu)).setCell ⟨w.heap.size + 1, 4, none⟩ (.int .i64 s.da)).setCell ⟨w.heap.size + 1, 5, none⟩ (.int .i64 s.nn)).setCell ⟨w.heap.size + 1, 6, none⟩ (.int .i64 s.ra)).setCell ⟨w.heap.size + 1, 7, none⟩ (.int .i64 s.nu)).setCell ⟨w.heap.size + 1, 8, none⟩ (.int .i64 s.de)).setCell ⟨w.heap.size + 1, 9, none⟩ (.slice (some ⟨gi', 0, none⟩) l.length ci')).setCell ⟨w.heap.size + 1, 10, none⟩ (.slice (some ⟨gp', 0, none⟩) p.length cp')).setCell ⟨w.heap.size + 1, 11, none⟩ (.int .i64 s.op)).setCell ⟨w.heap.size + 1, 12, none⟩ (.int .i64 s.up) = W9 at Y BF LF ⊢
    have y0 : W9.cell? ⟨w.heap.size + 1, 0, none⟩ = some (.int .i64 s.id) := Y.out.cell 0 (by decide)
    have y1 : W9.cell? ⟨w.heap.size + 1, 1, none⟩ = some (.int .i64 s.co) := Y.out.cell 1 (by decide)
    have y2 : W9.cell? ⟨w.heap.size + 1, 2, none⟩ = some (.int .i64 s.me) := Y.out.cell 2 (by decide)
    have y3 : W9.cell? ⟨w.heap.size + 1, 3, none⟩ = some (.int .i64 s.cu) := Y.out.cell 3 (by decide)
    have y4 : W9.cell? ⟨w.heap.size + 1, 4, none⟩ = some (.int .i64 s.da) := Y.out.cell 4 (by decide)
    have y5 : W9.cell? ⟨w.heap.size + 1, 5, none⟩ = some (.int .i64 s.nn) := Y.out.cell 5 (by decide)
    have y6 : W9.cell? ⟨w.heap.size + 1, 6, none⟩ = some (.int .i64 s.ra) := Y.out.cell 6 (by decide)
    have y7 : W9.cell? ⟨w.heap.size + 1, 7, none⟩ = some (.int .i64 s.nu) := Y.out.cell 7 (by decide)
    have y8 : W9.cell? ⟨w.heap.size + 1, 8, none⟩ = some (.int .i64 s.de) := Y.out.cell 8 (by decide)
    have y9 : W9.cell? ⟨w.heap.size + 1, 9, none⟩ = some (.slice (some ⟨gi', 0, none⟩) l.length ci') := Y.out.cell 9 (by decide)
    have y10 : W9.cell? ⟨w.heap.size + 1, 10, none⟩ = some (.slice (some ⟨gp', 0, none⟩) p.length cp') := Y.out.cell 10 (by decide)
    have y11 : W9.cell? ⟨w.heap.size + 1, 11, none⟩ = some (.int .i64 s.op) := Y.out.cell 11 (by decide)
    have y12 : W9.cell? ⟨w.heap.size + 1, 12, none⟩ = some (.int .i64 s.up) := Y.out.cell 12 (by decide)
    refine bodyPost_ret (v := .tuple #[.agg #[.int .i64 s.id, .int .i64 s.co, .int .i64 s.me, .int .i64 s.cu, .int .i64 s.da, .int .i64 s.nn, .int .i64 s.ra, .int .i64 s.nu, .int .i64 s.de, .slice (some ⟨gi', 0, none⟩) l.length ci', .slice (some ⟨gp', 0, none⟩) p.length cp', .int .i64 s.op, .int .i64 s.up], .int .i64 S0, .int .i64 S1, .int .i64 0]) (by simp [results, Try.results36, go_sem, y0, y1, y2, y3, y4, y5, y6, y7, y8, y9, y10, y11, y12]) rfl ⟨_, rfl, _, _, _, _, _, _, _, _, ?_, LF.out, BF.out⟩
    rw [PLEN.out, List.length_set]
end Go.Proofs.Ytmaejlfjdkkpdaa.ob
