/-
  Plain helpers of this seat's proofs: the contract of the model's OrderLate. Conditions: none.
-/
import Derived.Test.YtmaejlfjdkkpdaaOlI
import Derived.Test.YtmaejlfjdkkpdaaOkS
import Derived.Test.YtmaejlfjdkkpdaaCs6
import Derived.Test.YtmaejlfjdkkpdaaLtS
namespace Go.Proofs.Ytmaejlfjdkkpdaa.ob
open Go.ChangeShapes Go.WideShapes Go.ChangeAt Go.RowKit
open gen
open seven (F7 zz Row At)
open four (F4)
open pl (inR)
open pls (nth Pls OL NewO)
open ord (Sc iok)
set_option maxRecDepth 100000 in
set_option maxHeartbeats 8000000 in
theorem olS (d f g : Int) (w : World) (B : Nat) (s : Sc) (ci gi : Nat) (l : List F4) (cp gp : Nat) (p : List (List F7)) (gs cs : Nat → Nat) (h : OL w B l p (some ⟨gi, 0, none⟩) ci gi (some ⟨gp, 0, none⟩) cp gp gs cs) (hl : l.length ≤ 1048576) (hn : p.length ≤ 1048576) (hm : ∀ i, i < p.length → (nth p i).length ≤ 1048576) {S0 C : Int} {s' : Sc} {l' : List F4} {p' : List (List F7)} (hr : lateR s l p d f g S0 C s' l' p') :
    Calls Try.prog 38 #[.agg #[.int .i64 s.id, .int .i64 s.co, .int .i64 s.me, .int .i64 s.cu, .int .i64 s.da, .int .i64 s.nn, .int .i64 s.ra, .int .i64 s.nu, .int .i64 s.de, .slice (some ⟨gi, 0, none⟩) l.length ci, .slice (some ⟨gp, 0, none⟩) p.length cp, .int .i64 s.op, .int .i64 s.up], .int .i64 d, .int .i64 f, .int .i64 g] w fun e w' => ∃ v, e = .returned (.tuple #[v, .int .i64 S0, .int .i64 C]) ∧ Res w s' l' p' v w' := by
  have b0 : Below w.heap.size w ((w.alloc (.cells #[.int .i64 s.id, .int .i64 s.co, .int .i64 s.me, .int .i64 s.cu, .int .i64 s.da, .int .i64 s.nn, .int .i64 s.ra, .int .i64 s.nu, .int .i64 s.de, .slice (some ⟨gi, 0, none⟩) l.length ci, .slice (some ⟨gp, 0, none⟩) p.length cp, .int .i64 s.op, .int .i64 s.up] 31)).alloc (.cells #[.int .i64 0, .int .i64 0, .int .i64 0, .int .i64 0, .int .i64 0, .int .i64 0, .int .i64 0, .int .i64 0, .int .i64 0, .slice none 0 0, .slice none 0 0, .int .i64 0, .int .i64 0] 31)) := bAl (bAl (Below.refl _ _) (Nat.le_refl _) _) (Nat.le_refl _) _
  have B0 := Lib.hid b0
  have O0 := Lib.hid ((OB.new w s (some ⟨gi, 0, none⟩) l.length ci (some ⟨gp, 0, none⟩) p.length cp 31).keep (w' := (w.alloc (.cells #[.int .i64 s.id, .int .i64 s.co, .int .i64 s.me, .int .i64 s.cu, .int .i64 s.da, .int .i64 s.nn, .int .i64 s.ra, .int .i64 s.nu, .int .i64 s.de, .slice (some ⟨gi, 0, none⟩) l.length ci, .slice (some ⟨gp, 0, none⟩) p.length cp, .int .i64 s.op, .int .i64 s.up] 31)).alloc (.cells #[.int .i64 0, .int .i64 0, .int .i64 0, .int .i64 0, .int .i64 0, .int .i64 0, .int .i64 0, .int .i64 0, .int .i64 0, .slice none 0 0, .slice none 0 0, .int .i64 0, .int .i64 0] 31)) (Below.heap_alloc _ _ _ (by simp)))
  have X0 := Blk.new (w.alloc (.cells #[.int .i64 s.id, .int .i64 s.co, .int .i64 s.me, .int .i64 s.cu, .int .i64 s.da, .int .i64 s.nn, .int .i64 s.ra, .int .i64 s.nu, .int .i64 s.de, .slice (some ⟨gi, 0, none⟩) l.length ci, .slice (some ⟨gp, 0, none⟩) p.length cp, .int .i64 s.op, .int .i64 s.up] 31)) #[.int .i64 0, .int .i64 0, .int .i64 0, .int .i64 0, .int .i64 0, .int .i64 0, .int .i64 0, .int .i64 0, .int .i64 0, .slice none 0 0, .slice none 0 0, .int .i64 0, .int .i64 0] 31 13 rfl
  have z0 : ((w.alloc (.cells #[.int .i64 s.id, .int .i64 s.co, .int .i64 s.me, .int .i64 s.cu, .int .i64 s.da, .int .i64 s.nn, .int .i64 s.ra, .int .i64 s.nu, .int .i64 s.de, .slice (some ⟨gi, 0, none⟩) l.length ci, .slice (some ⟨gp, 0, none⟩) p.length cp, .int .i64 s.op, .int .i64 s.up] 31)).alloc (.cells #[.int .i64 0, .int .i64 0, .int .i64 0, .int .i64 0, .int .i64 0, .int .i64 0, .int .i64 0, .int .i64 0, .int .i64 0, .slice none 0 0, .slice none 0 0, .int .i64 0, .int .i64 0] 31)).heap.size = w.heap.size + 1 + 1 := by simp only [sz_al]
  simp only [sz_al] at X0
  have X0 := Lib.hid X0
  have hm' : ∀ i, i < p.length → (nth p i).length ≤ 1048577 := fun i hi => Nat.le_trans (hm i hi) (by omega)
  have CK := okS ((w.alloc (.cells #[.int .i64 s.id, .int .i64 s.co, .int .i64 s.me, .int .i64 s.cu, .int .i64 s.da, .int .i64 s.nn, .int .i64 s.ra, .int .i64 s.nu, .int .i64 s.de, .slice (some ⟨gi, 0, none⟩) l.length ci, .slice (some ⟨gp, 0, none⟩) p.length cp, .int .i64 s.op, .int .i64 s.up] 31)).alloc (.cells #[.int .i64 0, .int .i64 0, .int .i64 0, .int .i64 0, .int .i64 0, .int .i64 0, .int .i64 0, .int .i64 0, .int .i64 0, .slice none 0 0, .slice none 0 0, .int .i64 0, .int .i64 0] 31)) B s _ ci gi l _ cp gp p gs cs (h.below b0) hl hn hm'
  have L := Lib.hid h
  have HM := Lib.hid hm'
  clear h hm hm' b0
  rcases hr with ⟨hk, rfl, rfl, rfl, rfl, rfl⟩ | ⟨hk, ht, rfl, rfl, rfl, rfl, rfl⟩ | ⟨hk, ht, rfl, rfl, rfl, rfl, rfl⟩
  · rw [hk] at CK
    go_enter Try.func38, Try.ntmps38
    go_wp2_with fail
    generalize (w.alloc (.cells #[.int .i64 s.id, .int .i64 s.co, .int .i64 s.me, .int .i64 s.cu, .int .i64 s.da, .int .i64 s.nn, .int .i64 s.ra, .int .i64 s.nu, .int .i64 s.de, .slice (some ⟨gi, 0, none⟩) l.length ci, .slice (some ⟨gp, 0, none⟩) p.length cp, .int .i64 s.op, .int .i64 s.up] 31)).alloc (.cells #[.int .i64 0, .int .i64 0, .int .i64 0, .int .i64 0, .int .i64 0, .int .i64 0, .int .i64 0, .int .i64 0, .int .i64 0, .slice none 0 0, .slice none 0 0, .int .i64 0, .int .i64 0] 31) = W2 at B0 O0 X0 z0 CK ⊢
    refine CK.mono ?_
    rintro e w1 ⟨rfl, b1⟩
    have B1 := Lib.hid (B0.out.trans (b1.mono B0.out.size))
    have O1 := Lib.hid (O0.out.keep (b1.block w.heap.size (by omega)))
    have X1 := Lib.hid (X0.out.below b1 X0.out.lt)
    have z1 := b1.size
    clear b1 O0 X0 B0
    have x0 : w1.cell? ⟨w.heap.size + 1, 0, none⟩ = some (.int .i64 0) := X1.out.cell 0 (by decide)
    have x1 : w1.cell? ⟨w.heap.size + 1, 1, none⟩ = some (.int .i64 0) := X1.out.cell 1 (by decide)
    have x2 : w1.cell? ⟨w.heap.size + 1, 2, none⟩ = some (.int .i64 0) := X1.out.cell 2 (by decide)
    have x3 : w1.cell? ⟨w.heap.size + 1, 3, none⟩ = some (.int .i64 0) := X1.out.cell 3 (by decide)
    have x4 : w1.cell? ⟨w.heap.size + 1, 4, none⟩ = some (.int .i64 0) := X1.out.cell 4 (by decide)
    have x5 : w1.cell? ⟨w.heap.size + 1, 5, none⟩ = some (.int .i64 0) := X1.out.cell 5 (by decide)
    have x6 : w1.cell? ⟨w.heap.size + 1, 6, none⟩ = some (.int .i64 0) := X1.out.cell 6 (by decide)
    have x7 : w1.cell? ⟨w.heap.size + 1, 7, none⟩ = some (.int .i64 0) := X1.out.cell 7 (by decide)
    have x8 : w1.cell? ⟨w.heap.size + 1, 8, none⟩ = some (.int .i64 0) := X1.out.cell 8 (by decide)
    have x9 : w1.cell? ⟨w.heap.size + 1, 9, none⟩ = some (.slice none 0 0) := X1.out.cell 9 (by decide)
    have x10 : w1.cell? ⟨w.heap.size + 1, 10, none⟩ = some (.slice none 0 0) := X1.out.cell 10 (by decide)
    have x11 : w1.cell? ⟨w.heap.size + 1, 11, none⟩ = some (.int .i64 0) := X1.out.cell 11 (by decide)
    have x12 : w1.cell? ⟨w.heap.size + 1, 12, none⟩ = some (.int .i64 0) := X1.out.cell 12 (by decide)
    have f0 := X1.out.free 0
    have f1 := X1.out.free 1
    have f2 := X1.out.free 2
    have f3 := X1.out.free 3
    have f4 := X1.out.free 4
    have f5 := X1.out.free 5
    have f6 := X1.out.free 6
    have f7 := X1.out.free 7
    have f8 := X1.out.free 8
    have f9 := X1.out.free 9
    have f10 := X1.out.free 10
    have f11 := X1.out.free 11
    have f12 := X1.out.free 12
    have Y := Lib.hid (((((((((((((X1.out.set (k := 0) (by decide) (.int .i64 0)).set (k := 1) (by decide) (.int .i64 0)).set (k := 2) (by decide) (.int .i64 0)).set (k := 3) (by decide) (.int .i64 0)).set (k := 4) (by decide) (.int .i64 0)).set (k := 5) (by decide) (.int .i64 0)).set (k := 6) (by decide) (.int .i64 0)).set (k := 7) (by decide) (.int .i64 0)).set (k := 8) (by decide) (.int .i64 0)).set (k := 9) (by decide) (.slice none 0 0)).set (k := 10) (by decide) (.slice none 0 0)).set (k := 11) (by decide) (.int .i64 0)).set (k := 12) (by decide) (.int .i64 0))
    have BF := Lib.hid (show Below w.heap.size w (((((((((((((w1.setCell ⟨w.heap.size + 1, 0, none⟩ (.int .i64 0)).setCell ⟨w.heap.size + 1, 1, none⟩ (.int .i64 0)).setCell ⟨w.heap.size + 1, 2, none⟩ (.int .i64 0)).setCell ⟨w.heap.size + 1, 3, none⟩ (.int .i64 0)).setCell ⟨w.heap.size + 1, 4, none⟩ (.int .i64 0)).setCell ⟨w.heap.size + 1, 5, none⟩ (.int .i64 0)).setCell ⟨w.heap.size + 1, 6, none⟩ (.int .i64 0)).setCell ⟨w.heap.size + 1, 7, none⟩ (.int .i64 0)).setCell ⟨w.heap.size + 1, 8, none⟩ (.int .i64 0)).setCell ⟨w.heap.size + 1, 9, none⟩ (.slice none 0 0)).setCell ⟨w.heap.size + 1, 10, none⟩ (.slice none 0 0)).setCell ⟨w.heap.size + 1, 11, none⟩ (.int .i64 0)).setCell ⟨w.heap.size + 1, 12, none⟩ (.int .i64 0)) from (((((((((((((B1.out.setCell (p := ⟨w.heap.size + 1, 0, none⟩) (show w.heap.size ≤ w.heap.size + 1 by omega) (.int .i64 0)).setCell (p := ⟨w.heap.size + 1, 1, none⟩) (show w.heap.size ≤ w.heap.size + 1 by omega) (.int .i64 0)).setCell (p := ⟨w.heap.size + 1, 2, none⟩) (show w.heap.size ≤ w.heap.size + 1 by omega) (.int .i64 0)).setCell (p := ⟨w.heap.size + 1, 3, none⟩) (show w.heap.size ≤ w.heap.size + 1 by omega) (.int .i64 0)).setCell (p := ⟨w.heap.size + 1, 4, none⟩) (show w.heap.size ≤ w.heap.size + 1 by omega) (.int .i64 0)).setCell (p := ⟨w.heap.size + 1, 5, none⟩) (show w.heap.size ≤ w.heap.size + 1 by omega) (.int .i64 0)).setCell (p := ⟨w.heap.size + 1, 6, none⟩) (show w.heap.size ≤ w.heap.size + 1 by omega) (.int .i64 0)).setCell (p := ⟨w.heap.size + 1, 7, none⟩) (show w.heap.size ≤ w.heap.size + 1 by omega) (.int .i64 0)).setCell (p := ⟨w.heap.size + 1, 8, none⟩) (show w.heap.size ≤ w.heap.size + 1 by omega) (.int .i64 0)).setCell (p := ⟨w.heap.size + 1, 9, none⟩) (show w.heap.size ≤ w.heap.size + 1 by omega) (.slice none 0 0)).setCell (p := ⟨w.heap.size + 1, 10, none⟩) (show w.heap.size ≤ w.heap.size + 1 by omega) (.slice none 0 0)).setCell (p := ⟨w.heap.size + 1, 11, none⟩) (show w.heap.size ≤ w.heap.size + 1 by omega) (.int .i64 0)).setCell (p := ⟨w.heap.size + 1, 12, none⟩) (show w.heap.size ≤ w.heap.size + 1 by omega) (.int .i64 0)))
    go_wp2
    change bodyPost _ _ _ _ _ (((((((((((((w1.setCell ⟨w.heap.size + 1, 0, none⟩ (.int .i64 0)).setCell ⟨w.heap.size + 1, 1, none⟩ (.int .i64 0)).setCell ⟨w.heap.size + 1, 2, none⟩ (.int .i64 0)).setCell ⟨w.heap.size + 1, 3, none⟩ (.int .i64 0)).setCell ⟨w.heap.size + 1, 4, none⟩ (.int .i64 0)).setCell ⟨w.heap.size + 1, 5, none⟩ (.int .i64 0)).setCell ⟨w.heap.size + 1, 6, none⟩ (.int .i64 0)).setCell ⟨w.heap.size + 1, 7, none⟩ (.int .i64 0)).setCell ⟨w.heap.size + 1, 8, none⟩ (.int .i64 0)).setCell ⟨w.heap.size + 1, 9, none⟩ (.slice none 0 0)).setCell ⟨w.heap.size + 1, 10, none⟩ (.slice none 0 0)).setCell ⟨w.heap.size + 1, 11, none⟩ (.int .i64 0)).setCell ⟨w.heap.size + 1, 12, none⟩ (.int .i64 0))
    generalize ((((((((((((w1.setCell ⟨w.heap.size + 1, 0, none⟩ (.int .i64 0)).setCell ⟨w.heap.size + 1, 1, none⟩ (.int .i64 0)).setCell ⟨w.heap.size + 1, 2, none⟩ (.int .i64 0)).setCell ⟨w.heap.size + 1, 3, none⟩ (.int .i64 0)).setCell ⟨w.heap.size + 1, 4, none⟩ (.int .i64 0)).setCell ⟨w.heap.size + 1, 5, none⟩ (.int .i64 0)).setCell ⟨w.heap.size + 1, 6, none⟩ (.int .i64 0)).setCell ⟨w.heap.size + 1, 7, none⟩ (.int .i64 0)).setCell ⟨w.heap.size + 1, 8, none⟩ (.int .i64 0)).setCell ⟨w.heap.size + 1, 9, none⟩ (.slice none 0 0)).setCell ⟨w.heap.size + 1, 10, none⟩ (.slice none 0 0)).setCell ⟨w.heap.size + 1, 11, none⟩ (.int .i64 0)).setCell ⟨w.heap.size + 1, 12, none⟩ (.int .i64 0) = W9 at Y BF ⊢
    have y0 : W9.cell? ⟨w.heap.size + 1, 0, none⟩ = some (.int .i64 0) := Y.out.cell 0 (by decide)
    have y1 : W9.cell? ⟨w.heap.size + 1, 1, none⟩ = some (.int .i64 0) := Y.out.cell 1 (by decide)
    have y2 : W9.cell? ⟨w.heap.size + 1, 2, none⟩ = some (.int .i64 0) := Y.out.cell 2 (by decide)
    have y3 : W9.cell? ⟨w.heap.size + 1, 3, none⟩ = some (.int .i64 0) := Y.out.cell 3 (by decide)
    have y4 : W9.cell? ⟨w.heap.size + 1, 4, none⟩ = some (.int .i64 0) := Y.out.cell 4 (by decide)
    have y5 : W9.cell? ⟨w.heap.size + 1, 5, none⟩ = some (.int .i64 0) := Y.out.cell 5 (by decide)
    have y6 : W9.cell? ⟨w.heap.size + 1, 6, none⟩ = some (.int .i64 0) := Y.out.cell 6 (by decide)
    have y7 : W9.cell? ⟨w.heap.size + 1, 7, none⟩ = some (.int .i64 0) := Y.out.cell 7 (by decide)
    have y8 : W9.cell? ⟨w.heap.size + 1, 8, none⟩ = some (.int .i64 0) := Y.out.cell 8 (by decide)
    have y9 : W9.cell? ⟨w.heap.size + 1, 9, none⟩ = some (.slice none 0 0) := Y.out.cell 9 (by decide)
    have y10 : W9.cell? ⟨w.heap.size + 1, 10, none⟩ = some (.slice none 0 0) := Y.out.cell 10 (by decide)
    have y11 : W9.cell? ⟨w.heap.size + 1, 11, none⟩ = some (.int .i64 0) := Y.out.cell 11 (by decide)
    have y12 : W9.cell? ⟨w.heap.size + 1, 12, none⟩ = some (.int .i64 0) := Y.out.cell 12 (by decide)
    exact bodyPost_ret (v := .tuple #[.agg #[.int .i64 0, .int .i64 0, .int .i64 0, .int .i64 0, .int .i64 0, .int .i64 0, .int .i64 0, .int .i64 0, .int .i64 0, .slice none 0 0, .slice none 0 0, .int .i64 0, .int .i64 0], .int .i64 0, .int .i64 1]) (by simp [results, Try.results38, go_sem, y0, y1, y2, y3, y4, y5, y6, y7, y8, y9, y10, y11, y12]) rfl ⟨_, rfl, res_no BF.out⟩
  · rw [hk] at CK
    go_enter Try.func38, Try.ntmps38
    go_wp2_with fail
    generalize (w.alloc (.cells #[.int .i64 s.id, .int .i64 s.co, .int .i64 s.me, .int .i64 s.cu, .int .i64 s.da, .int .i64 s.nn, .int .i64 s.ra, .int .i64 s.nu, .int .i64 s.de, .slice (some ⟨gi, 0, none⟩) l.length ci, .slice (some ⟨gp, 0, none⟩) p.length cp, .int .i64 s.op, .int .i64 s.up] 31)).alloc (.cells #[.int .i64 0, .int .i64 0, .int .i64 0, .int .i64 0, .int .i64 0, .int .i64 0, .int .i64 0, .int .i64 0, .int .i64 0, .slice none 0 0, .slice none 0 0, .int .i64 0, .int .i64 0] 31) = W2 at B0 O0 X0 z0 CK ⊢
    refine CK.mono ?_
    rintro e w1 ⟨rfl, b1⟩
    have B1 := Lib.hid (B0.out.trans (b1.mono B0.out.size))
    have O1 := Lib.hid (O0.out.keep (b1.block w.heap.size (by omega)))
    have X1 := Lib.hid (X0.out.below b1 X0.out.lt)
    have z1 := b1.size
    clear b1 O0 X0 B0
    have c0 := fun W => base.dayS d W
    cases t0 : inR d 0 100000
    · skip
      rw [t0] at c0
      go_wp2_with fail
      refine (c0 _).mono ?_
      rintro e w' ⟨rfl, rfl⟩
      have x0 : w1.cell? ⟨w.heap.size + 1, 0, none⟩ = some (.int .i64 0) := X1.out.cell 0 (by decide)
      have x1 : w1.cell? ⟨w.heap.size + 1, 1, none⟩ = some (.int .i64 0) := X1.out.cell 1 (by decide)
      have x2 : w1.cell? ⟨w.heap.size + 1, 2, none⟩ = some (.int .i64 0) := X1.out.cell 2 (by decide)
      have x3 : w1.cell? ⟨w.heap.size + 1, 3, none⟩ = some (.int .i64 0) := X1.out.cell 3 (by decide)
      have x4 : w1.cell? ⟨w.heap.size + 1, 4, none⟩ = some (.int .i64 0) := X1.out.cell 4 (by decide)
      have x5 : w1.cell? ⟨w.heap.size + 1, 5, none⟩ = some (.int .i64 0) := X1.out.cell 5 (by decide)
      have x6 : w1.cell? ⟨w.heap.size + 1, 6, none⟩ = some (.int .i64 0) := X1.out.cell 6 (by decide)
      have x7 : w1.cell? ⟨w.heap.size + 1, 7, none⟩ = some (.int .i64 0) := X1.out.cell 7 (by decide)
      have x8 : w1.cell? ⟨w.heap.size + 1, 8, none⟩ = some (.int .i64 0) := X1.out.cell 8 (by decide)
      have x9 : w1.cell? ⟨w.heap.size + 1, 9, none⟩ = some (.slice none 0 0) := X1.out.cell 9 (by decide)
      have x10 : w1.cell? ⟨w.heap.size + 1, 10, none⟩ = some (.slice none 0 0) := X1.out.cell 10 (by decide)
      have x11 : w1.cell? ⟨w.heap.size + 1, 11, none⟩ = some (.int .i64 0) := X1.out.cell 11 (by decide)
      have x12 : w1.cell? ⟨w.heap.size + 1, 12, none⟩ = some (.int .i64 0) := X1.out.cell 12 (by decide)
      have f0 := X1.out.free 0
      have f1 := X1.out.free 1
      have f2 := X1.out.free 2
      have f3 := X1.out.free 3
      have f4 := X1.out.free 4
      have f5 := X1.out.free 5
      have f6 := X1.out.free 6
      have f7 := X1.out.free 7
      have f8 := X1.out.free 8
      have f9 := X1.out.free 9
      have f10 := X1.out.free 10
      have f11 := X1.out.free 11
      have f12 := X1.out.free 12
      have Y := Lib.hid (((((((((((((X1.out.set (k := 0) (by decide) (.int .i64 0)).set (k := 1) (by decide) (.int .i64 0)).set (k := 2) (by decide) (.int .i64 0)).set (k := 3) (by decide) (.int .i64 0)).set (k := 4) (by decide) (.int .i64 0)).set (k := 5) (by decide) (.int .i64 0)).set (k := 6) (by decide) (.int .i64 0)).set (k := 7) (by decide) (.int .i64 0)).set (k := 8) (by decide) (.int .i64 0)).set (k := 9) (by decide) (.slice none 0 0)).set (k := 10) (by decide) (.slice none 0 0)).set (k := 11) (by decide) (.int .i64 0)).set (k := 12) (by decide) (.int .i64 0))
      have BF := Lib.hid (show Below w.heap.size w (((((((((((((w1.setCell ⟨w.heap.size + 1, 0, none⟩ (.int .i64 0)).setCell ⟨w.heap.size + 1, 1, none⟩ (.int .i64 0)).setCell ⟨w.heap.size + 1, 2, none⟩ (.int .i64 0)).setCell ⟨w.heap.size + 1, 3, none⟩ (.int .i64 0)).setCell ⟨w.heap.size + 1, 4, none⟩ (.int .i64 0)).setCell ⟨w.heap.size + 1, 5, none⟩ (.int .i64 0)).setCell ⟨w.heap.size + 1, 6, none⟩ (.int .i64 0)).setCell ⟨w.heap.size + 1, 7, none⟩ (.int .i64 0)).setCell ⟨w.heap.size + 1, 8, none⟩ (.int .i64 0)).setCell ⟨w.heap.size + 1, 9, none⟩ (.slice none 0 0)).setCell ⟨w.heap.size + 1, 10, none⟩ (.slice none 0 0)).setCell ⟨w.heap.size + 1, 11, none⟩ (.int .i64 0)).setCell ⟨w.heap.size + 1, 12, none⟩ (.int .i64 0)) from (((((((((((((B1.out.setCell (p := ⟨w.heap.size + 1, 0, none⟩) (show w.heap.size ≤ w.heap.size + 1 by omega) (.int .i64 0)).setCell (p := ⟨w.heap.size + 1, 1, none⟩) (show w.heap.size ≤ w.heap.size + 1 by omega) (.int .i64 0)).setCell (p := ⟨w.heap.size + 1, 2, none⟩) (show w.heap.size ≤ w.heap.size + 1 by omega) (.int .i64 0)).setCell (p := ⟨w.heap.size + 1, 3, none⟩) (show w.heap.size ≤ w.heap.size + 1 by omega) (.int .i64 0)).setCell (p := ⟨w.heap.size + 1, 4, none⟩) (show w.heap.size ≤ w.heap.size + 1 by omega) (.int .i64 0)).setCell (p := ⟨w.heap.size + 1, 5, none⟩) (show w.heap.size ≤ w.heap.size + 1 by omega) (.int .i64 0)).setCell (p := ⟨w.heap.size + 1, 6, none⟩) (show w.heap.size ≤ w.heap.size + 1 by omega) (.int .i64 0)).setCell (p := ⟨w.heap.size + 1, 7, none⟩) (show w.heap.size ≤ w.heap.size + 1 by omega) (.int .i64 0)).setCell (p := ⟨w.heap.size + 1, 8, none⟩) (show w.heap.size ≤ w.heap.size + 1 by omega) (.int .i64 0)).setCell (p := ⟨w.heap.size + 1, 9, none⟩) (show w.heap.size ≤ w.heap.size + 1 by omega) (.slice none 0 0)).setCell (p := ⟨w.heap.size + 1, 10, none⟩) (show w.heap.size ≤ w.heap.size + 1 by omega) (.slice none 0 0)).setCell (p := ⟨w.heap.size + 1, 11, none⟩) (show w.heap.size ≤ w.heap.size + 1 by omega) (.int .i64 0)).setCell (p := ⟨w.heap.size + 1, 12, none⟩) (show w.heap.size ≤ w.heap.size + 1 by omega) (.int .i64 0)))
      go_wp2
      change bodyPost _ _ _ _ _ (((((((((((((w1.setCell ⟨w.heap.size + 1, 0, none⟩ (.int .i64 0)).setCell ⟨w.heap.size + 1, 1, none⟩ (.int .i64 0)).setCell ⟨w.heap.size + 1, 2, none⟩ (.int .i64 0)).setCell ⟨w.heap.size + 1, 3, none⟩ (.int .i64 0)).setCell ⟨w.heap.size + 1, 4, none⟩ (.int .i64 0)).setCell ⟨w.heap.size + 1, 5, none⟩ (.int .i64 0)).setCell ⟨w.heap.size + 1, 6, none⟩ (.int .i64 0)).setCell ⟨w.heap.size + 1, 7, none⟩ (.int .i64 0)).setCell ⟨w.heap.size + 1, 8, none⟩ (.int .i64 0)).setCell ⟨w.heap.size + 1, 9, none⟩ (.slice none 0 0)).setCell ⟨w.heap.size + 1, 10, none⟩ (.slice none 0 0)).setCell ⟨w.heap.size + 1, 11, none⟩ (.int .i64 0)).setCell ⟨w.heap.size + 1, 12, none⟩ (.int .i64 0))
      generalize ((((((((((((w1.setCell ⟨w.heap.size + 1, 0, none⟩ (.int .i64 0)).setCell ⟨w.heap.size + 1, 1, none⟩ (.int .i64 0)).setCell ⟨w.heap.size + 1, 2, none⟩ (.int .i64 0)).setCell ⟨w.heap.size + 1, 3, none⟩ (.int .i64 0)).setCell ⟨w.heap.size + 1, 4, none⟩ (.int .i64 0)).setCell ⟨w.heap.size + 1, 5, none⟩ (.int .i64 0)).setCell ⟨w.heap.size + 1, 6, none⟩ (.int .i64 0)).setCell ⟨w.heap.size + 1, 7, none⟩ (.int .i64 0)).setCell ⟨w.heap.size + 1, 8, none⟩ (.int .i64 0)).setCell ⟨w.heap.size + 1, 9, none⟩ (.slice none 0 0)).setCell ⟨w.heap.size + 1, 10, none⟩ (.slice none 0 0)).setCell ⟨w.heap.size + 1, 11, none⟩ (.int .i64 0)).setCell ⟨w.heap.size + 1, 12, none⟩ (.int .i64 0) = W9 at Y BF ⊢
      have y0 : W9.cell? ⟨w.heap.size + 1, 0, none⟩ = some (.int .i64 0) := Y.out.cell 0 (by decide)
      have y1 : W9.cell? ⟨w.heap.size + 1, 1, none⟩ = some (.int .i64 0) := Y.out.cell 1 (by decide)
      have y2 : W9.cell? ⟨w.heap.size + 1, 2, none⟩ = some (.int .i64 0) := Y.out.cell 2 (by decide)
      have y3 : W9.cell? ⟨w.heap.size + 1, 3, none⟩ = some (.int .i64 0) := Y.out.cell 3 (by decide)
      have y4 : W9.cell? ⟨w.heap.size + 1, 4, none⟩ = some (.int .i64 0) := Y.out.cell 4 (by decide)
      have y5 : W9.cell? ⟨w.heap.size + 1, 5, none⟩ = some (.int .i64 0) := Y.out.cell 5 (by decide)
      have y6 : W9.cell? ⟨w.heap.size + 1, 6, none⟩ = some (.int .i64 0) := Y.out.cell 6 (by decide)
      have y7 : W9.cell? ⟨w.heap.size + 1, 7, none⟩ = some (.int .i64 0) := Y.out.cell 7 (by decide)
      have y8 : W9.cell? ⟨w.heap.size + 1, 8, none⟩ = some (.int .i64 0) := Y.out.cell 8 (by decide)
      have y9 : W9.cell? ⟨w.heap.size + 1, 9, none⟩ = some (.slice none 0 0) := Y.out.cell 9 (by decide)
      have y10 : W9.cell? ⟨w.heap.size + 1, 10, none⟩ = some (.slice none 0 0) := Y.out.cell 10 (by decide)
      have y11 : W9.cell? ⟨w.heap.size + 1, 11, none⟩ = some (.int .i64 0) := Y.out.cell 11 (by decide)
      have y12 : W9.cell? ⟨w.heap.size + 1, 12, none⟩ = some (.int .i64 0) := Y.out.cell 12 (by decide)
      exact bodyPost_ret (v := .tuple #[.agg #[.int .i64 0, .int .i64 0, .int .i64 0, .int .i64 0, .int .i64 0, .int .i64 0, .int .i64 0, .int .i64 0, .int .i64 0, .slice none 0 0, .slice none 0 0, .int .i64 0, .int .i64 0], .int .i64 0, .int .i64 5]) (by simp [results, Try.results38, go_sem, y0, y1, y2, y3, y4, y5, y6, y7, y8, y9, y10, y11, y12]) rfl ⟨_, rfl, res_no BF.out⟩
    · skip
      rw [t0] at c0
      have c1 := fun W => base.inB f 0 100000 W
      cases t1 : inR f 0 100000
      · skip
        rw [t1] at c1
        go_wp2_with fail
        refine (c0 _).mono ?_
        rintro e w' ⟨rfl, rfl⟩
        go_wp2_with fail
        refine (c1 _).mono ?_
        rintro e w' ⟨rfl, rfl⟩
        have x0 : w1.cell? ⟨w.heap.size + 1, 0, none⟩ = some (.int .i64 0) := X1.out.cell 0 (by decide)
        have x1 : w1.cell? ⟨w.heap.size + 1, 1, none⟩ = some (.int .i64 0) := X1.out.cell 1 (by decide)
        have x2 : w1.cell? ⟨w.heap.size + 1, 2, none⟩ = some (.int .i64 0) := X1.out.cell 2 (by decide)
        have x3 : w1.cell? ⟨w.heap.size + 1, 3, none⟩ = some (.int .i64 0) := X1.out.cell 3 (by decide)
        have x4 : w1.cell? ⟨w.heap.size + 1, 4, none⟩ = some (.int .i64 0) := X1.out.cell 4 (by decide)
        have x5 : w1.cell? ⟨w.heap.size + 1, 5, none⟩ = some (.int .i64 0) := X1.out.cell 5 (by decide)
        have x6 : w1.cell? ⟨w.heap.size + 1, 6, none⟩ = some (.int .i64 0) := X1.out.cell 6 (by decide)
        have x7 : w1.cell? ⟨w.heap.size + 1, 7, none⟩ = some (.int .i64 0) := X1.out.cell 7 (by decide)
        have x8 : w1.cell? ⟨w.heap.size + 1, 8, none⟩ = some (.int .i64 0) := X1.out.cell 8 (by decide)
        have x9 : w1.cell? ⟨w.heap.size + 1, 9, none⟩ = some (.slice none 0 0) := X1.out.cell 9 (by decide)
        have x10 : w1.cell? ⟨w.heap.size + 1, 10, none⟩ = some (.slice none 0 0) := X1.out.cell 10 (by decide)
        have x11 : w1.cell? ⟨w.heap.size + 1, 11, none⟩ = some (.int .i64 0) := X1.out.cell 11 (by decide)
        have x12 : w1.cell? ⟨w.heap.size + 1, 12, none⟩ = some (.int .i64 0) := X1.out.cell 12 (by decide)
        have f0 := X1.out.free 0
        have f1 := X1.out.free 1
        have f2 := X1.out.free 2
        have f3 := X1.out.free 3
        have f4 := X1.out.free 4
        have f5 := X1.out.free 5
        have f6 := X1.out.free 6
        have f7 := X1.out.free 7
        have f8 := X1.out.free 8
        have f9 := X1.out.free 9
        have f10 := X1.out.free 10
        have f11 := X1.out.free 11
        have f12 := X1.out.free 12
        have Y := Lib.hid (((((((((((((X1.out.set (k := 0) (by decide) (.int .i64 0)).set (k := 1) (by decide) (.int .i64 0)).set (k := 2) (by decide) (.int .i64 0)).set (k := 3) (by decide) (.int .i64 0)).set (k := 4) (by decide) (.int .i64 0)).set (k := 5) (by decide) (.int .i64 0)).set (k := 6) (by decide) (.int .i64 0)).set (k := 7) (by decide) (.int .i64 0)).set (k := 8) (by decide) (.int .i64 0)).set (k := 9) (by decide) (.slice none 0 0)).set (k := 10) (by decide) (.slice none 0 0)).set (k := 11) (by decide) (.int .i64 0)).set (k := 12) (by decide) (.int .i64 0))
        have BF := Lib.hid (show Below w.heap.size w (((((((((((((w1.setCell ⟨w.heap.size + 1, 0, none⟩ (.int .i64 0)).setCell ⟨w.heap.size + 1, 1, none⟩ (.int .i64 0)).setCell ⟨w.heap.size + 1, 2, none⟩ (.int .i64 0)).setCell ⟨w.heap.size + 1, 3, none⟩ (.int .i64 0)).setCell ⟨w.heap.size + 1, 4, none⟩ (.int .i64 0)).setCell ⟨w.heap.size + 1, 5, none⟩ (.int .i64 0)).setCell ⟨w.heap.size + 1, 6, none⟩ (.int .i64 0)).setCell ⟨w.heap.size + 1, 7, none⟩ (.int .i64 0)).setCell ⟨w.heap.size + 1, 8, none⟩ (.int .i64 0)).setCell ⟨w.heap.size + 1, 9, none⟩ (.slice none 0 0)).setCell ⟨w.heap.size + 1, 10, none⟩ (.slice none 0 0)).setCell ⟨w.heap.size + 1, 11, none⟩ (.int .i64 0)).setCell ⟨w.heap.size + 1, 12, none⟩ (.int .i64 0)) from (((((((((((((B1.out.setCell (p := ⟨w.heap.size + 1, 0, none⟩) (show w.heap.size ≤ w.heap.size + 1 by omega) (.int .i64 0)).setCell (p := ⟨w.heap.size + 1, 1, none⟩) (show w.heap.size ≤ w.heap.size + 1 by omega) (.int .i64 0)).setCell (p := ⟨w.heap.size + 1, 2, none⟩) (show w.heap.size ≤ w.heap.size + 1 by omega) (.int .i64 0)).setCell (p := ⟨w.heap.size + 1, 3, none⟩) (show w.heap.size ≤ w.heap.size + 1 by omega) (.int .i64 0)).setCell (p := ⟨w.heap.size + 1, 4, none⟩) (show w.heap.size ≤ w.heap.size + 1 by omega) (.int .i64 0)).setCell (p := ⟨w.heap.size + 1, 5, none⟩) (show w.heap.size ≤ w.heap.size + 1 by omega) (.int .i64 0)).setCell (p := ⟨w.heap.size + 1, 6, none⟩) (show w.heap.size ≤ w.heap.size + 1 by omega) (.int .i64 0)).setCell (p := ⟨w.heap.size + 1, 7, none⟩) (show w.heap.size ≤ w.heap.size + 1 by omega) (.int .i64 0)).setCell (p := ⟨w.heap.size + 1, 8, none⟩) (show w.heap.size ≤ w.heap.size + 1 by omega) (.int .i64 0)).setCell (p := ⟨w.heap.size + 1, 9, none⟩) (show w.heap.size ≤ w.heap.size + 1 by omega) (.slice none 0 0)).setCell (p := ⟨w.heap.size + 1, 10, none⟩) (show w.heap.size ≤ w.heap.size + 1 by omega) (.slice none 0 0)).setCell (p := ⟨w.heap.size + 1, 11, none⟩) (show w.heap.size ≤ w.heap.size + 1 by omega) (.int .i64 0)).setCell (p := ⟨w.heap.size + 1, 12, none⟩) (show w.heap.size ≤ w.heap.size + 1 by omega) (.int .i64 0)))
        go_wp2
        change bodyPost _ _ _ _ _ (((((((((((((w1.setCell ⟨w.heap.size + 1, 0, none⟩ (.int .i64 0)).setCell ⟨w.heap.size + 1, 1, none⟩ (.int .i64 0)).setCell ⟨w.heap.size + 1, 2, none⟩ (.int .i64 0)).setCell ⟨w.heap.size + 1, 3, none⟩ (.int .i64 0)).setCell ⟨w.heap.size + 1, 4, none⟩ (.int .i64 0)).setCell ⟨w.heap.size + 1, 5, none⟩ (.int .i64 0)).setCell ⟨w.heap.size + 1, 6, none⟩ (.int .i64 0)).setCell ⟨w.heap.size + 1, 7, none⟩ (.int .i64 0)).setCell ⟨w.heap.size + 1, 8, none⟩ (.int .i64 0)).setCell ⟨w.heap.size + 1, 9, none⟩ (.slice none 0 0)).setCell ⟨w.heap.size + 1, 10, none⟩ (.slice none 0 0)).setCell ⟨w.heap.size + 1, 11, none⟩ (.int .i64 0)).setCell ⟨w.heap.size + 1, 12, none⟩ (.int .i64 0))
        generalize ((((((((((((w1.setCell ⟨w.heap.size + 1, 0, none⟩ (.int .i64 0)).setCell ⟨w.heap.size + 1, 1, none⟩ (.int .i64 0)).setCell ⟨w.heap.size + 1, 2, none⟩ (.int .i64 0)).setCell ⟨w.heap.size + 1, 3, none⟩ (.int .i64 0)).setCell ⟨w.heap.size + 1, 4, none⟩ (.int .i64 0)).setCell ⟨w.heap.size + 1, 5, none⟩ (.int .i64 0)).setCell ⟨w.heap.size + 1, 6, none⟩ (.int .i64 0)).setCell ⟨w.heap.size + 1, 7, none⟩ (.int .i64 0)).setCell ⟨w.heap.size + 1, 8, none⟩ (.int .i64 0)).setCell ⟨w.heap.size + 1, 9, none⟩ (.slice none 0 0)).setCell ⟨w.heap.size + 1, 10, none⟩ (.slice none 0 0)).setCell ⟨w.heap.size + 1, 11, none⟩ (.int .i64 0)).setCell ⟨w.heap.size + 1, 12, none⟩ (.int .i64 0) = W9 at Y BF ⊢
        have y0 : W9.cell? ⟨w.heap.size + 1, 0, none⟩ = some (.int .i64 0) := Y.out.cell 0 (by decide)
        have y1 : W9.cell? ⟨w.heap.size + 1, 1, none⟩ = some (.int .i64 0) := Y.out.cell 1 (by decide)
        have y2 : W9.cell? ⟨w.heap.size + 1, 2, none⟩ = some (.int .i64 0) := Y.out.cell 2 (by decide)
        have y3 : W9.cell? ⟨w.heap.size + 1, 3, none⟩ = some (.int .i64 0) := Y.out.cell 3 (by decide)
        have y4 : W9.cell? ⟨w.heap.size + 1, 4, none⟩ = some (.int .i64 0) := Y.out.cell 4 (by decide)
        have y5 : W9.cell? ⟨w.heap.size + 1, 5, none⟩ = some (.int .i64 0) := Y.out.cell 5 (by decide)
        have y6 : W9.cell? ⟨w.heap.size + 1, 6, none⟩ = some (.int .i64 0) := Y.out.cell 6 (by decide)
        have y7 : W9.cell? ⟨w.heap.size + 1, 7, none⟩ = some (.int .i64 0) := Y.out.cell 7 (by decide)
        have y8 : W9.cell? ⟨w.heap.size + 1, 8, none⟩ = some (.int .i64 0) := Y.out.cell 8 (by decide)
        have y9 : W9.cell? ⟨w.heap.size + 1, 9, none⟩ = some (.slice none 0 0) := Y.out.cell 9 (by decide)
        have y10 : W9.cell? ⟨w.heap.size + 1, 10, none⟩ = some (.slice none 0 0) := Y.out.cell 10 (by decide)
        have y11 : W9.cell? ⟨w.heap.size + 1, 11, none⟩ = some (.int .i64 0) := Y.out.cell 11 (by decide)
        have y12 : W9.cell? ⟨w.heap.size + 1, 12, none⟩ = some (.int .i64 0) := Y.out.cell 12 (by decide)
        exact bodyPost_ret (v := .tuple #[.agg #[.int .i64 0, .int .i64 0, .int .i64 0, .int .i64 0, .int .i64 0, .int .i64 0, .int .i64 0, .int .i64 0, .int .i64 0, .slice none 0 0, .slice none 0 0, .int .i64 0, .int .i64 0], .int .i64 0, .int .i64 5]) (by simp [results, Try.results38, go_sem, y0, y1, y2, y3, y4, y5, y6, y7, y8, y9, y10, y11, y12]) rfl ⟨_, rfl, res_no BF.out⟩
      · skip
        rw [t1] at c1
        have c2 := fun W => base.inB g 0 60 W
        cases t2 : inR g 0 60
        · skip
          rw [t2] at c2
          go_wp2_with fail
          refine (c0 _).mono ?_
          rintro e w' ⟨rfl, rfl⟩
          go_wp2_with fail
          refine (c1 _).mono ?_
          rintro e w' ⟨rfl, rfl⟩
          go_wp2_with fail
          refine (c2 _).mono ?_
          rintro e w' ⟨rfl, rfl⟩
          have x0 : w1.cell? ⟨w.heap.size + 1, 0, none⟩ = some (.int .i64 0) := X1.out.cell 0 (by decide)
          have x1 : w1.cell? ⟨w.heap.size + 1, 1, none⟩ = some (.int .i64 0) := X1.out.cell 1 (by decide)
          have x2 : w1.cell? ⟨w.heap.size + 1, 2, none⟩ = some (.int .i64 0) := X1.out.cell 2 (by decide)
          have x3 : w1.cell? ⟨w.heap.size + 1, 3, none⟩ = some (.int .i64 0) := X1.out.cell 3 (by decide)
          have x4 : w1.cell? ⟨w.heap.size + 1, 4, none⟩ = some (.int .i64 0) := X1.out.cell 4 (by decide)
          have x5 : w1.cell? ⟨w.heap.size + 1, 5, none⟩ = some (.int .i64 0) := X1.out.cell 5 (by decide)
          have x6 : w1.cell? ⟨w.heap.size + 1, 6, none⟩ = some (.int .i64 0) := X1.out.cell 6 (by decide)
          have x7 : w1.cell? ⟨w.heap.size + 1, 7, none⟩ = some (.int .i64 0) := X1.out.cell 7 (by decide)
          have x8 : w1.cell? ⟨w.heap.size + 1, 8, none⟩ = some (.int .i64 0) := X1.out.cell 8 (by decide)
          have x9 : w1.cell? ⟨w.heap.size + 1, 9, none⟩ = some (.slice none 0 0) := X1.out.cell 9 (by decide)
          have x10 : w1.cell? ⟨w.heap.size + 1, 10, none⟩ = some (.slice none 0 0) := X1.out.cell 10 (by decide)
          have x11 : w1.cell? ⟨w.heap.size + 1, 11, none⟩ = some (.int .i64 0) := X1.out.cell 11 (by decide)
          have x12 : w1.cell? ⟨w.heap.size + 1, 12, none⟩ = some (.int .i64 0) := X1.out.cell 12 (by decide)
          have f0 := X1.out.free 0
          have f1 := X1.out.free 1
          have f2 := X1.out.free 2
          have f3 := X1.out.free 3
          have f4 := X1.out.free 4
          have f5 := X1.out.free 5
          have f6 := X1.out.free 6
          have f7 := X1.out.free 7
          have f8 := X1.out.free 8
          have f9 := X1.out.free 9
          have f10 := X1.out.free 10
          have f11 := X1.out.free 11
          have f12 := X1.out.free 12
          have Y := Lib.hid (((((((((((((X1.out.set (k := 0) (by decide) (.int .i64 0)).set (k := 1) (by decide) (.int .i64 0)).set (k := 2) (by decide) (.int .i64 0)).set (k := 3) (by decide) (.int .i64 0)).set (k := 4) (by decide) (.int .i64 0)).set (k := 5) (by decide) (.int .i64 0)).set (k := 6) (by decide) (.int .i64 0)).set (k := 7) (by decide) (.int .i64 0)).set (k := 8) (by decide) (.int .i64 0)).set (k := 9) (by decide) (.slice none 0 0)).set (k := 10) (by decide) (.slice none 0 0)).set (k := 11) (by decide) (.int .i64 0)).set (k := 12) (by decide) (.int .i64 0))
          have BF := Lib.hid (show Below w.heap.size w (((((((((((((w1.setCell ⟨w.heap.size + 1, 0, none⟩ (.int .i64 0)).setCell ⟨w.heap.size + 1, 1, none⟩ (.int .i64 0)).setCell ⟨w.heap.size + 1, 2, none⟩ (.int .i64 0)).setCell ⟨w.heap.size + 1, 3, none⟩ (.int .i64 0)).setCell ⟨w.heap.size + 1, 4, none⟩ (.int .i64 0)).setCell ⟨w.heap.size + 1, 5, none⟩ (.int .i64 0)).setCell ⟨w.heap.size + 1, 6, none⟩ (.int .i64 0)).setCell ⟨w.heap.size + 1, 7, none⟩ (.int .i64 0)).setCell ⟨w.heap.size + 1, 8, none⟩ (.int .i64 0)).setCell ⟨w.heap.size + 1, 9, none⟩ (.slice none 0 0)).setCell ⟨w.heap.size + 1, 10, none⟩ (.slice none 0 0)).setCell ⟨w.heap.size + 1, 11, none⟩ (.int .i64 0)).setCell ⟨w.heap.size + 1, 12, none⟩ (.int .i64 0)) from (((((((((((((B1.out.setCell (p := ⟨w.heap.size + 1, 0, none⟩) (show w.heap.size ≤ w.heap.size + 1 by omega) (.int .i64 0)).setCell (p := ⟨w.heap.size + 1, 1, none⟩) (show w.heap.size ≤ w.heap.size + 1 by omega) (.int .i64 0)).setCell (p := ⟨w.heap.size + 1, 2, none⟩) (show w.heap.size ≤ w.heap.size + 1 by omega) (.int .i64 0)).setCell (p := ⟨w.heap.size + 1, 3, none⟩) (show w.heap.size ≤ w.heap.size + 1 by omega) (.int .i64 0)).setCell (p := ⟨w.heap.size + 1, 4, none⟩) (show w.heap.size ≤ w.heap.size + 1 by omega) (.int .i64 0)).setCell (p := ⟨w.heap.size + 1, 5, none⟩) (show w.heap.size ≤ w.heap.size + 1 by omega) (.int .i64 0)).setCell (p := ⟨w.heap.size + 1, 6, none⟩) (show w.heap.size ≤ w.heap.size + 1 by omega) (.int .i64 0)).setCell (p := ⟨w.heap.size + 1, 7, none⟩) (show w.heap.size ≤ w.heap.size + 1 by omega) (.int .i64 0)).setCell (p := ⟨w.heap.size + 1, 8, none⟩) (show w.heap.size ≤ w.heap.size + 1 by omega) (.int .i64 0)).setCell (p := ⟨w.heap.size + 1, 9, none⟩) (show w.heap.size ≤ w.heap.size + 1 by omega) (.slice none 0 0)).setCell (p := ⟨w.heap.size + 1, 10, none⟩) (show w.heap.size ≤ w.heap.size + 1 by omega) (.slice none 0 0)).setCell (p := ⟨w.heap.size + 1, 11, none⟩) (show w.heap.size ≤ w.heap.size + 1 by omega) (.int .i64 0)).setCell (p := ⟨w.heap.size + 1, 12, none⟩) (show w.heap.size ≤ w.heap.size + 1 by omega) (.int .i64 0)))
          go_wp2
          change bodyPost _ _ _ _ _ (((((((((((((w1.setCell ⟨w.heap.size + 1, 0, none⟩ (.int .i64 0)).setCell ⟨w.heap.size + 1, 1, none⟩ (.int .i64 0)).setCell ⟨w.heap.size + 1, 2, none⟩ (.int .i64 0)).setCell ⟨w.heap.size + 1, 3, none⟩ (.int .i64 0)).setCell ⟨w.heap.size + 1, 4, none⟩ (.int .i64 0)).setCell ⟨w.heap.size + 1, 5, none⟩ (.int .i64 0)).setCell ⟨w.heap.size + 1, 6, none⟩ (.int .i64 0)).setCell ⟨w.heap.size + 1, 7, none⟩ (.int .i64 0)).setCell ⟨w.heap.size + 1, 8, none⟩ (.int .i64 0)).setCell ⟨w.heap.size + 1, 9, none⟩ (.slice none 0 0)).setCell ⟨w.heap.size + 1, 10, none⟩ (.slice none 0 0)).setCell ⟨w.heap.size + 1, 11, none⟩ (.int .i64 0)).setCell ⟨w.heap.size + 1, 12, none⟩ (.int .i64 0))
          generalize ((((((((((((w1.setCell ⟨w.heap.size + 1, 0, none⟩ (.int .i64 0)).setCell ⟨w.heap.size + 1, 1, none⟩ (.int .i64 0)).setCell ⟨w.heap.size + 1, 2, none⟩ (.int .i64 0)).setCell ⟨w.heap.size + 1, 3, none⟩ (.int .i64 0)).setCell ⟨w.heap.size + 1, 4, none⟩ (.int .i64 0)).setCell ⟨w.heap.size + 1, 5, none⟩ (.int .i64 0)).setCell ⟨w.heap.size + 1, 6, none⟩ (.int .i64 0)).setCell ⟨w.heap.size + 1, 7, none⟩ (.int .i64 0)).setCell ⟨w.heap.size + 1, 8, none⟩ (.int .i64 0)).setCell ⟨w.heap.size + 1, 9, none⟩ (.slice none 0 0)).setCell ⟨w.heap.size + 1, 10, none⟩ (.slice none 0 0)).setCell ⟨w.heap.size + 1, 11, none⟩ (.int .i64 0)).setCell ⟨w.heap.size + 1, 12, none⟩ (.int .i64 0) = W9 at Y BF ⊢
          have y0 : W9.cell? ⟨w.heap.size + 1, 0, none⟩ = some (.int .i64 0) := Y.out.cell 0 (by decide)
          have y1 : W9.cell? ⟨w.heap.size + 1, 1, none⟩ = some (.int .i64 0) := Y.out.cell 1 (by decide)
          have y2 : W9.cell? ⟨w.heap.size + 1, 2, none⟩ = some (.int .i64 0) := Y.out.cell 2 (by decide)
          have y3 : W9.cell? ⟨w.heap.size + 1, 3, none⟩ = some (.int .i64 0) := Y.out.cell 3 (by decide)
          have y4 : W9.cell? ⟨w.heap.size + 1, 4, none⟩ = some (.int .i64 0) := Y.out.cell 4 (by decide)
          have y5 : W9.cell? ⟨w.heap.size + 1, 5, none⟩ = some (.int .i64 0) := Y.out.cell 5 (by decide)
          have y6 : W9.cell? ⟨w.heap.size + 1, 6, none⟩ = some (.int .i64 0) := Y.out.cell 6 (by decide)
          have y7 : W9.cell? ⟨w.heap.size + 1, 7, none⟩ = some (.int .i64 0) := Y.out.cell 7 (by decide)
          have y8 : W9.cell? ⟨w.heap.size + 1, 8, none⟩ = some (.int .i64 0) := Y.out.cell 8 (by decide)
          have y9 : W9.cell? ⟨w.heap.size + 1, 9, none⟩ = some (.slice none 0 0) := Y.out.cell 9 (by decide)
          have y10 : W9.cell? ⟨w.heap.size + 1, 10, none⟩ = some (.slice none 0 0) := Y.out.cell 10 (by decide)
          have y11 : W9.cell? ⟨w.heap.size + 1, 11, none⟩ = some (.int .i64 0) := Y.out.cell 11 (by decide)
          have y12 : W9.cell? ⟨w.heap.size + 1, 12, none⟩ = some (.int .i64 0) := Y.out.cell 12 (by decide)
          exact bodyPost_ret (v := .tuple #[.agg #[.int .i64 0, .int .i64 0, .int .i64 0, .int .i64 0, .int .i64 0, .int .i64 0, .int .i64 0, .int .i64 0, .int .i64 0, .slice none 0 0, .slice none 0 0, .int .i64 0, .int .i64 0], .int .i64 0, .int .i64 5]) (by simp [results, Try.results38, go_sem, y0, y1, y2, y3, y4, y5, y6, y7, y8, y9, y10, y11, y12]) rfl ⟨_, rfl, res_no BF.out⟩
        · skip
          rw [t2] at c2
          rw [t0, t1, t2] at ht
          cases ht
  · have OKV := ord.ok_iff.1 hk
    rw [hk] at CK
    have HT := Lib.hid ht
    have ht' := ht
    simp only [Bool.and_eq_true] at ht'
    obtain ⟨⟨HT0, HT1⟩, HT2⟩ := ht'
    have c0 := fun W => base.dayS d W
    rw [HT0] at c0
    have c1 := fun W => base.inB f 0 100000 W
    rw [HT1] at c1
    have c2 := fun W => base.inB g 0 60 W
    rw [HT2] at c2
    have PVh := Lib.hid OKV.pv
    have p8 := OKV.p1
    clear OKV hk ht HT0 HT1 HT2
    go_enter Try.func38, Try.ntmps38
    go_wp2_with fail
    generalize (w.alloc (.cells #[.int .i64 s.id, .int .i64 s.co, .int .i64 s.me, .int .i64 s.cu, .int .i64 s.da, .int .i64 s.nn, .int .i64 s.ra, .int .i64 s.nu, .int .i64 s.de, .slice (some ⟨gi, 0, none⟩) l.length ci, .slice (some ⟨gp, 0, none⟩) p.length cp, .int .i64 s.op, .int .i64 s.up] 31)).alloc (.cells #[.int .i64 0, .int .i64 0, .int .i64 0, .int .i64 0, .int .i64 0, .int .i64 0, .int .i64 0, .int .i64 0, .int .i64 0, .slice none 0 0, .slice none 0 0, .int .i64 0, .int .i64 0] 31) = W2 at B0 O0 X0 z0 CK ⊢
    refine CK.mono ?_
    rintro e w1 ⟨rfl, b1⟩
    have B1 := Lib.hid (B0.out.trans (b1.mono B0.out.size))
    have O1 := Lib.hid (O0.out.keep (b1.block w.heap.size (by omega)))
    have X1 := Lib.hid (X0.out.below b1 X0.out.lt)
    have z1 := b1.size
    clear b1 O0 X0 B0
    go_wp2_with fail
    refine (c0 _).mono ?_
    rintro e w' ⟨rfl, rfl⟩
    go_wp2_with fail
    refine (c1 _).mono ?_
    rintro e w' ⟨rfl, rfl⟩
    go_wp2_with fail
    refine (c2 _).mono ?_
    rintro e w' ⟨rfl, rfl⟩
    have CC := copS w1 B s ci gi l cp gp p gs cs (L.out.below B1.out) hl hn HM.out
    obtain ⟨u0, u1, u2, u3, u4, u5, u6, u7, u8, u9, u10, u11, u12⟩ := O1.out
    go_wp2_with fail
    refine CC.mono ?_
    rintro e w2 ⟨v, rfl, ci', gi', cp', gp', gs', cs', rfl, ol, a1, a2, a3, a4, ne, b2⟩
    have B2 := Lib.hid ((B1.out.trans (b2.mono B1.out.size)).alloc (B1.out.trans (b2.mono B1.out.size)).size (.cells #[.int .i64 s.id, .int .i64 s.co, .int .i64 s.me, .int .i64 s.cu, .int .i64 s.da, .int .i64 s.nn, .int .i64 s.ra, .int .i64 s.nu, .int .i64 s.de, .slice (some ⟨gi', 0, none⟩) l.length ci', .slice (some ⟨gp', 0, none⟩) p.length cp', .int .i64 s.op, .int .i64 s.up] 31))
    have al := fun c hc => Below.heap_alloc w2 (.cells #[.int .i64 s.id, .int .i64 s.co, .int .i64 s.me, .int .i64 s.cu, .int .i64 s.da, .int .i64 s.nn, .int .i64 s.ra, .int .i64 s.nu, .int .i64 s.de, .slice (some ⟨gi', 0, none⟩) l.length ci', .slice (some ⟨gp', 0, none⟩) p.length cp', .int .i64 s.op, .int .i64 s.up] 31) c hc
    have N2 := Lib.hid (Blk.new w2 #[.int .i64 s.id, .int .i64 s.co, .int .i64 s.me, .int .i64 s.cu, .int .i64 s.da, .int .i64 s.nn, .int .i64 s.ra, .int .i64 s.nu, .int .i64 s.de, .slice (some ⟨gi', 0, none⟩) l.length ci', .slice (some ⟨gp', 0, none⟩) p.length cp', .int .i64 s.op, .int .i64 s.up] 31 13 rfl)
    have NO2 := Lib.hid (OB.new w2 s (some ⟨gi', 0, none⟩) l.length ci' (some ⟨gp', 0, none⟩) p.length cp' 31)
    have L2 := Lib.hid (ol.below ((Below.refl w2.heap.size w2).alloc (Nat.le_refl _) (.cells #[.int .i64 s.id, .int .i64 s.co, .int .i64 s.me, .int .i64 s.cu, .int .i64 s.da, .int .i64 s.nn, .int .i64 s.ra, .int .i64 s.nu, .int .i64 s.de, .slice (some ⟨gi', 0, none⟩) l.length ci', .slice (some ⟨gp', 0, none⟩) p.length cp', .int .i64 s.op, .int .i64 s.up] 31)))
    have X2 := Lib.hid ((X1.out.below b2 X1.out.lt).keep (w' := w2.alloc (.cells #[.int .i64 s.id, .int .i64 s.co, .int .i64 s.me, .int .i64 s.cu, .int .i64 s.da, .int .i64 s.nn, .int .i64 s.ra, .int .i64 s.nu, .int .i64 s.de, .slice (some ⟨gi', 0, none⟩) l.length ci', .slice (some ⟨gp', 0, none⟩) p.length cp', .int .i64 s.op, .int .i64 s.up] 31)) (al _ (X1.out.below b2 X1.out.lt).lt) (by simp))
    have z2 := b2.size
    have z2' : (w2.alloc (.cells #[.int .i64 s.id, .int .i64 s.co, .int .i64 s.me, .int .i64 s.cu, .int .i64 s.da, .int .i64 s.nn, .int .i64 s.ra, .int .i64 s.nu, .int .i64 s.de, .slice (some ⟨gi', 0, none⟩) l.length ci', .slice (some ⟨gp', 0, none⟩) p.length cp', .int .i64 s.op, .int .i64 s.up] 31)).heap.size = w2.heap.size + 1 := by simp only [sz_al]
    have DD := Lib.hid (show w.heap.size + 1 + 1 ≤ w1.heap.size ∧ w1.heap.size ≤ gi' ∧ gi' < w2.heap.size ∧ w1.heap.size ≤ gp' ∧ gp' < w2.heap.size ∧ gi' ≠ gp' from ⟨by omega, a1, a2, a3, a4, ne⟩)
    clear b2 al ol a1 a2 a3 a4 ne CC O1 X1 B1 u0 u1 u2 u3 u4 u5 u6 u7 u8 u9 u10 u11 u12 c0 c1 c2
    have m1 := L2.out.plans.room
    obtain ⟨n, hnz⟩ : ∃ n, n = p.length := ⟨_, rfl⟩
    go_wp2_with fail
    obtain ⟨nb, hnb⟩ : ∃ nb, nb = w2.heap.size := ⟨_, rfl⟩
    have HNB := Lib.hid hnb
    rw [← hnb] at N2 NO2 z2' ⊢
    generalize w2.alloc (.cells #[.int .i64 s.id, .int .i64 s.co, .int .i64 s.me, .int .i64 s.cu, .int .i64 s.da, .int .i64 s.nn, .int .i64 s.ra, .int .i64 s.nu, .int .i64 s.de, .slice (some ⟨gi', 0, none⟩) l.length ci', .slice (some ⟨gp', 0, none⟩) p.length cp', .int .i64 s.op, .int .i64 s.up] 31) = W3 at B2 N2 NO2 L2 X2 z2' ⊢
    clear hnb
    have HNZ := Lib.hid hnz
    rw [← hnz] at m1 p8
    clear hnz
    have hgp : gp' < W3.heap.size := by have := DD.out; have := HNB.out; omega
    have hne : nb ≠ gp' := by have := DD.out; have := HNB.out; omega
    have bl : nb < W3.heap.size := by omega
    go_loopw [12, 13] (fun a i wr => ∃ (k : Nat) (gs3 cs3 : Nat → Nat), k ≤ n ∧ i = .int .i64 k ∧ a = .int .i64 (wk.fs (stL d f g) 0 p k) ∧ Pls wr (some ⟨gp', 0, none⟩) cp' gp' (wk.fw (stL d f g) 0 p k) gs3 cs3 ∧ base.Turned gp' W3 wr ∧ ∀ j, j < n → (j < k → W3.heap.size ≤ gs3 j) ∧ (k ≤ j → gs3 j = gs' j)) (fun _ i _ => n - (intOf i).toNat)
    case atStart => exact ⟨0, gs', cs', by omega, rfl, by rw [wk.fs_zero], by rw [wk.fw_zero]; exact L2.out.plans, base.Turned.refl _ _, fun j _ => ⟨fun h => by omega, fun _ => rfl⟩⟩
    case round =>
      obtain ⟨k, gs3, cs3, hk, rfl, rfl, hP, hT, hG⟩ := hrel
      have PP := Lib.hid hP
      have TT := Lib.hid hT
      have GG := Lib.hid hG
      have SB := lt_fs d f g (p := p) k (by rw [← HNZ.out]; exact hk)
      obtain ⟨S, hS⟩ : ∃ S, S = wk.fs (stL d f g) 0 p k := ⟨_, rfl⟩
      rw [← hS] at SB ⊢
      have HS := Lib.hid hS
      obtain ⟨s0, s1⟩ := SB
      have s1 : S ≤ 19200000 := by omega
      have y10 := (NO2.out.keep (hT.2 nb hne bl)).c10
      rw [← HNZ.out] at y10
      clear hS
      by_cases hlt : k < n
      · have HLT := Lib.hid (show k < p.length from by rw [← HNZ.out]; exact hlt)
        have FL := Lib.hid (show k < (wk.fw (stL d f g) 0 p k).length from by rw [wk.fw_len]; exact HLT.out)
        have NK : nth (wk.fw (stL d f g) 0 p k) k = nth p k := wk.fw_get [] _ _ HLT.out
        have q1 := hP.cells k FL.out
        have q2 := hP.rows k FL.out
        rw [NK] at q1 q2
        have OK : base.ltOk (nth p k) d f g = true := by unfold base.ltOk; rw [← Bool.and_assoc, ← Bool.and_assoc, Bool.and_assoc, Bool.and_assoc, ← Bool.and_assoc (inR d 0 100000), HT.out, Bool.and_true]; exact PVh.out k HLT.out
        have NI := ltN_in (nth p k) d f g
        have FS : wk.fs (stL d f g) 0 p (k + 1) = S + base.ltN (nth p k) d f g := by rw [wk.fs_succ [] _ _ HLT.out, ← HS.out]; rfl
        have FW : wk.fw (stL d f g) 0 p (k + 1) = (wk.fw (stL d f g) 0 p k).set k (base.ltL (nth p k) d f g) := by rw [wk.fw_succ [] _ _ HLT.out]; rfl
        have C := base.ltS d f g wr (cs3 k) (gs3 k) (nth p k) q2 (Nat.le_trans (show (nth p k).length ≤ 24 from (pl.pv_iff.1 (PVh.out k HLT.out)).1) (by omega))
        obtain ⟨P, hP'⟩ : ∃ P, P = base.ltL (nth p k) d f g := ⟨_, rfl⟩
        obtain ⟨M, hM⟩ : ∃ M, M = base.ltN (nth p k) d f g := ⟨_, rfl⟩
        rw [← hP'] at C FW
        rw [← hM] at C FS NI
        rw [OK] at C
        have FSh := Lib.hid FS
        have FWh := Lib.hid FW
        have CH := Lib.hid C
        have LGK := Lib.hid (show gs3 k < wr.heap.size from hP.lt k FL.out)
        clear FS FW C hP' hM OK NK q2 hP hT hG
        generalize (nth p k).length = ln at q1 CH
        generalize gs3 k = gk at q1 CH
        generalize cs3 k = ck at q1 CH
        obtain ⟨m0, m9⟩ := NI
        have z1' : (k : Int) < (n : Int) := by omega
        have v1 : decide (k < n) = true := by simp; omega
        go_wp2_with fail
        refine CH.out.mono ?_
        rintro e w4 ⟨a1, c1, g1, rfl, r1, -, b1, o1⟩
        obtain ⟨rfl, l1, k1⟩ := o1 rfl
        have P1 := Lib.hid (PP.out.below b1)
        have R1 := Lib.hid r1
        have T1 := Lib.hid (pls.Turned.of TT.out b1 (Nat.le_of_lt (Nat.lt_of_lt_of_le hgp TT.out.1.size)))
        have y10 := (NO2.out.keep (T1.out.2 nb hne bl)).c10
        rw [← HNZ.out] at y10
        have x1 := P1.out.cells k FL.out
        have f1 := P1.out.free (by have := FL.out; omega) k
        have L1 := Lib.hid (show wr.heap.size ≤ g1 ∧ g1 < w4.heap.size from ⟨l1, k1⟩)
        clear r1 b1 o1 q1 CH l1 k1
        go_wp2
        go_roundw
        case rel =>
          have hw := TT.out.1.size
          refine ⟨k + 1, pls.up gs3 k g1, pls.up cs3 k c1, by omega, by go_num, by rw [FSh.out], ?_, pls.Turned.trans T1.out ((base.Turned.refl gp' w4).set k _), fun j hj => ⟨fun h => ?_, fun h => ?_⟩⟩
          · rw [show wk.fw (stL d f g) 0 p (k + 1) = (wk.fw (stL d f g) 0 p k).set k P from FWh.out]
            exact P1.out.set FL.out R1.out L1.out.2 (by have := L1.out; omega) (fun i hi hne' => by have := PP.out.lt i hi; have := L1.out; omega)
          · unfold pls.up
            by_cases e : j = k
            · rw [if_pos e]; have := L1.out; omega
            · rw [if_neg e]; exact (GG.out j hj).1 (by omega)
          · unfold pls.up
            rw [if_neg (by omega)]; exact (GG.out j hj).2 (by omega)
        case measure => simp [intOf]; omega
      · have v1 : decide (k < n) = false := by simp; omega
        obtain rfl : k = n := by omega
        have v2 : decide (k < p.length) = false := by have := HNZ.out; simp; omega
        have SE := Lib.hid (show S = ltNs p d f g from by rw [HS.out]; unfold ltNs; rw [← HNZ.out])
        have PE := Lib.hid (show wk.fw (stL d f g) 0 p k = ltLs p d f g from by unfold ltLs; rw [← HNZ.out])
        have T := hT
        have pl4 := hP
        rw [PE.out] at pl4
        have fr : ∀ i, i < p.length → W3.heap.size ≤ gs3 i := fun i hi => (GG.out i (by rw [HNZ.out]; exact hi)).1 (by rw [HNZ.out]; exact hi)
        clear hP hT hG y10
        have B5 := Lib.hid (B2.out.trans (T.1.mono (show w.heap.size ≤ gp' by have := DD.out; omega)))
        have X5 := Lib.hid (X2.out.keep (w' := wr) (T.2 _ (by have := DD.out; omega) X2.out.lt) T.1.size)
        have N5 := Lib.hid (N2.out.keep (w' := wr) (T.2 _ (by have := DD.out; have := HNB.out; omega) N2.out.lt) T.1.size)
        have PLEN := Lib.hid (show (ltLs p d f g).length = p.length from wk.fw_len _ _ _ _)
        have L5 := Lib.hid (show OL wr (w.heap.size + 1 + 1) l (ltLs p d f g) (some ⟨gi', 0, none⟩) ci' gi' (some ⟨gp', 0, none⟩) cp' gp' gs3 cs3 from
          ⟨L2.out.items.keep fun hh => T.2 gi' (by have := DD.out; omega) (L2.out.gi1 hh), pl4, fun _ => by have := DD.out; omega, fun _ => by have := DD.out; omega, fun i hi => by have := fr i (by rw [← PLEN.out]; exact hi); have := DD.out; have := HNB.out; omega, fun _ _ => by have := DD.out; omega, fun i hi _ => by have := fr i (by rw [← PLEN.out]; exact hi); have := DD.out; have := HNB.out; omega⟩)
        clear T pl4 fr B2 N2 NO2 L2 X2
        have x0 : wr.cell? ⟨w.heap.size + 1, 0, none⟩ = some (.int .i64 0) := X5.out.cell 0 (by decide)
        have x1 : wr.cell? ⟨w.heap.size + 1, 1, none⟩ = some (.int .i64 0) := X5.out.cell 1 (by decide)
        have x2 : wr.cell? ⟨w.heap.size + 1, 2, none⟩ = some (.int .i64 0) := X5.out.cell 2 (by decide)
        have x3 : wr.cell? ⟨w.heap.size + 1, 3, none⟩ = some (.int .i64 0) := X5.out.cell 3 (by decide)
        have x4 : wr.cell? ⟨w.heap.size + 1, 4, none⟩ = some (.int .i64 0) := X5.out.cell 4 (by decide)
        have x5 : wr.cell? ⟨w.heap.size + 1, 5, none⟩ = some (.int .i64 0) := X5.out.cell 5 (by decide)
        have x6 : wr.cell? ⟨w.heap.size + 1, 6, none⟩ = some (.int .i64 0) := X5.out.cell 6 (by decide)
        have x7 : wr.cell? ⟨w.heap.size + 1, 7, none⟩ = some (.int .i64 0) := X5.out.cell 7 (by decide)
        have x8 : wr.cell? ⟨w.heap.size + 1, 8, none⟩ = some (.int .i64 0) := X5.out.cell 8 (by decide)
        have x9 : wr.cell? ⟨w.heap.size + 1, 9, none⟩ = some (.slice none 0 0) := X5.out.cell 9 (by decide)
        have x10 : wr.cell? ⟨w.heap.size + 1, 10, none⟩ = some (.slice none 0 0) := X5.out.cell 10 (by decide)
        have x11 : wr.cell? ⟨w.heap.size + 1, 11, none⟩ = some (.int .i64 0) := X5.out.cell 11 (by decide)
        have x12 : wr.cell? ⟨w.heap.size + 1, 12, none⟩ = some (.int .i64 0) := X5.out.cell 12 (by decide)
        have f0 := X5.out.free 0
        have f1 := X5.out.free 1
        have f2 := X5.out.free 2
        have f3 := X5.out.free 3
        have f4 := X5.out.free 4
        have f5 := X5.out.free 5
        have f6 := X5.out.free 6
        have f7 := X5.out.free 7
        have f8 := X5.out.free 8
        have f9 := X5.out.free 9
        have f10 := X5.out.free 10
        have f11 := X5.out.free 11
        have f12 := X5.out.free 12
        have n0 : wr.cell? ⟨nb, 0, none⟩ = some (.int .i64 s.id) := N5.out.cell 0 (by decide)
        have n1 : wr.cell? ⟨nb, 1, none⟩ = some (.int .i64 s.co) := N5.out.cell 1 (by decide)
        have n2 : wr.cell? ⟨nb, 2, none⟩ = some (.int .i64 s.me) := N5.out.cell 2 (by decide)
        have n3 : wr.cell? ⟨nb, 3, none⟩ = some (.int .i64 s.cu) := N5.out.cell 3 (by decide)
        have n4 : wr.cell? ⟨nb, 4, none⟩ = some (.int .i64 s.da) := N5.out.cell 4 (by decide)
        have n5 : wr.cell? ⟨nb, 5, none⟩ = some (.int .i64 s.nn) := N5.out.cell 5 (by decide)
        have n6 : wr.cell? ⟨nb, 6, none⟩ = some (.int .i64 s.ra) := N5.out.cell 6 (by decide)
        have n7 : wr.cell? ⟨nb, 7, none⟩ = some (.int .i64 s.nu) := N5.out.cell 7 (by decide)
        have n8 : wr.cell? ⟨nb, 8, none⟩ = some (.int .i64 s.de) := N5.out.cell 8 (by decide)
        have n9 : wr.cell? ⟨nb, 9, none⟩ = some (.slice (some ⟨gi', 0, none⟩) l.length ci') := N5.out.cell 9 (by decide)
        have n10 : wr.cell? ⟨nb, 10, none⟩ = some (.slice (some ⟨gp', 0, none⟩) p.length cp') := N5.out.cell 10 (by decide)
        have n11 : wr.cell? ⟨nb, 11, none⟩ = some (.int .i64 s.op) := N5.out.cell 11 (by decide)
        have n12 : wr.cell? ⟨nb, 12, none⟩ = some (.int .i64 s.up) := N5.out.cell 12 (by decide)
        have Y := Lib.hid (((((((((((((X5.out.set (k := 0) (by decide) (.int .i64 s.id)).set (k := 1) (by decide) (.int .i64 s.co)).set (k := 2) (by decide) (.int .i64 s.me)).set (k := 3) (by decide) (.int .i64 s.cu)).set (k := 4) (by decide) (.int .i64 s.da)).set (k := 5) (by decide) (.int .i64 s.nn)).set (k := 6) (by decide) (.int .i64 s.ra)).set (k := 7) (by decide) (.int .i64 s.nu)).set (k := 8) (by decide) (.int .i64 s.de)).set (k := 9) (by decide) (.slice (some ⟨gi', 0, none⟩) l.length ci')).set (k := 10) (by decide) (.slice (some ⟨gp', 0, none⟩) p.length cp')).set (k := 11) (by decide) (.int .i64 s.op)).set (k := 12) (by decide) (.int .i64 s.up))
        have BF := Lib.hid (show Below w.heap.size w (((((((((((((wr.setCell ⟨w.heap.size + 1, 0, none⟩ (.int .i64 s.id)).setCell ⟨w.heap.size + 1, 1, none⟩ (.int .i64 s.co)).setCell ⟨w.heap.size + 1, 2, none⟩ (.int .i64 s.me)).setCell ⟨w.heap.size + 1, 3, none⟩ (.int .i64 s.cu)).setCell ⟨w.heap.size + 1, 4, none⟩ (.int .i64 s.da)).setCell ⟨w.heap.size + 1, 5, none⟩ (.int .i64 s.nn)).setCell ⟨w.heap.size + 1, 6, none⟩ (.int .i64 s.ra)).setCell ⟨w.heap.size + 1, 7, none⟩ (.int .i64 s.nu)).setCell ⟨w.heap.size + 1, 8, none⟩ (.int .i64 s.de)).setCell ⟨w.heap.size + 1, 9, none⟩ (.slice (some ⟨gi', 0, none⟩) l.length ci')).setCell ⟨w.heap.size + 1, 10, none⟩ (.slice (some ⟨gp', 0, none⟩) p.length cp')).setCell ⟨w.heap.size + 1, 11, none⟩ (.int .i64 s.op)).setCell ⟨w.heap.size + 1, 12, none⟩ (.int .i64 s.up)) from (((((((((((((B5.out.setCell (p := ⟨w.heap.size + 1, 0, none⟩) (show w.heap.size ≤ w.heap.size + 1 by omega) (.int .i64 s.id)).setCell (p := ⟨w.heap.size + 1, 1, none⟩) (show w.heap.size ≤ w.heap.size + 1 by omega) (.int .i64 s.co)).setCell (p := ⟨w.heap.size + 1, 2, none⟩) (show w.heap.size ≤ w.heap.size + 1 by omega) (.int .i64 s.me)).setCell (p := ⟨w.heap.size + 1, 3, none⟩) (show w.heap.size ≤ w.heap.size + 1 by omega) (.int .i64 s.cu)).setCell (p := ⟨w.heap.size + 1, 4, none⟩) (show w.heap.size ≤ w.heap.size + 1 by omega) (.int .i64 s.da)).setCell (p := ⟨w.heap.size + 1, 5, none⟩) (show w.heap.size ≤ w.heap.size + 1 by omega) (.int .i64 s.nn)).setCell (p := ⟨w.heap.size + 1, 6, none⟩) (show w.heap.size ≤ w.heap.size + 1 by omega) (.int .i64 s.ra)).setCell (p := ⟨w.heap.size + 1, 7, none⟩) (show w.heap.size ≤ w.heap.size + 1 by omega) (.int .i64 s.nu)).setCell (p := ⟨w.heap.size + 1, 8, none⟩) (show w.heap.size ≤ w.heap.size + 1 by omega) (.int .i64 s.de)).setCell (p := ⟨w.heap.size + 1, 9, none⟩) (show w.heap.size ≤ w.heap.size + 1 by omega) (.slice (some ⟨gi', 0, none⟩) l.length ci')).setCell (p := ⟨w.heap.size + 1, 10, none⟩) (show w.heap.size ≤ w.heap.size + 1 by omega) (.slice (some ⟨gp', 0, none⟩) p.length cp')).setCell (p := ⟨w.heap.size + 1, 11, none⟩) (show w.heap.size ≤ w.heap.size + 1 by omega) (.int .i64 s.op)).setCell (p := ⟨w.heap.size + 1, 12, none⟩) (show w.heap.size ≤ w.heap.size + 1 by omega) (.int .i64 s.up)))
        have LF := Lib.hid (show OL (((((((((((((wr.setCell ⟨w.heap.size + 1, 0, none⟩ (.int .i64 s.id)).setCell ⟨w.heap.size + 1, 1, none⟩ (.int .i64 s.co)).setCell ⟨w.heap.size + 1, 2, none⟩ (.int .i64 s.me)).setCell ⟨w.heap.size + 1, 3, none⟩ (.int .i64 s.cu)).setCell ⟨w.heap.size + 1, 4, none⟩ (.int .i64 s.da)).setCell ⟨w.heap.size + 1, 5, none⟩ (.int .i64 s.nn)).setCell ⟨w.heap.size + 1, 6, none⟩ (.int .i64 s.ra)).setCell ⟨w.heap.size + 1, 7, none⟩ (.int .i64 s.nu)).setCell ⟨w.heap.size + 1, 8, none⟩ (.int .i64 s.de)).setCell ⟨w.heap.size + 1, 9, none⟩ (.slice (some ⟨gi', 0, none⟩) l.length ci')).setCell ⟨w.heap.size + 1, 10, none⟩ (.slice (some ⟨gp', 0, none⟩) p.length cp')).setCell ⟨w.heap.size + 1, 11, none⟩ (.int .i64 s.op)).setCell ⟨w.heap.size + 1, 12, none⟩ (.int .i64 s.up)) w.heap.size l (ltLs p d f g) (some ⟨gi', 0, none⟩) ci' gi' (some ⟨gp', 0, none⟩) cp' gp' gs3 cs3 from ⟨L5.out.items.keep fun _ => (((((((((((((Below.heap_setCell _ _ _ _ (show gi' ≠ w.heap.size + 1 by have := DD.out; omega)).trans (Below.heap_setCell _ _ _ _ (show gi' ≠ w.heap.size + 1 by have := DD.out; omega))).trans (Below.heap_setCell _ _ _ _ (show gi' ≠ w.heap.size + 1 by have := DD.out; omega))).trans (Below.heap_setCell _ _ _ _ (show gi' ≠ w.heap.size + 1 by have := DD.out; omega))).trans (Below.heap_setCell _ _ _ _ (show gi' ≠ w.heap.size + 1 by have := DD.out; omega))).trans (Below.heap_setCell _ _ _ _ (show gi' ≠ w.heap.size + 1 by have := DD.out; omega))).trans (Below.heap_setCell _ _ _ _ (show gi' ≠ w.heap.size + 1 by have := DD.out; omega))).trans (Below.heap_setCell _ _ _ _ (show gi' ≠ w.heap.size + 1 by have := DD.out; omega))).trans (Below.heap_setCell _ _ _ _ (show gi' ≠ w.heap.size + 1 by have := DD.out; omega))).trans (Below.heap_setCell _ _ _ _ (show gi' ≠ w.heap.size + 1 by have := DD.out; omega))).trans (Below.heap_setCell _ _ _ _ (show gi' ≠ w.heap.size + 1 by have := DD.out; omega))).trans (Below.heap_setCell _ _ _ _ (show gi' ≠ w.heap.size + 1 by have := DD.out; omega))).trans (Below.heap_setCell _ _ _ _ (show gi' ≠ w.heap.size + 1 by have := DD.out; omega))), L5.out.plans.keep (fun _ => (((((((((((((Below.heap_setCell _ _ _ _ (show gp' ≠ w.heap.size + 1 by have := DD.out; omega)).trans (Below.heap_setCell _ _ _ _ (show gp' ≠ w.heap.size + 1 by have := DD.out; omega))).trans (Below.heap_setCell _ _ _ _ (show gp' ≠ w.heap.size + 1 by have := DD.out; omega))).trans (Below.heap_setCell _ _ _ _ (show gp' ≠ w.heap.size + 1 by have := DD.out; omega))).trans (Below.heap_setCell _ _ _ _ (show gp' ≠ w.heap.size + 1 by have := DD.out; omega))).trans (Below.heap_setCell _ _ _ _ (show gp' ≠ w.heap.size + 1 by have := DD.out; omega))).trans (Below.heap_setCell _ _ _ _ (show gp' ≠ w.heap.size + 1 by have := DD.out; omega))).trans (Below.heap_setCell _ _ _ _ (show gp' ≠ w.heap.size + 1 by have := DD.out; omega))).trans (Below.heap_setCell _ _ _ _ (show gp' ≠ w.heap.size + 1 by have := DD.out; omega))).trans (Below.heap_setCell _ _ _ _ (show gp' ≠ w.heap.size + 1 by have := DD.out; omega))).trans (Below.heap_setCell _ _ _ _ (show gp' ≠ w.heap.size + 1 by have := DD.out; omega))).trans (Below.heap_setCell _ _ _ _ (show gp' ≠ w.heap.size + 1 by have := DD.out; omega))).trans (Below.heap_setCell _ _ _ _ (show gp' ≠ w.heap.size + 1 by have := DD.out; omega)))) (fun i hi => (((((((((((((Below.heap_setCell _ _ _ _ (show gs3 i ≠ w.heap.size + 1 by have := L5.out.gs0 i hi; omega)).trans (Below.heap_setCell _ _ _ _ (show gs3 i ≠ w.heap.size + 1 by have := L5.out.gs0 i hi; omega))).trans (Below.heap_setCell _ _ _ _ (show gs3 i ≠ w.heap.size + 1 by have := L5.out.gs0 i hi; omega))).trans (Below.heap_setCell _ _ _ _ (show gs3 i ≠ w.heap.size + 1 by have := L5.out.gs0 i hi; omega))).trans (Below.heap_setCell _ _ _ _ (show gs3 i ≠ w.heap.size + 1 by have := L5.out.gs0 i hi; omega))).trans (Below.heap_setCell _ _ _ _ (show gs3 i ≠ w.heap.size + 1 by have := L5.out.gs0 i hi; omega))).trans (Below.heap_setCell _ _ _ _ (show gs3 i ≠ w.heap.size + 1 by have := L5.out.gs0 i hi; omega))).trans (Below.heap_setCell _ _ _ _ (show gs3 i ≠ w.heap.size + 1 by have := L5.out.gs0 i hi; omega))).trans (Below.heap_setCell _ _ _ _ (show gs3 i ≠ w.heap.size + 1 by have := L5.out.gs0 i hi; omega))).trans (Below.heap_setCell _ _ _ _ (show gs3 i ≠ w.heap.size + 1 by have := L5.out.gs0 i hi; omega))).trans (Below.heap_setCell _ _ _ _ (show gs3 i ≠ w.heap.size + 1 by have := L5.out.gs0 i hi; omega))).trans (Below.heap_setCell _ _ _ _ (show gs3 i ≠ w.heap.size + 1 by have := L5.out.gs0 i hi; omega))).trans (Below.heap_setCell _ _ _ _ (show gs3 i ≠ w.heap.size + 1 by have := L5.out.gs0 i hi; omega)))) (by simp only [sz_set]; exact Nat.le_refl _), fun h => Nat.le_trans (show w.heap.size ≤ w.heap.size + 1 + 1 by omega) (L5.out.gi0 h), fun h => Nat.le_trans (show w.heap.size ≤ w.heap.size + 1 + 1 by omega) (L5.out.gp0 h), fun i h => Nat.le_trans (show w.heap.size ≤ w.heap.size + 1 + 1 by omega) (L5.out.gs0 i h), L5.out.ip, L5.out.is_⟩)
        clear X5 N5 L5 B5
        go_wp2
        change bodyPost _ _ _ _ _ (((((((((((((wr.setCell ⟨w.heap.size + 1, 0, none⟩ (.int .i64 s.id)).setCell ⟨w.heap.size + 1, 1, none⟩ (.int .i64 s.co)).setCell ⟨w.heap.size + 1, 2, none⟩ (.int .i64 s.me)).setCell ⟨w.heap.size + 1, 3, none⟩ (.int .i64 s.cu)).setCell ⟨w.heap.size + 1, 4, none⟩ (.int .i64 s.da)).setCell ⟨w.heap.size + 1, 5, none⟩ (.int .i64 s.nn)).setCell ⟨w.heap.size + 1, 6, none⟩ (.int .i64 s.ra)).setCell ⟨w.heap.size + 1, 7, none⟩ (.int .i64 s.nu)).setCell ⟨w.heap.size + 1, 8, none⟩ (.int .i64 s.de)).setCell ⟨w.heap.size + 1, 9, none⟩ (.slice (some ⟨gi', 0, none⟩) l.length ci')).setCell ⟨w.heap.size + 1, 10, none⟩ (.slice (some ⟨gp', 0, none⟩) p.length cp')).setCell ⟨w.heap.size + 1, 11, none⟩ (.int .i64 s.op)).setCell ⟨w.heap.size + 1, 12, none⟩ (.int .i64 s.up))
        generalize ((((((((((((wr.setCell ⟨w.heap.size + 1, 0, none⟩ (.int .i64 s.id)).setCell ⟨w.heap.size + 1, 1, none⟩ (.int .i64 s.co)).setCell ⟨w.heap.size + 1, 2, none⟩ (.int .i64 s.me)).setCell ⟨w.heap.size + 1, 3, none⟩ (.int .i64 s.cu)).setCell ⟨w.heap.size + 1, 4, none⟩ (.int .i64 s.da)).setCell ⟨w.heap.size + 1, 5, none⟩ (.int .i64 s.nn)).setCell ⟨w.heap.size + 1, 6, none⟩ (.int .i64 s.ra)).setCell ⟨w.heap.size + 1, 7, none⟩ (.int .i64 s.nu)).setCell ⟨w.heap.size + 1, 8, none⟩ (.int .i64 s.de)).setCell ⟨w.heap.size + 1, 9, none⟩ (.slice (some ⟨gi', 0, none⟩) l.length ci')).setCell ⟨w.heap.size + 1, 10, none⟩ (.slice (some ⟨gp', 0, none⟩) p.length cp')).setCell ⟨w.heap.size + 1, 11, none⟩ (.int .i64 s.op)).setCell ⟨w.heap.size + 1, 12, none⟩ (.int .i64 s.up) = W9 at Y BF LF ⊢
        have y0 : W9.cell? ⟨w.heap.size + 1, 0, none⟩ = some (.int .i64 s.id) := Y.out.cell 0 (by decide)
        have y1 : W9.cell? ⟨w.heap.size + 1, 1, none⟩ = some (.int .i64 s.co) := Y.out.cell 1 (by decide)
        have y2 : W9.cell? ⟨w.heap.size + 1, 2, none⟩ = some (.int .i64 s.me) := Y.out.cell 2 (by decide)
        have y3 : W9.cell? ⟨w.heap.size + 1, 3, none⟩ = some (.int .i64 s.cu) := Y.out.cell 3 (by decide)
        have y4 : W9.cell? ⟨w.heap.size + 1, 4, none⟩ = some (.int .i64 s.da) := Y.out.cell 4 (by decide)
        have y5 : W9.cell? ⟨w.heap.size + 1, 5, none⟩ = some (.int .i64 s.nn) := Y.out.cell 5 (by decide)
        have y6 : W9.cell? ⟨w.heap.size + 1, 6, none⟩ = some (.int .i64 s.ra) := Y.out.cell 6 (by decide)
        have y7 : W9.cell? ⟨w.heap.size + 1, 7, none⟩ = some (.int .i64 s.nu) := Y.out.cell 7 (by decide)
        have y8 : W9.cell? ⟨w.heap.size + 1, 8, none⟩ = some (.int .i64 s.de) := Y.out.cell 8 (by decide)
        have y9 : W9.cell? ⟨w.heap.size + 1, 9, none⟩ = some (.slice (some ⟨gi', 0, none⟩) l.length ci') := Y.out.cell 9 (by decide)
        have y10 : W9.cell? ⟨w.heap.size + 1, 10, none⟩ = some (.slice (some ⟨gp', 0, none⟩) p.length cp') := Y.out.cell 10 (by decide)
        have y11 : W9.cell? ⟨w.heap.size + 1, 11, none⟩ = some (.int .i64 s.op) := Y.out.cell 11 (by decide)
        have y12 : W9.cell? ⟨w.heap.size + 1, 12, none⟩ = some (.int .i64 s.up) := Y.out.cell 12 (by decide)
        refine bodyPost_ret (v := .tuple #[.agg #[.int .i64 s.id, .int .i64 s.co, .int .i64 s.me, .int .i64 s.cu, .int .i64 s.da, .int .i64 s.nn, .int .i64 s.ra, .int .i64 s.nu, .int .i64 s.de, .slice (some ⟨gi', 0, none⟩) l.length ci', .slice (some ⟨gp', 0, none⟩) p.length cp', .int .i64 s.op, .int .i64 s.up], .int .i64 S, .int .i64 0]) (by simp [results, Try.results38, go_sem, y0, y1, y2, y3, y4, y5, y6, y7, y8, y9, y10, y11, y12]) rfl ⟨_, by rw [SE.out], _, _, _, _, _, _, _, _, ?_, LF.out, BF.out⟩
        rw [PLEN.out]
end Go.Proofs.Ytmaejlfjdkkpdaa.ob
