/-
  Plain helpers of this seat's proofs: the contract of the method that tells the debts of a Part. Conditions: none.
-/
import Derived.Test.YtmaejlfjdkkpdaaSm
import Derived.Test.YtmaejlfjdkkpdaaRf
import Derived.StillTailTactics
namespace Go.Proofs.Ytmaejlfjdkkpdaa.base
open Go.ChangeShapes Go.WideShapes Go.ChangeAt Go.RowKit
open seven (F7 zz Row At)
open pl (inR prOk pok)
open gen
set_option maxRecDepth 40000 in
set_option maxHeartbeats 4000000 in
theorem dbC (w : World) (g o : Nat) (x : F7) (h : At w g o x) (p : pl.Pin x) : Calls Try.prog 124 #[.pointer (some ⟨g, o, none⟩)] w fun e w' => e = .returned (.agg #[.pointer (some ⟨g, o + 6, none⟩), .int .i64 (x.2.2.2.1 - x.2.2.2.2.2.2), .pointer (some ⟨g, o + 5, none⟩), .int .i64 (x.2.2.1 - x.2.2.2.2.2.1), .pointer (some ⟨g, o + 4, none⟩), .int .i64 (x.2.1 - x.2.2.2.2.1)]) ∧ Below w.heap.size w w' := by
  obtain ⟨x0, x1, x2, x3, x4, x5, x6⟩ := x
  obtain ⟨_, _, u1, u2, u3, u4, u5, u6, u7, u8, u9, u10, u11, u12⟩ := p
  dsimp only at u1 u2 u3 u4 u5 u6 u7 u8 u9 u10 u11 u12 ⊢
  have lg := h.lt
  have A0 := fun ob => h.keep (Below.heap_alloc w ob g lg)
  clear h
  go_enter Try.func124, Try.ntmps124
  go_wp2_with fail
  have B0 := Lib.hid ((Below.refl w.heap.size w).alloc (Nat.le_refl _) (.cells #[.pointer none, .int .i64 0, .pointer none, .int .i64 0, .pointer none, .int .i64 0] 137))
  obtain ⟨y0, y1, y2, y3, y4, y5, y6⟩ := A0 (.cells #[.pointer none, .int .i64 0, .pointer none, .int .i64 0, .pointer none, .int .i64 0] 137)
  have c0 : (w.alloc (.cells #[.pointer none, .int .i64 0, .pointer none, .int .i64 0, .pointer none, .int .i64 0] 137)).cell? ⟨w.heap.size, 0, none⟩ = some (.pointer none) := box_cell (box_refl w _) 0 rfl
  have c1 : (w.alloc (.cells #[.pointer none, .int .i64 0, .pointer none, .int .i64 0, .pointer none, .int .i64 0] 137)).cell? ⟨w.heap.size, 1, none⟩ = some (.int .i64 0) := box_cell (box_refl w _) 1 rfl
  have c2 : (w.alloc (.cells #[.pointer none, .int .i64 0, .pointer none, .int .i64 0, .pointer none, .int .i64 0] 137)).cell? ⟨w.heap.size, 2, none⟩ = some (.pointer none) := box_cell (box_refl w _) 2 rfl
  have c3 : (w.alloc (.cells #[.pointer none, .int .i64 0, .pointer none, .int .i64 0, .pointer none, .int .i64 0] 137)).cell? ⟨w.heap.size, 3, none⟩ = some (.int .i64 0) := box_cell (box_refl w _) 3 rfl
  have c4 : (w.alloc (.cells #[.pointer none, .int .i64 0, .pointer none, .int .i64 0, .pointer none, .int .i64 0] 137)).cell? ⟨w.heap.size, 4, none⟩ = some (.pointer none) := box_cell (box_refl w _) 4 rfl
  have c5 : (w.alloc (.cells #[.pointer none, .int .i64 0, .pointer none, .int .i64 0, .pointer none, .int .i64 0] 137)).cell? ⟨w.heap.size, 5, none⟩ = some (.int .i64 0) := box_cell (box_refl w _) 5 rfl
  have fz : ∀ k, (w.alloc (.cells #[.pointer none, .int .i64 0, .pointer none, .int .i64 0, .pointer none, .int .i64 0] 137)).frozen? ⟨w.heap.size, k, none⟩ = false := fun k => World.frozen?_alloc_new w _ _ k
  clear A0
  obtain ⟨rb, hrb⟩ : ∃ rb, rb = w.heap.size := ⟨_, rfl⟩
  rw [← hrb] at c0 c1 c2 c3 c4 c5 fz ⊢
  have HRB := Lib.hid (Nat.le_of_eq hrb.symm)
  have FZ0 := Lib.hid fz
  generalize w.alloc (.cells #[.pointer none, .int .i64 0, .pointer none, .int .i64 0, .pointer none, .int .i64 0] 137) = W0 at *
  have f0 := fz 0
  have f1 := fz 1
  have f2 := fz 2
  have f3 := fz 3
  have f4 := fz 4
  have f5 := fz 5
  have ngr : g ≠ rb := by omega
  clear hrb fz
  go_still_tail 40, (by kernel_rfl)
  change wpList _ _ _ _ _ W0.drew
  have B1 := Lib.hid B0.out.drew
  replace c0 : W0.drew.cell? ⟨rb, 0, none⟩ = some (.pointer none) := c0
  replace c1 : W0.drew.cell? ⟨rb, 1, none⟩ = some (.int .i64 0) := c1
  replace c2 : W0.drew.cell? ⟨rb, 2, none⟩ = some (.pointer none) := c2
  replace c3 : W0.drew.cell? ⟨rb, 3, none⟩ = some (.int .i64 0) := c3
  replace c4 : W0.drew.cell? ⟨rb, 4, none⟩ = some (.pointer none) := c4
  replace c5 : W0.drew.cell? ⟨rb, 5, none⟩ = some (.int .i64 0) := c5
  replace f0 : W0.drew.frozen? ⟨rb, 0, none⟩ = false := f0
  replace f1 : W0.drew.frozen? ⟨rb, 1, none⟩ = false := f1
  replace f2 : W0.drew.frozen? ⟨rb, 2, none⟩ = false := f2
  replace f3 : W0.drew.frozen? ⟨rb, 3, none⟩ = false := f3
  replace f4 : W0.drew.frozen? ⟨rb, 4, none⟩ = false := f4
  replace f5 : W0.drew.frozen? ⟨rb, 5, none⟩ = false := f5
  have FZ := Lib.hid (show ∀ k, W0.drew.frozen? ⟨rb, k, none⟩ = false from FZ0.out)
  clear FZ0
  generalize W0.drew = W1 at *
  clear y0 y1 y2 y3 y4 y5 y6
  have lrb : rb < W1.heap.size := by
    unfold World.cell? at c0
    cases hh : W1.heap[rb]? with
    | none => simp [hh] at c0
    | some o => exact (Array.getElem?_eq_some_iff.1 hh).1
  have K0 : Blk W1 rb 6 (fun k => (W1.cell? ⟨rb, k, none⟩).getD undef) := ⟨lrb, fun k hk => by
    match k, hk with
    | 0, _ => rw [c0]; rfl
    | 1, _ => rw [c1]; rfl
    | 2, _ => rw [c2]; rfl
    | 3, _ => rw [c3]; rfl
    | 4, _ => rw [c4]; rfl
    | 5, _ => rw [c5]; rfl, FZ.out⟩
  have K := Lib.hid ((((((K0.set (k := 0) (by omega) (.pointer (some ⟨g, o + 6, none⟩))).set (k := 1) (by omega) (.int .i64 (x3 - x6))).set (k := 2) (by omega) (.pointer (some ⟨g, o + 5, none⟩))).set (k := 3) (by omega) (.int .i64 (x2 - x5))).set (k := 4) (by omega) (.pointer (some ⟨g, o + 4, none⟩))).set (k := 5) (by omega) (.int .i64 (x1 - x4)))
  have BL := Lib.hid ((((((B1.out.setCell (p := ⟨rb, 0, none⟩) HRB.out (.pointer (some ⟨g, o + 6, none⟩))).setCell (p := ⟨rb, 1, none⟩) HRB.out (.int .i64 (x3 - x6))).setCell (p := ⟨rb, 2, none⟩) HRB.out (.pointer (some ⟨g, o + 5, none⟩))).setCell (p := ⟨rb, 3, none⟩) HRB.out (.int .i64 (x2 - x5))).setCell (p := ⟨rb, 4, none⟩) HRB.out (.pointer (some ⟨g, o + 4, none⟩))).setCell (p := ⟨rb, 5, none⟩) HRB.out (.int .i64 (x1 - x4)))
  clear K0
  go_wp2
  change bodyPost _ _ _ _ _ ((((((W1.setCell ⟨rb, 0, none⟩ (.pointer (some ⟨g, o + 6, none⟩))).setCell ⟨rb, 1, none⟩ (.int .i64 (x3 - x6))).setCell ⟨rb, 2, none⟩ (.pointer (some ⟨g, o + 5, none⟩))).setCell ⟨rb, 3, none⟩ (.int .i64 (x2 - x5))).setCell ⟨rb, 4, none⟩ (.pointer (some ⟨g, o + 4, none⟩))).setCell ⟨rb, 5, none⟩ (.int .i64 (x1 - x4)))
  generalize ((((((W1.setCell ⟨rb, 0, none⟩ (.pointer (some ⟨g, o + 6, none⟩))).setCell ⟨rb, 1, none⟩ (.int .i64 (x3 - x6))).setCell ⟨rb, 2, none⟩ (.pointer (some ⟨g, o + 5, none⟩))).setCell ⟨rb, 3, none⟩ (.int .i64 (x2 - x5))).setCell ⟨rb, 4, none⟩ (.pointer (some ⟨g, o + 4, none⟩))).setCell ⟨rb, 5, none⟩ (.int .i64 (x1 - x4))) = W9 at K BL ⊢
  have d0 := K.out.cell 0 (by omega)
  have d1 := K.out.cell 1 (by omega)
  have d2 := K.out.cell 2 (by omega)
  have d3 := K.out.cell 3 (by omega)
  have d4 := K.out.cell 4 (by omega)
  have d5 := K.out.cell 5 (by omega)
  simp [upd] at d0 d1 d2 d3 d4 d5
  refine bodyPost_ret (v := .agg #[.pointer (some ⟨g, o + 6, none⟩), .int .i64 (x3 - x6), .pointer (some ⟨g, o + 5, none⟩), .int .i64 (x2 - x5), .pointer (some ⟨g, o + 4, none⟩), .int .i64 (x1 - x4)]) (by simp [results, Try.results124, go_sem, d0, d1, d2, d3, d4, d5]) rfl ⟨rfl, BL.out⟩
end Go.Proofs.Ytmaejlfjdkkpdaa.base
