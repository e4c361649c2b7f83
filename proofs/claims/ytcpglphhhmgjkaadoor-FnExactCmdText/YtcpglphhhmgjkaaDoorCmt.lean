/-
  Plain helpers of this seat's proofs: the copy of a command. Conditions: none.
-/
import Derived.Test.YtcpglphhhmgjkaaDoorCmv
import Derived.Test.YtcpglphhhmgjkaaDoorCpI4
namespace Go.Proofs.YtcpglphhhmgjkaaDoor.cm
open Go.ChangeShapes Go.WideShapes Go.ChangeAt Go.RowKit
open gen
open four (F4)
/-- A command's copy, its items in memory of their own. -/
def CopiedC (w : World) (s : Sc) (l : List F4) (e : Ending) (w' : World) : Prop := ∃ gi, e = .returned (.agg #[.int .i64 s.k, .string s.key, .int .i64 s.a, .int .i64 s.b, .int .i64 s.c, .int .i64 s.d, .int .i64 s.e, .int .i64 s.f, .slice (some ⟨gi, 0, none⟩) l.length l.length]) ∧ four.Row w' (some ⟨gi, 0, none⟩) l.length gi l ∧ w.heap.size ≤ gi ∧ gi < w'.heap.size ∧ Below w.heap.size w w'
set_option maxRecDepth 100000 in
set_option maxHeartbeats 4000000 in
theorem toC (s : Sc) (ai : Option Addr) (ci : Nat) (l : List F4) (w : World) (h1 : four.Inp w ai l) (hl : l.length ≤ 1048576) :
    Calls Tryd.prog 9 #[.agg #[.int .i64 s.k, .string s.key, .int .i64 s.a, .int .i64 s.b, .int .i64 s.c, .int .i64 s.d, .int .i64 s.e, .int .i64 s.f, .slice ai l.length ci]] w (CopiedC w s l) := by
  have CI := Lib.hid (fun W (hb : Below w.heap.size w W) => four.copy ai ci l W (h1.below hb) hl)
  clear h1
  have B1 := Lib.hid (show Below w.heap.size w (((w.alloc (.cells #[.int .i64 s.k, .string s.key, .int .i64 s.a, .int .i64 s.b, .int .i64 s.c, .int .i64 s.d, .int .i64 s.e, .int .i64 s.f, .slice ai l.length ci] 24)).alloc (.cells #[.int .i64 0, .string ⟨#[]⟩, .int .i64 0, .int .i64 0, .int .i64 0, .int .i64 0, .int .i64 0, .int .i64 0, .slice none 0 0] 29)).alloc (.cells #[.int .i64 s.k, .string s.key, .int .i64 s.a, .int .i64 s.b, .int .i64 s.c, .int .i64 s.d, .int .i64 s.e, .int .i64 s.f, .slice none 0 0] 29)) from bAl (bAl (bAl (Below.refl _ _) (Nat.le_refl _) _) (Nat.le_refl _) _) (Nat.le_refl _) _)
  have X0 := ((Blk.new w #[.int .i64 s.k, .string s.key, .int .i64 s.a, .int .i64 s.b, .int .i64 s.c, .int .i64 s.d, .int .i64 s.e, .int .i64 s.f, .slice ai l.length ci] 24 9 rfl).al (.cells #[.int .i64 0, .string ⟨#[]⟩, .int .i64 0, .int .i64 0, .int .i64 0, .int .i64 0, .int .i64 0, .int .i64 0, .slice none 0 0] 29)).al (.cells #[.int .i64 s.k, .string s.key, .int .i64 s.a, .int .i64 s.b, .int .i64 s.c, .int .i64 s.d, .int .i64 s.e, .int .i64 s.f, .slice none 0 0] 29)
  have X1 := (Blk.new (w.alloc (.cells #[.int .i64 s.k, .string s.key, .int .i64 s.a, .int .i64 s.b, .int .i64 s.c, .int .i64 s.d, .int .i64 s.e, .int .i64 s.f, .slice ai l.length ci] 24)) #[.int .i64 0, .string ⟨#[]⟩, .int .i64 0, .int .i64 0, .int .i64 0, .int .i64 0, .int .i64 0, .int .i64 0, .slice none 0 0] 29 9 rfl).al (.cells #[.int .i64 s.k, .string s.key, .int .i64 s.a, .int .i64 s.b, .int .i64 s.c, .int .i64 s.d, .int .i64 s.e, .int .i64 s.f, .slice none 0 0] 29)
  have X2 := Blk.new ((w.alloc (.cells #[.int .i64 s.k, .string s.key, .int .i64 s.a, .int .i64 s.b, .int .i64 s.c, .int .i64 s.d, .int .i64 s.e, .int .i64 s.f, .slice ai l.length ci] 24)).alloc (.cells #[.int .i64 0, .string ⟨#[]⟩, .int .i64 0, .int .i64 0, .int .i64 0, .int .i64 0, .int .i64 0, .int .i64 0, .slice none 0 0] 29)) #[.int .i64 s.k, .string s.key, .int .i64 s.a, .int .i64 s.b, .int .i64 s.c, .int .i64 s.d, .int .i64 s.e, .int .i64 s.f, .slice none 0 0] 29 9 rfl
  have z1 : (((w.alloc (.cells #[.int .i64 s.k, .string s.key, .int .i64 s.a, .int .i64 s.b, .int .i64 s.c, .int .i64 s.d, .int .i64 s.e, .int .i64 s.f, .slice ai l.length ci] 24)).alloc (.cells #[.int .i64 0, .string ⟨#[]⟩, .int .i64 0, .int .i64 0, .int .i64 0, .int .i64 0, .int .i64 0, .int .i64 0, .slice none 0 0] 29)).alloc (.cells #[.int .i64 s.k, .string s.key, .int .i64 s.a, .int .i64 s.b, .int .i64 s.c, .int .i64 s.d, .int .i64 s.e, .int .i64 s.f, .slice none 0 0] 29)).heap.size = w.heap.size + 1 + 1 + 1 := by simp only [sz_al]
  simp only [sz_al] at X1 X2
  go_enter Tryd.func9, Tryd.ntmps9
  go_wp2_with fail
  generalize ((w.alloc (.cells #[.int .i64 s.k, .string s.key, .int .i64 s.a, .int .i64 s.b, .int .i64 s.c, .int .i64 s.d, .int .i64 s.e, .int .i64 s.f, .slice ai l.length ci] 24)).alloc (.cells #[.int .i64 0, .string ⟨#[]⟩, .int .i64 0, .int .i64 0, .int .i64 0, .int .i64 0, .int .i64 0, .int .i64 0, .slice none 0 0] 29)).alloc (.cells #[.int .i64 s.k, .string s.key, .int .i64 s.a, .int .i64 s.b, .int .i64 s.c, .int .i64 s.d, .int .i64 s.e, .int .i64 s.f, .slice none 0 0] 29) = W1 at B1 X0 X1 X2 z1 ⊢
  refine (CI.out W1 B1.out).mono ?_
  rintro e w2 ⟨gi, rfl, r1, l1, k1, b1⟩
  have R1 := Lib.hid r1
  have B2 := Lib.hid (B1.out.trans (b1.mono B1.out.size))
  replace X1 := X1.below b1 X1.lt
  replace X2 := X2.below b1 X2.lt
  have L1 := Lib.hid (show w.heap.size + 1 + 1 + 1 ≤ gi ∧ gi < w2.heap.size from by omega)
  clear r1 b1 l1 k1 B1 z1 X0
  have b0 : w2.cell? ⟨w.heap.size + 1 + 1, 0, none⟩ = some (.int .i64 s.k) := X2.cell 0 (by decide)
  have b1 : w2.cell? ⟨w.heap.size + 1 + 1, 1, none⟩ = some (.string s.key) := X2.cell 1 (by decide)
  have b2 : w2.cell? ⟨w.heap.size + 1 + 1, 2, none⟩ = some (.int .i64 s.a) := X2.cell 2 (by decide)
  have b3 : w2.cell? ⟨w.heap.size + 1 + 1, 3, none⟩ = some (.int .i64 s.b) := X2.cell 3 (by decide)
  have b4 : w2.cell? ⟨w.heap.size + 1 + 1, 4, none⟩ = some (.int .i64 s.c) := X2.cell 4 (by decide)
  have b5 : w2.cell? ⟨w.heap.size + 1 + 1, 5, none⟩ = some (.int .i64 s.d) := X2.cell 5 (by decide)
  have b6 : w2.cell? ⟨w.heap.size + 1 + 1, 6, none⟩ = some (.int .i64 s.e) := X2.cell 6 (by decide)
  have b7 : w2.cell? ⟨w.heap.size + 1 + 1, 7, none⟩ = some (.int .i64 s.f) := X2.cell 7 (by decide)
  have b8 : w2.cell? ⟨w.heap.size + 1 + 1, 8, none⟩ = some (.slice none 0 0) := X2.cell 8 (by decide)
  have a0 : w2.cell? ⟨w.heap.size + 1, 0, none⟩ = some (.int .i64 0) := X1.cell 0 (by decide)
  have a1 : w2.cell? ⟨w.heap.size + 1, 1, none⟩ = some (.string ⟨#[]⟩) := X1.cell 1 (by decide)
  have a2 : w2.cell? ⟨w.heap.size + 1, 2, none⟩ = some (.int .i64 0) := X1.cell 2 (by decide)
  have a3 : w2.cell? ⟨w.heap.size + 1, 3, none⟩ = some (.int .i64 0) := X1.cell 3 (by decide)
  have a4 : w2.cell? ⟨w.heap.size + 1, 4, none⟩ = some (.int .i64 0) := X1.cell 4 (by decide)
  have a5 : w2.cell? ⟨w.heap.size + 1, 5, none⟩ = some (.int .i64 0) := X1.cell 5 (by decide)
  have a6 : w2.cell? ⟨w.heap.size + 1, 6, none⟩ = some (.int .i64 0) := X1.cell 6 (by decide)
  have a7 : w2.cell? ⟨w.heap.size + 1, 7, none⟩ = some (.int .i64 0) := X1.cell 7 (by decide)
  have a8 : w2.cell? ⟨w.heap.size + 1, 8, none⟩ = some (.slice none 0 0) := X1.cell 8 (by decide)
  have f8 := X2.free 8
  have h0 := X1.free 0
  have h1 := X1.free 1
  have h2 := X1.free 2
  have h3 := X1.free 3
  have h4 := X1.free 4
  have h5 := X1.free 5
  have h6 := X1.free 6
  have h7 := X1.free 7
  have h8 := X1.free 8
  have Y := Lib.hid ((((((((((X1.other (k := 8) (g' := w.heap.size + 1 + 1) (by omega) (.slice (some ⟨gi, 0, none⟩) l.length l.length)).set (k := 0) (by decide) (.int .i64 s.k)).set (k := 1) (by decide) (.string s.key)).set (k := 2) (by decide) (.int .i64 s.a)).set (k := 3) (by decide) (.int .i64 s.b)).set (k := 4) (by decide) (.int .i64 s.c)).set (k := 5) (by decide) (.int .i64 s.d)).set (k := 6) (by decide) (.int .i64 s.e)).set (k := 7) (by decide) (.int .i64 s.f)).set (k := 8) (by decide) (.slice (some ⟨gi, 0, none⟩) l.length l.length))
  have BF := Lib.hid (show Below w.heap.size w ((((((((((w2.setCell ⟨w.heap.size + 1 + 1, 8, none⟩ (.slice (some ⟨gi, 0, none⟩) l.length l.length)).setCell ⟨w.heap.size + 1, 0, none⟩ (.int .i64 s.k)).setCell ⟨w.heap.size + 1, 1, none⟩ (.string s.key)).setCell ⟨w.heap.size + 1, 2, none⟩ (.int .i64 s.a)).setCell ⟨w.heap.size + 1, 3, none⟩ (.int .i64 s.b)).setCell ⟨w.heap.size + 1, 4, none⟩ (.int .i64 s.c)).setCell ⟨w.heap.size + 1, 5, none⟩ (.int .i64 s.d)).setCell ⟨w.heap.size + 1, 6, none⟩ (.int .i64 s.e)).setCell ⟨w.heap.size + 1, 7, none⟩ (.int .i64 s.f)).setCell ⟨w.heap.size + 1, 8, none⟩ (.slice (some ⟨gi, 0, none⟩) l.length l.length)) from ((((((((((B2.out.setCell (p := ⟨w.heap.size + 1 + 1, 8, none⟩) (show w.heap.size ≤ w.heap.size + 1 + 1 by omega) _).setCell (p := ⟨w.heap.size + 1, 0, none⟩) (show w.heap.size ≤ w.heap.size + 1 by omega) _).setCell (p := ⟨w.heap.size + 1, 1, none⟩) (show w.heap.size ≤ w.heap.size + 1 by omega) _).setCell (p := ⟨w.heap.size + 1, 2, none⟩) (show w.heap.size ≤ w.heap.size + 1 by omega) _).setCell (p := ⟨w.heap.size + 1, 3, none⟩) (show w.heap.size ≤ w.heap.size + 1 by omega) _).setCell (p := ⟨w.heap.size + 1, 4, none⟩) (show w.heap.size ≤ w.heap.size + 1 by omega) _).setCell (p := ⟨w.heap.size + 1, 5, none⟩) (show w.heap.size ≤ w.heap.size + 1 by omega) _).setCell (p := ⟨w.heap.size + 1, 6, none⟩) (show w.heap.size ≤ w.heap.size + 1 by omega) _).setCell (p := ⟨w.heap.size + 1, 7, none⟩) (show w.heap.size ≤ w.heap.size + 1 by omega) _).setCell (p := ⟨w.heap.size + 1, 8, none⟩) (show w.heap.size ≤ w.heap.size + 1 by omega) _))
  have RF := Lib.hid (R1.out.keep (w' := (((((((((w2.setCell ⟨w.heap.size + 1 + 1, 8, none⟩ (.slice (some ⟨gi, 0, none⟩) l.length l.length)).setCell ⟨w.heap.size + 1, 0, none⟩ (.int .i64 s.k)).setCell ⟨w.heap.size + 1, 1, none⟩ (.string s.key)).setCell ⟨w.heap.size + 1, 2, none⟩ (.int .i64 s.a)).setCell ⟨w.heap.size + 1, 3, none⟩ (.int .i64 s.b)).setCell ⟨w.heap.size + 1, 4, none⟩ (.int .i64 s.c)).setCell ⟨w.heap.size + 1, 5, none⟩ (.int .i64 s.d)).setCell ⟨w.heap.size + 1, 6, none⟩ (.int .i64 s.e)).setCell ⟨w.heap.size + 1, 7, none⟩ (.int .i64 s.f)).setCell ⟨w.heap.size + 1, 8, none⟩ (.slice (some ⟨gi, 0, none⟩) l.length l.length)) fun _ => by have := L1.out; exact ((((((((((Below.heap_setCell _ _ _ _ (show gi ≠ w.heap.size + 1 by omega)).trans (Below.heap_setCell _ _ _ _ (show gi ≠ w.heap.size + 1 by omega))).trans (Below.heap_setCell _ _ _ _ (show gi ≠ w.heap.size + 1 by omega))).trans (Below.heap_setCell _ _ _ _ (show gi ≠ w.heap.size + 1 by omega))).trans (Below.heap_setCell _ _ _ _ (show gi ≠ w.heap.size + 1 by omega))).trans (Below.heap_setCell _ _ _ _ (show gi ≠ w.heap.size + 1 by omega))).trans (Below.heap_setCell _ _ _ _ (show gi ≠ w.heap.size + 1 by omega))).trans (Below.heap_setCell _ _ _ _ (show gi ≠ w.heap.size + 1 by omega))).trans (Below.heap_setCell _ _ _ _ (show gi ≠ w.heap.size + 1 by omega))).trans (Below.heap_setCell _ _ _ _ (show gi ≠ w.heap.size + 1 + 1 by omega))))
  have LF := Lib.hid (show w.heap.size + 1 + 1 + 1 ≤ gi ∧ gi < ((((((((((w2.setCell ⟨w.heap.size + 1 + 1, 8, none⟩ (.slice (some ⟨gi, 0, none⟩) l.length l.length)).setCell ⟨w.heap.size + 1, 0, none⟩ (.int .i64 s.k)).setCell ⟨w.heap.size + 1, 1, none⟩ (.string s.key)).setCell ⟨w.heap.size + 1, 2, none⟩ (.int .i64 s.a)).setCell ⟨w.heap.size + 1, 3, none⟩ (.int .i64 s.b)).setCell ⟨w.heap.size + 1, 4, none⟩ (.int .i64 s.c)).setCell ⟨w.heap.size + 1, 5, none⟩ (.int .i64 s.d)).setCell ⟨w.heap.size + 1, 6, none⟩ (.int .i64 s.e)).setCell ⟨w.heap.size + 1, 7, none⟩ (.int .i64 s.f)).setCell ⟨w.heap.size + 1, 8, none⟩ (.slice (some ⟨gi, 0, none⟩) l.length l.length)).heap.size from by simp only [sz_set]; exact L1.out)
  clear X1 X2 B2 R1 L1
  go_wp2
  change bodyPost _ _ _ _ _ ((((((((((w2.setCell ⟨w.heap.size + 1 + 1, 8, none⟩ (.slice (some ⟨gi, 0, none⟩) l.length l.length)).setCell ⟨w.heap.size + 1, 0, none⟩ (.int .i64 s.k)).setCell ⟨w.heap.size + 1, 1, none⟩ (.string s.key)).setCell ⟨w.heap.size + 1, 2, none⟩ (.int .i64 s.a)).setCell ⟨w.heap.size + 1, 3, none⟩ (.int .i64 s.b)).setCell ⟨w.heap.size + 1, 4, none⟩ (.int .i64 s.c)).setCell ⟨w.heap.size + 1, 5, none⟩ (.int .i64 s.d)).setCell ⟨w.heap.size + 1, 6, none⟩ (.int .i64 s.e)).setCell ⟨w.heap.size + 1, 7, none⟩ (.int .i64 s.f)).setCell ⟨w.heap.size + 1, 8, none⟩ (.slice (some ⟨gi, 0, none⟩) l.length l.length))
  generalize (((((((((w2.setCell ⟨w.heap.size + 1 + 1, 8, none⟩ (.slice (some ⟨gi, 0, none⟩) l.length l.length)).setCell ⟨w.heap.size + 1, 0, none⟩ (.int .i64 s.k)).setCell ⟨w.heap.size + 1, 1, none⟩ (.string s.key)).setCell ⟨w.heap.size + 1, 2, none⟩ (.int .i64 s.a)).setCell ⟨w.heap.size + 1, 3, none⟩ (.int .i64 s.b)).setCell ⟨w.heap.size + 1, 4, none⟩ (.int .i64 s.c)).setCell ⟨w.heap.size + 1, 5, none⟩ (.int .i64 s.d)).setCell ⟨w.heap.size + 1, 6, none⟩ (.int .i64 s.e)).setCell ⟨w.heap.size + 1, 7, none⟩ (.int .i64 s.f)).setCell ⟨w.heap.size + 1, 8, none⟩ (.slice (some ⟨gi, 0, none⟩) l.length l.length) = W9 at Y BF RF LF ⊢
  have y0 : W9.cell? ⟨w.heap.size + 1, 0, none⟩ = some (.int .i64 s.k) := Y.out.cell 0 (by decide)
  have y1 : W9.cell? ⟨w.heap.size + 1, 1, none⟩ = some (.string s.key) := Y.out.cell 1 (by decide)
  have y2 : W9.cell? ⟨w.heap.size + 1, 2, none⟩ = some (.int .i64 s.a) := Y.out.cell 2 (by decide)
  have y3 : W9.cell? ⟨w.heap.size + 1, 3, none⟩ = some (.int .i64 s.b) := Y.out.cell 3 (by decide)
  have y4 : W9.cell? ⟨w.heap.size + 1, 4, none⟩ = some (.int .i64 s.c) := Y.out.cell 4 (by decide)
  have y5 : W9.cell? ⟨w.heap.size + 1, 5, none⟩ = some (.int .i64 s.d) := Y.out.cell 5 (by decide)
  have y6 : W9.cell? ⟨w.heap.size + 1, 6, none⟩ = some (.int .i64 s.e) := Y.out.cell 6 (by decide)
  have y7 : W9.cell? ⟨w.heap.size + 1, 7, none⟩ = some (.int .i64 s.f) := Y.out.cell 7 (by decide)
  have y8 : W9.cell? ⟨w.heap.size + 1, 8, none⟩ = some (.slice (some ⟨gi, 0, none⟩) l.length l.length) := Y.out.cell 8 (by decide)
  refine bodyPost_ret (v := .agg #[.int .i64 s.k, .string s.key, .int .i64 s.a, .int .i64 s.b, .int .i64 s.c, .int .i64 s.d, .int .i64 s.e, .int .i64 s.f, .slice (some ⟨gi, 0, none⟩) l.length l.length]) (by simp [results, Tryd.results9, go_sem, y0, y1, y2, y3, y4, y5, y6, y7, y8]) rfl ⟨gi, rfl, RF.out, by have := LF.out; omega, by have := LF.out; omega, BF.out⟩
end Go.Proofs.YtcpglphhhmgjkaaDoor.cm
