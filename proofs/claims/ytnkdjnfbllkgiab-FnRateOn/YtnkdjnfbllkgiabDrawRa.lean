/-
  Plain helpers of this seat's proofs: the contract of the function that draws the arguments of RateAdded. Conditions: none.
-/
import Derived.Test.YtnkdjnfbllkgiabDrawRu
namespace Go.Proofs.Ytnkdjnfbllkgiab.draw
open Go.ChangeShapes Go.WideShapes Go.ChangeAt Go.RowKit
open led (F5 z5)
open five (Row At Blk)
def DrewRa (w : World) (e : Ending) (w' : World) : Prop := ∃ cap g, ∃ (l : List F5) (x : F5), e = .returned (.tuple #[.slice (some ⟨g, 0, none⟩) l.length cap, .agg #[.int .i64 x.1, .int .i64 x.2.1, .int .i64 x.2.2.1, .int .i64 x.2.2.2.1, .int .i64 x.2.2.2.2]]) ∧ Row w' (some ⟨g, 0, none⟩) cap g l ∧ w.heap.size ≤ g ∧ g < w'.heap.size ∧ l.length ≤ 100 ∧ Below w.heap.size w w'
set_option maxRecDepth 40000 in
set_option maxHeartbeats 4000000 in
theorem drawRa (a : Option Addr) (len cap : Nat) (w : World) (hB : Bytes w a len) (h : len ≤ 1048576) : Calls Try.prog 29 #[.slice a len cap] w (DrewRa w) := by
  obtain ⟨W0, hW0⟩ : ∃ W0, W0 = w.alloc (.cells #[.int .i64 0, .int .i64 0, .int .i64 0, .int .i64 0, .int .i64 0] 25) := ⟨_, rfl⟩
  have BW := Lib.hid (show Below w.heap.size w W0 from by rw [hW0]; exact (five.Grew.alloc w _).below)
  have Z0 := Lib.hid (show Blk W0 w.heap.size 5 (fun _ => .int .i64 0) from by rw [hW0]; exact base.blk5 w)
  have sz : w.heap.size < W0.heap.size := by rw [hW0]; simp
  have HB := Lib.hid (Bytes.below hB BW.out)
  clear hB
  go_enter Try.func29, Try.ntmps29
  go_wp2_with fail
  rw [← hW0]
  clear hW0
  refine (openRd a len cap W0 HB.out h).mono ?_
  rintro e w1 ⟨rfl, r1, b1⟩
  have R1 := Lib.hid r1
  have B1 := Lib.hid b1
  have s1 := r1.lt
  have Z1 := Lib.hid (Z0.out.keep (w' := w1) (b1.block _ Z0.out.lt) b1.size)
  clear r1 b1
  go_wp2_with fail
  refine (ratesN w1 W0.heap.size len R1.out).mono ?_
  rintro e w2 ⟨cl, g, l, rfl, rw2, g1, g2, hl, o2, r2⟩
  have R2 := Lib.hid r2
  have O2 := Lib.hid o2
  have L2 := Lib.hid rw2
  have Z2 := Lib.hid (Z1.out.keep (w' := w2) (o2.block _ Z1.out.lt (by omega)) o2.size)
  have s2 := o2.size
  clear rw2 o2 r2
  go_wp2_with fail
  refine (below w2 W0.heap.size len 200 R2.out (by omega) (by omega)).mono ?_
  rintro e w3 ⟨d, d1, d2, rfl, o3, r3⟩
  have R3 := Lib.hid r3
  have O3 := Lib.hid (O2.out.trans o3)
  have L3 := Lib.hid (L2.out.keep (w' := w3) fun _ => o3.block g (by omega) (by omega))
  have Z3 := Lib.hid (Z2.out.keep (w' := w3) (o3.block _ Z2.out.lt (by omega)) o3.size)
  have s3 := o3.size
  clear o3 r3
  go_wp2_with fail
  refine (rate w3 W0.heap.size len d R3.out).mono ?_
  rintro e w4 ⟨x, rfl, o4, r4⟩
  have O4 := Lib.hid (O3.out.trans o4)
  have L4 := Lib.hid (L3.out.keep (w' := w4) fun _ => o4.block g (by omega) (by omega))
  have Z4 := Lib.hid (Z3.out.keep (w' := w4) (o4.block _ Z3.out.lt (by omega)) o4.size)
  have s4 := o4.size
  clear o4 r4
  have BO := Lib.hid (show Below w.heap.size w w4 from BW.out.trans ((back rfl B1.out O4.out).mono (Nat.le_of_lt sz)))
  have c0 := Z4.out.cell 0 (by omega)
  have c1 := Z4.out.cell 1 (by omega)
  have c2 := Z4.out.cell 2 (by omega)
  have c3 := Z4.out.cell 3 (by omega)
  have c4 := Z4.out.cell 4 (by omega)
  have f0 := Z4.out.free 0
  have f1 := Z4.out.free 1
  have f2 := Z4.out.free 2
  have f3 := Z4.out.free 3
  have f4 := Z4.out.free 4
  go_wp2
  have ZF := ((((Z4.out.set (k := 0) (by omega) (.int .i64 x.1)).set (k := 1) (by omega) (.int .i64 x.2.1)).set (k := 2) (by omega) (.int .i64 x.2.2.1)).set (k := 3) (by omega) (.int .i64 x.2.2.2.1)).set (k := 4) (by omega) (.int .i64 x.2.2.2.2)
  have BF := ((((BO.out.setCell (p := ⟨w.heap.size, 0, none⟩) (Nat.le_refl _) (.int .i64 x.1)).setCell (p := ⟨w.heap.size, 1, none⟩) (Nat.le_refl _) (.int .i64 x.2.1)).setCell (p := ⟨w.heap.size, 2, none⟩) (Nat.le_refl _) (.int .i64 x.2.2.1)).setCell (p := ⟨w.heap.size, 3, none⟩) (Nat.le_refl _) (.int .i64 x.2.2.2.1)).setCell (p := ⟨w.heap.size, 4, none⟩) (Nat.le_refl _) (.int .i64 x.2.2.2.2)
  have LF := L4.out.keep (w' := ((((w4.setCell ⟨w.heap.size, 0, none⟩ (.int .i64 x.1)).setCell ⟨w.heap.size, 1, none⟩ (.int .i64 x.2.1)).setCell ⟨w.heap.size, 2, none⟩ (.int .i64 x.2.2.1)).setCell ⟨w.heap.size, 3, none⟩ (.int .i64 x.2.2.2.1)).setCell ⟨w.heap.size, 4, none⟩ (.int .i64 x.2.2.2.2)) fun _ => by
    have hne : g ≠ w.heap.size := by omega
    rw [Below.heap_setCell _ _ _ _ hne, Below.heap_setCell _ _ _ _ hne, Below.heap_setCell _ _ _ _ hne, Below.heap_setCell _ _ _ _ hne, Below.heap_setCell _ _ _ _ hne]
  have g5 : g < (((((w4.setCell ⟨w.heap.size, 0, none⟩ (.int .i64 x.1)).setCell ⟨w.heap.size, 1, none⟩ (.int .i64 x.2.1)).setCell ⟨w.heap.size, 2, none⟩ (.int .i64 x.2.2.1)).setCell ⟨w.heap.size, 3, none⟩ (.int .i64 x.2.2.2.1)).setCell ⟨w.heap.size, 4, none⟩ (.int .i64 x.2.2.2.2)).heap.size := by
    simp [World.setCell]; omega
  generalize ((((w4.setCell ⟨w.heap.size, 0, none⟩ (.int .i64 x.1)).setCell ⟨w.heap.size, 1, none⟩ (.int .i64 x.2.1)).setCell ⟨w.heap.size, 2, none⟩ (.int .i64 x.2.2.1)).setCell ⟨w.heap.size, 3, none⟩ (.int .i64 x.2.2.2.1)).setCell ⟨w.heap.size, 4, none⟩ (.int .i64 x.2.2.2.2) = W6 at ZF BF LF g5 ⊢
  have h0 : W6.cell? ⟨w.heap.size, 0, none⟩ = some (.int .i64 x.1) := ZF.cell 0 (by omega)
  have h1 : W6.cell? ⟨w.heap.size, 1, none⟩ = some (.int .i64 x.2.1) := ZF.cell 1 (by omega)
  have h2 : W6.cell? ⟨w.heap.size, 2, none⟩ = some (.int .i64 x.2.2.1) := ZF.cell 2 (by omega)
  have h3 : W6.cell? ⟨w.heap.size, 3, none⟩ = some (.int .i64 x.2.2.2.1) := ZF.cell 3 (by omega)
  have h4 : W6.cell? ⟨w.heap.size, 4, none⟩ = some (.int .i64 x.2.2.2.2) := ZF.cell 4 (by omega)
  refine bodyPost_ret (v := .tuple #[.slice (some ⟨g, 0, none⟩) l.length cl, .agg #[.int .i64 x.1, .int .i64 x.2.1, .int .i64 x.2.2.1, .int .i64 x.2.2.2.1, .int .i64 x.2.2.2.2]]) (by simp [results, Try.results29, go_sem, h0, h1, h2, h3, h4]) rfl ⟨cl, g, l, x, rfl, LF, by omega, g5, hl, BF⟩
end Go.Proofs.Ytnkdjnfbllkgiab.draw
