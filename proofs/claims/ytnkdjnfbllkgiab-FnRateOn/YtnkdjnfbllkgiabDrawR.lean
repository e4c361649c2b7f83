/-
  Plain helpers of this seat's proofs: the contract of the function that draws a rate. Conditions: none.
-/
import Derived.Test.YtnkdjnfbllkgiabDrawM
import Derived.Test.YtnkdjnfbllkgiabOnS
import Derived.Maps.AppendAt
namespace Go.Proofs.Ytnkdjnfbllkgiab.draw
open Go.ChangeShapes Go.WideShapes Go.ChangeAt Go.RowKit
open led (F5 z5)
open five (Row At Blk)

def five5 : Array Value := #[.int .i64 1, .int .i64 10, .int .i64 100, .int .i64 7, .int .i64 100]
theorem pick5 (k : Nat) (h : k < 5) : ∃ c : Int, five5[k]? = some (.int .i64 c) := by
  obtain rfl | rfl | rfl | rfl | rfl : k = 0 ∨ k = 1 ∨ k = 2 ∨ k = 3 ∨ k = 4 := by omega
  all_goals exact ⟨_, rfl⟩
theorem Only.trans_below {b : Nat} {w x y : World} (h : Only b w x) (k : Below w.heap.size x y) : Only b w y :=
  ⟨k.os.trans h.os, k.tape.trans h.tape, k.output.trans h.output, Nat.le_trans h.size k.size, fun i hi hne => (k.block i hi).trans (h.block i hi hne)⟩
/-- The cells of five numbers. -/
def cz (x : F5) (j : Nat) : Value := if j = 0 then .int .i64 x.1 else if j = 1 then .int .i64 x.2.1 else if j = 2 then .int .i64 x.2.2.1 else if j = 3 then .int .i64 x.2.2.2.1 else .int .i64 x.2.2.2.2
theorem ints_of {w : World} {g : Nat} {A : Nat → Value} (h : Blk w g 5 A) (h0 : ∃ z, A 0 = .int .i64 z) (h1 : ∃ z, A 1 = .int .i64 z) (h2 : ∃ z, A 2 = .int .i64 z) (h3 : ∃ z, A 3 = .int .i64 z) (h4 : ∃ z, A 4 = .int .i64 z) : ∃ x : F5, Blk w g 5 (cz x) := by
  obtain ⟨z0, e0⟩ := h0
  obtain ⟨z1, e1⟩ := h1
  obtain ⟨z2, e2⟩ := h2
  obtain ⟨z3, e3⟩ := h3
  obtain ⟨z4, e4⟩ := h4
  refine ⟨(z0, z1, z2, z3, z4), h.same fun k hk => ?_⟩
  match k, hk with
  | 0, _ => exact e0.symm
  | 1, _ => exact e1.symm
  | 2, _ => exact e2.symm
  | 3, _ => exact e3.symm
  | 4, _ => exact e4.symm
theorem blkX (w : World) (day k1 k2 n c : Int) : Blk (w.alloc (.cells #[.int .i64 day, .int .i64 k1, .int .i64 k2, .int .i64 n, .int .i64 c] 25)) w.heap.size 5 (cz (day, k1, k2, n, c)) := by
  refine ⟨by simp, fun k hk => ?_, fun k => World.frozen?_alloc_new w _ _ k⟩
  refine five.box_cell (five.box_refl w _) k ?_
  match k, hk with
  | 0, _ => rfl
  | 1, _ => rfl
  | 2, _ => rfl
  | 3, _ => rfl
  | 4, _ => rfl
/-- A rate, drawn. -/
def GotR (w : World) (b len : Nat) (e : Ending) (w' : World) : Prop := ∃ x : F5, e = .returned (.agg #[.int .i64 x.1, .int .i64 x.2.1, .int .i64 x.2.2.1, .int .i64 x.2.2.2.1, .int .i64 x.2.2.2.2]) ∧ Only b w w' ∧ Rd w' b len
set_option maxRecDepth 40000 in
set_option maxHeartbeats 8000000 in
theorem rate (w : World) (b len : Nat) (day : Int) (r : Rd w b len) : Calls Try.prog 47 #[.pointer (some ⟨b, 0, none⟩), .int .i64 day] w (GotR w b len) := by
  have bl := r.lt
  have R0 := Lib.hid (r.alloc (.cells #[.int .i64 0, .int .i64 0, .int .i64 0, .int .i64 0, .int .i64 0] 25))
  have O0 := Lib.hid ((Only.refl b w).alloc (.cells #[.int .i64 0, .int .i64 0, .int .i64 0, .int .i64 0, .int .i64 0] 25))
  have Z0 := Lib.hid (base.blk5 w)
  clear r
  go_enter Try.func47, Try.ntmps47
  go_wp2_with fail
  refine (below _ b len 3 R0.out (by omega) (by omega)).mono ?_
  rintro e w1 ⟨k1, a1, a2, rfl, o1, r1⟩
  have R1 := Lib.hid r1
  have O1 := Lib.hid (O0.out.trans o1)
  have Z1 := Lib.hid (Z0.out.keep (w' := w1) (o1.block _ Z0.out.lt (by omega)) o1.size)
  clear o1 r1
  go_wp2_with fail
  refine (below w1 b len 3 R1.out (by omega) (by omega)).mono ?_
  rintro e w2 ⟨k2, a3, a4, rfl, o2, r2⟩
  have R2 := Lib.hid r2
  have O2 := Lib.hid (O1.out.trans o2)
  have Z2 := Lib.hid (Z1.out.keep (w' := w2) (o2.block _ Z1.out.lt (by omega)) o2.size)
  clear o2 r2
  go_wp2_with fail
  refine (below w2 b len 300 R2.out (by omega) (by omega)).mono ?_
  rintro e w3 ⟨k3, a5, a6, rfl, o3, r3⟩
  have R3 := Lib.hid r3
  have O3 := Lib.hid (O2.out.trans o3)
  have Z3 := Lib.hid (Z2.out.keep (w' := w3) (o3.block _ Z2.out.lt (by omega)) o3.size)
  have s3 := O3.out.size
  clear o3 r3
  go_wp2_with fail
  refine (below _ b len 5 (R3.out.alloc _) (by omega) (by omega)).mono ?_
  rintro e w4 ⟨k5, a7, a8, rfl, o4, r4⟩
  obtain ⟨K5, rfl⟩ := Int.eq_ofNat_of_zero_le a7
  obtain ⟨c, hc0⟩ := pick5 K5 (by omega)
  have hc := (((Tab.new five5 3 w3).only o4 (Nat.lt_of_lt_of_le bl s3)).2 K5).trans hc0
  have R4 := Lib.hid r4
  have O4 := Lib.hid ((O3.out.alloc (.cells five5 3)).trans o4)
  have Z4 := Lib.hid ((Z3.out.keep (w' := w3.alloc (.cells five5 3)) (Below.heap_alloc _ _ _ Z3.out.lt) (by simp)).keep (w' := w4) (o4.block _ (by simp; exact Nat.lt_succ_of_lt Z3.out.lt) (by omega)) o4.size)
  have a9 : (K5 : Int) < 5 := by omega
  have s4 := O4.out.size
  clear o4 r4 hc0
  obtain ⟨k2, rfl⟩ := Int.eq_ofNat_of_zero_le a3
  obtain ⟨k1, rfl⟩ := Int.eq_ofNat_of_zero_le a1
  obtain ⟨k3, rfl⟩ := Int.eq_ofNat_of_zero_le a5
  by_cases hk : k1 = k2
  · subst hk
    obtain ⟨m, hm⟩ : ∃ m : Nat, ((k1 : Int) + 1).tmod 3 = (m : Int) := ⟨(k1 + 1) % 3, by rw [show ((k1 : Int) + 1) = ((k1 + 1 : Nat) : Int) by omega]; rfl⟩
    have q0 : ((k1 : Int) == (k1 : Int)) = true := by simp
    have q0' : (k1 == k1) = true := by simp
    have X5 := Lib.hid (blkX w4 day k1 m (1 + (k3 : Int)) c)
    have R5 := Lib.hid (R4.out.alloc (.cells #[.int .i64 day, .int .i64 (k1 : Int), .int .i64 (m : Int), .int .i64 (1 + (k3 : Int)), .int .i64 c] 25))
    have O5 := Lib.hid (O4.out.alloc (.cells #[.int .i64 day, .int .i64 (k1 : Int), .int .i64 (m : Int), .int .i64 (1 + (k3 : Int)), .int .i64 c] 25))
    have Z5 := Lib.hid (Z4.out.keep (w' := w4.alloc (.cells #[.int .i64 day, .int .i64 (k1 : Int), .int .i64 (m : Int), .int .i64 (1 + (k3 : Int)), .int .i64 c] 25)) (Below.heap_alloc _ _ _ Z4.out.lt) (by simp))
    go_wp2_with fail
    generalize w4.alloc (.cells #[.int .i64 day, .int .i64 (k1 : Int), .int .i64 (m : Int), .int .i64 (1 + (k3 : Int)), .int .i64 c] 25) = w5 at X5 R5 O5 Z5 ⊢
    refine (below w5 b len 20 R5.out (by omega) (by omega)).mono ?_
    rintro e w6 ⟨sw, d1, d2, rfl, o6, r6⟩
    have R6 := Lib.hid r6
    have O6 := Lib.hid (O5.out.trans o6)
    have xb : w4.heap.size ≠ b := Nat.ne_of_gt R4.out.lt
    have X6 := Lib.hid (ints_of (X5.out.keep (w' := w6) (o6.block _ X5.out.lt xb) o6.size) ⟨_, rfl⟩ ⟨_, rfl⟩ ⟨_, rfl⟩ ⟨_, rfl⟩ ⟨_, rfl⟩)
    have Z6 := Lib.hid (Z5.out.keep (w' := w6) (o6.block _ Z5.out.lt (by omega)) o6.size)
    have zx : w.heap.size ≠ w4.heap.size := Nat.ne_of_lt Z4.out.lt
    clear o6 r6 X5 R5 O5 Z5 q0 q0' hc
    obtain ⟨x, hx7⟩ := X6.out
    have X7 := Lib.hid hx7
    clear X6 hx7
    obtain rfl | rfl | rfl | hs : sw = 0 ∨ sw = 1 ∨ sw = 2 ∨ ¬ (sw = 0 ∨ sw = 1 ∨ sw = 2) := by omega
    · go_wp2_with fail
      refine (off w6 b len 1 1000000 R6.out (by omega) (by omega) (by omega)).mono ?_
      rintro e w7 ⟨y, yw, rfl, o7, r7⟩
      have R7 := Lib.hid r7
      have O7 := Lib.hid (O6.out.trans o7)
      have X8 := Lib.hid (X7.out.keep (w' := w7) (o7.block _ X7.out.lt xb) o7.size)
      have Z7 := Lib.hid (Z6.out.keep (w' := w7) (o7.block _ Z6.out.lt (by omega)) o7.size)
      have X9 := Lib.hid (X8.out.set (k := 3) (by omega) (.int .i64 y))
      have Z9 := Lib.hid (Z7.out.other (g' := w4.heap.size) (k := 3) zx (.int .i64 y))
      have O9 := Lib.hid (O7.out.trans_below ((Below.refl w.heap.size w7).setCell (p := ⟨w4.heap.size, 3, none⟩) (show w.heap.size ≤ w4.heap.size from O4.out.size) (.int .i64 y)))
      have R9 := Lib.hid (R7.out.below (B := w4.heap.size) ((Below.refl w4.heap.size w7).setCell (p := ⟨w4.heap.size, 3, none⟩) (Nat.le_refl _) (.int .i64 y)) R4.out.lt)
      have v0 := X8.out.cell 3 (by omega)
      have g0 := X8.out.free 3
      clear o7 r7 yw
      have y0 : (w7.setCell ⟨w4.heap.size, 3, none⟩ (.int .i64 y)).cell? ⟨w4.heap.size, 0, none⟩ = some (.int .i64 x.1) := X9.out.cell 0 (by omega)
      have y1 : (w7.setCell ⟨w4.heap.size, 3, none⟩ (.int .i64 y)).cell? ⟨w4.heap.size, 1, none⟩ = some (.int .i64 x.2.1) := X9.out.cell 1 (by omega)
      have y2 : (w7.setCell ⟨w4.heap.size, 3, none⟩ (.int .i64 y)).cell? ⟨w4.heap.size, 2, none⟩ = some (.int .i64 x.2.2.1) := X9.out.cell 2 (by omega)
      have y3 : (w7.setCell ⟨w4.heap.size, 3, none⟩ (.int .i64 y)).cell? ⟨w4.heap.size, 3, none⟩ = some (.int .i64 y) := X9.out.cell 3 (by omega)
      have y4 : (w7.setCell ⟨w4.heap.size, 3, none⟩ (.int .i64 y)).cell? ⟨w4.heap.size, 4, none⟩ = some (.int .i64 x.2.2.2.2) := X9.out.cell 4 (by omega)
      have p0 := Z9.out.cell 0 (by omega)
      have f0 := Z9.out.free 0
      have p1 := Z9.out.cell 1 (by omega)
      have f1 := Z9.out.free 1
      have p2 := Z9.out.cell 2 (by omega)
      have f2 := Z9.out.free 2
      have p3 := Z9.out.cell 3 (by omega)
      have f3 := Z9.out.free 3
      have p4 := Z9.out.cell 4 (by omega)
      have f4 := Z9.out.free 4
      go_wp2
      have YF := (((((Z9.out.set (k := 0) (by omega) (.int .i64 x.1)).set (k := 1) (by omega) (.int .i64 x.2.1)).set (k := 2) (by omega) (.int .i64 x.2.2.1)).set (k := 3) (by omega) (.int .i64 y)).set (k := 4) (by omega) (.int .i64 x.2.2.2.2))
      have BL := ((((((Below.refl w.heap.size (w7.setCell ⟨w4.heap.size, 3, none⟩ (.int .i64 y))).setCell (p := ⟨w.heap.size, 0, none⟩) (Nat.le_refl _) (.int .i64 x.1)).setCell (p := ⟨w.heap.size, 1, none⟩) (Nat.le_refl _) (.int .i64 x.2.1)).setCell (p := ⟨w.heap.size, 2, none⟩) (Nat.le_refl _) (.int .i64 x.2.2.1)).setCell (p := ⟨w.heap.size, 3, none⟩) (Nat.le_refl _) (.int .i64 y)).setCell (p := ⟨w.heap.size, 4, none⟩) (Nat.le_refl _) (.int .i64 x.2.2.2.2))
      generalize ((((((w7.setCell ⟨w4.heap.size, 3, none⟩ (.int .i64 y)).setCell ⟨w.heap.size, 0, none⟩ (.int .i64 x.1)).setCell ⟨w.heap.size, 1, none⟩ (.int .i64 x.2.1)).setCell ⟨w.heap.size, 2, none⟩ (.int .i64 x.2.2.1)).setCell ⟨w.heap.size, 3, none⟩ (.int .i64 y)).setCell ⟨w.heap.size, 4, none⟩ (.int .i64 x.2.2.2.2)) = W6 at YF BL ⊢
      have c0 : W6.cell? ⟨w.heap.size, 0, none⟩ = some (.int .i64 x.1) := YF.cell 0 (by omega)
      have c1 : W6.cell? ⟨w.heap.size, 1, none⟩ = some (.int .i64 x.2.1) := YF.cell 1 (by omega)
      have c2 : W6.cell? ⟨w.heap.size, 2, none⟩ = some (.int .i64 x.2.2.1) := YF.cell 2 (by omega)
      have c3 : W6.cell? ⟨w.heap.size, 3, none⟩ = some (.int .i64 y) := YF.cell 3 (by omega)
      have c4 : W6.cell? ⟨w.heap.size, 4, none⟩ = some (.int .i64 x.2.2.2.2) := YF.cell 4 (by omega)
      have OF := Lib.hid (O9.out.trans_below BL)
      have RF := Lib.hid (R9.out.below BL bl)
      clear YF BL
      refine bodyPost_ret (v := .agg #[.int .i64 x.1, .int .i64 x.2.1, .int .i64 x.2.2.1, .int .i64 y, .int .i64 x.2.2.2.2]) (by simp [results, Try.results47, go_sem, c0, c1, c2, c3, c4]) rfl ⟨(x.1, x.2.1, x.2.2.1, y, x.2.2.2.2), rfl, OF.out, RF.out⟩
    · go_wp2_with fail
      refine (off w6 b len 1 1000000 R6.out (by omega) (by omega) (by omega)).mono ?_
      rintro e w7 ⟨y, yw, rfl, o7, r7⟩
      have R7 := Lib.hid r7
      have O7 := Lib.hid (O6.out.trans o7)
      have X8 := Lib.hid (X7.out.keep (w' := w7) (o7.block _ X7.out.lt xb) o7.size)
      have Z7 := Lib.hid (Z6.out.keep (w' := w7) (o7.block _ Z6.out.lt (by omega)) o7.size)
      have X9 := Lib.hid (X8.out.set (k := 4) (by omega) (.int .i64 y))
      have Z9 := Lib.hid (Z7.out.other (g' := w4.heap.size) (k := 4) zx (.int .i64 y))
      have O9 := Lib.hid (O7.out.trans_below ((Below.refl w.heap.size w7).setCell (p := ⟨w4.heap.size, 4, none⟩) (show w.heap.size ≤ w4.heap.size from O4.out.size) (.int .i64 y)))
      have R9 := Lib.hid (R7.out.below (B := w4.heap.size) ((Below.refl w4.heap.size w7).setCell (p := ⟨w4.heap.size, 4, none⟩) (Nat.le_refl _) (.int .i64 y)) R4.out.lt)
      have v0 := X8.out.cell 4 (by omega)
      have g0 := X8.out.free 4
      clear o7 r7 yw
      have y0 : (w7.setCell ⟨w4.heap.size, 4, none⟩ (.int .i64 y)).cell? ⟨w4.heap.size, 0, none⟩ = some (.int .i64 x.1) := X9.out.cell 0 (by omega)
      have y1 : (w7.setCell ⟨w4.heap.size, 4, none⟩ (.int .i64 y)).cell? ⟨w4.heap.size, 1, none⟩ = some (.int .i64 x.2.1) := X9.out.cell 1 (by omega)
      have y2 : (w7.setCell ⟨w4.heap.size, 4, none⟩ (.int .i64 y)).cell? ⟨w4.heap.size, 2, none⟩ = some (.int .i64 x.2.2.1) := X9.out.cell 2 (by omega)
      have y3 : (w7.setCell ⟨w4.heap.size, 4, none⟩ (.int .i64 y)).cell? ⟨w4.heap.size, 3, none⟩ = some (.int .i64 x.2.2.2.1) := X9.out.cell 3 (by omega)
      have y4 : (w7.setCell ⟨w4.heap.size, 4, none⟩ (.int .i64 y)).cell? ⟨w4.heap.size, 4, none⟩ = some (.int .i64 y) := X9.out.cell 4 (by omega)
      have p0 := Z9.out.cell 0 (by omega)
      have f0 := Z9.out.free 0
      have p1 := Z9.out.cell 1 (by omega)
      have f1 := Z9.out.free 1
      have p2 := Z9.out.cell 2 (by omega)
      have f2 := Z9.out.free 2
      have p3 := Z9.out.cell 3 (by omega)
      have f3 := Z9.out.free 3
      have p4 := Z9.out.cell 4 (by omega)
      have f4 := Z9.out.free 4
      go_wp2
      have YF := (((((Z9.out.set (k := 0) (by omega) (.int .i64 x.1)).set (k := 1) (by omega) (.int .i64 x.2.1)).set (k := 2) (by omega) (.int .i64 x.2.2.1)).set (k := 3) (by omega) (.int .i64 x.2.2.2.1)).set (k := 4) (by omega) (.int .i64 y))
      have BL := ((((((Below.refl w.heap.size (w7.setCell ⟨w4.heap.size, 4, none⟩ (.int .i64 y))).setCell (p := ⟨w.heap.size, 0, none⟩) (Nat.le_refl _) (.int .i64 x.1)).setCell (p := ⟨w.heap.size, 1, none⟩) (Nat.le_refl _) (.int .i64 x.2.1)).setCell (p := ⟨w.heap.size, 2, none⟩) (Nat.le_refl _) (.int .i64 x.2.2.1)).setCell (p := ⟨w.heap.size, 3, none⟩) (Nat.le_refl _) (.int .i64 x.2.2.2.1)).setCell (p := ⟨w.heap.size, 4, none⟩) (Nat.le_refl _) (.int .i64 y))
      generalize ((((((w7.setCell ⟨w4.heap.size, 4, none⟩ (.int .i64 y)).setCell ⟨w.heap.size, 0, none⟩ (.int .i64 x.1)).setCell ⟨w.heap.size, 1, none⟩ (.int .i64 x.2.1)).setCell ⟨w.heap.size, 2, none⟩ (.int .i64 x.2.2.1)).setCell ⟨w.heap.size, 3, none⟩ (.int .i64 x.2.2.2.1)).setCell ⟨w.heap.size, 4, none⟩ (.int .i64 y)) = W6 at YF BL ⊢
      have c0 : W6.cell? ⟨w.heap.size, 0, none⟩ = some (.int .i64 x.1) := YF.cell 0 (by omega)
      have c1 : W6.cell? ⟨w.heap.size, 1, none⟩ = some (.int .i64 x.2.1) := YF.cell 1 (by omega)
      have c2 : W6.cell? ⟨w.heap.size, 2, none⟩ = some (.int .i64 x.2.2.1) := YF.cell 2 (by omega)
      have c3 : W6.cell? ⟨w.heap.size, 3, none⟩ = some (.int .i64 x.2.2.2.1) := YF.cell 3 (by omega)
      have c4 : W6.cell? ⟨w.heap.size, 4, none⟩ = some (.int .i64 y) := YF.cell 4 (by omega)
      have OF := Lib.hid (O9.out.trans_below BL)
      have RF := Lib.hid (R9.out.below BL bl)
      clear YF BL
      refine bodyPost_ret (v := .agg #[.int .i64 x.1, .int .i64 x.2.1, .int .i64 x.2.2.1, .int .i64 x.2.2.2.1, .int .i64 y]) (by simp [results, Try.results47, go_sem, c0, c1, c2, c3, c4]) rfl ⟨(x.1, x.2.1, x.2.2.1, x.2.2.2.1, y), rfl, OF.out, RF.out⟩
    · go_wp2_with fail
      refine (off w6 b len 0 5 R6.out (by omega) (by omega) (by omega)).mono ?_
      rintro e w7 ⟨y, yw, rfl, o7, r7⟩
      have R7 := Lib.hid r7
      have O7 := Lib.hid (O6.out.trans o7)
      have X8 := Lib.hid (X7.out.keep (w' := w7) (o7.block _ X7.out.lt xb) o7.size)
      have Z7 := Lib.hid (Z6.out.keep (w' := w7) (o7.block _ Z6.out.lt (by omega)) o7.size)
      have X9 := Lib.hid (X8.out.set (k := 2) (by omega) (.int .i64 y))
      have Z9 := Lib.hid (Z7.out.other (g' := w4.heap.size) (k := 2) zx (.int .i64 y))
      have O9 := Lib.hid (O7.out.trans_below ((Below.refl w.heap.size w7).setCell (p := ⟨w4.heap.size, 2, none⟩) (show w.heap.size ≤ w4.heap.size from O4.out.size) (.int .i64 y)))
      have R9 := Lib.hid (R7.out.below (B := w4.heap.size) ((Below.refl w4.heap.size w7).setCell (p := ⟨w4.heap.size, 2, none⟩) (Nat.le_refl _) (.int .i64 y)) R4.out.lt)
      have v0 := X8.out.cell 2 (by omega)
      have g0 := X8.out.free 2
      clear o7 r7 yw
      have y0 : (w7.setCell ⟨w4.heap.size, 2, none⟩ (.int .i64 y)).cell? ⟨w4.heap.size, 0, none⟩ = some (.int .i64 x.1) := X9.out.cell 0 (by omega)
      have y1 : (w7.setCell ⟨w4.heap.size, 2, none⟩ (.int .i64 y)).cell? ⟨w4.heap.size, 1, none⟩ = some (.int .i64 x.2.1) := X9.out.cell 1 (by omega)
      have y2 : (w7.setCell ⟨w4.heap.size, 2, none⟩ (.int .i64 y)).cell? ⟨w4.heap.size, 2, none⟩ = some (.int .i64 y) := X9.out.cell 2 (by omega)
      have y3 : (w7.setCell ⟨w4.heap.size, 2, none⟩ (.int .i64 y)).cell? ⟨w4.heap.size, 3, none⟩ = some (.int .i64 x.2.2.2.1) := X9.out.cell 3 (by omega)
      have y4 : (w7.setCell ⟨w4.heap.size, 2, none⟩ (.int .i64 y)).cell? ⟨w4.heap.size, 4, none⟩ = some (.int .i64 x.2.2.2.2) := X9.out.cell 4 (by omega)
      have p0 := Z9.out.cell 0 (by omega)
      have f0 := Z9.out.free 0
      have p1 := Z9.out.cell 1 (by omega)
      have f1 := Z9.out.free 1
      have p2 := Z9.out.cell 2 (by omega)
      have f2 := Z9.out.free 2
      have p3 := Z9.out.cell 3 (by omega)
      have f3 := Z9.out.free 3
      have p4 := Z9.out.cell 4 (by omega)
      have f4 := Z9.out.free 4
      go_wp2
      have YF := (((((Z9.out.set (k := 0) (by omega) (.int .i64 x.1)).set (k := 1) (by omega) (.int .i64 x.2.1)).set (k := 2) (by omega) (.int .i64 y)).set (k := 3) (by omega) (.int .i64 x.2.2.2.1)).set (k := 4) (by omega) (.int .i64 x.2.2.2.2))
      have BL := ((((((Below.refl w.heap.size (w7.setCell ⟨w4.heap.size, 2, none⟩ (.int .i64 y))).setCell (p := ⟨w.heap.size, 0, none⟩) (Nat.le_refl _) (.int .i64 x.1)).setCell (p := ⟨w.heap.size, 1, none⟩) (Nat.le_refl _) (.int .i64 x.2.1)).setCell (p := ⟨w.heap.size, 2, none⟩) (Nat.le_refl _) (.int .i64 y)).setCell (p := ⟨w.heap.size, 3, none⟩) (Nat.le_refl _) (.int .i64 x.2.2.2.1)).setCell (p := ⟨w.heap.size, 4, none⟩) (Nat.le_refl _) (.int .i64 x.2.2.2.2))
      generalize ((((((w7.setCell ⟨w4.heap.size, 2, none⟩ (.int .i64 y)).setCell ⟨w.heap.size, 0, none⟩ (.int .i64 x.1)).setCell ⟨w.heap.size, 1, none⟩ (.int .i64 x.2.1)).setCell ⟨w.heap.size, 2, none⟩ (.int .i64 y)).setCell ⟨w.heap.size, 3, none⟩ (.int .i64 x.2.2.2.1)).setCell ⟨w.heap.size, 4, none⟩ (.int .i64 x.2.2.2.2)) = W6 at YF BL ⊢
      have c0 : W6.cell? ⟨w.heap.size, 0, none⟩ = some (.int .i64 x.1) := YF.cell 0 (by omega)
      have c1 : W6.cell? ⟨w.heap.size, 1, none⟩ = some (.int .i64 x.2.1) := YF.cell 1 (by omega)
      have c2 : W6.cell? ⟨w.heap.size, 2, none⟩ = some (.int .i64 y) := YF.cell 2 (by omega)
      have c3 : W6.cell? ⟨w.heap.size, 3, none⟩ = some (.int .i64 x.2.2.2.1) := YF.cell 3 (by omega)
      have c4 : W6.cell? ⟨w.heap.size, 4, none⟩ = some (.int .i64 x.2.2.2.2) := YF.cell 4 (by omega)
      have OF := Lib.hid (O9.out.trans_below BL)
      have RF := Lib.hid (R9.out.below BL bl)
      clear YF BL
      refine bodyPost_ret (v := .agg #[.int .i64 x.1, .int .i64 x.2.1, .int .i64 y, .int .i64 x.2.2.2.1, .int .i64 x.2.2.2.2]) (by simp [results, Try.results47, go_sem, c0, c1, c2, c3, c4]) rfl ⟨(x.1, x.2.1, y, x.2.2.2.1, x.2.2.2.2), rfl, OF.out, RF.out⟩
    · have t0 : (sw == 0) = false := by simp; omega
      have t1 : (sw == 1) = false := by simp; omega
      have t2 : (sw == 2) = false := by simp; omega
      have y0 : w6.cell? ⟨w4.heap.size, 0, none⟩ = some (.int .i64 x.1) := X7.out.cell 0 (by omega)
      have y1 : w6.cell? ⟨w4.heap.size, 1, none⟩ = some (.int .i64 x.2.1) := X7.out.cell 1 (by omega)
      have y2 : w6.cell? ⟨w4.heap.size, 2, none⟩ = some (.int .i64 x.2.2.1) := X7.out.cell 2 (by omega)
      have y3 : w6.cell? ⟨w4.heap.size, 3, none⟩ = some (.int .i64 x.2.2.2.1) := X7.out.cell 3 (by omega)
      have y4 : w6.cell? ⟨w4.heap.size, 4, none⟩ = some (.int .i64 x.2.2.2.2) := X7.out.cell 4 (by omega)
      have p0 := Z6.out.cell 0 (by omega)
      have f0 := Z6.out.free 0
      have p1 := Z6.out.cell 1 (by omega)
      have f1 := Z6.out.free 1
      have p2 := Z6.out.cell 2 (by omega)
      have f2 := Z6.out.free 2
      have p3 := Z6.out.cell 3 (by omega)
      have f3 := Z6.out.free 3
      have p4 := Z6.out.cell 4 (by omega)
      have f4 := Z6.out.free 4
      go_wp2
      have YF := (((((Z6.out.set (k := 0) (by omega) (.int .i64 x.1)).set (k := 1) (by omega) (.int .i64 x.2.1)).set (k := 2) (by omega) (.int .i64 x.2.2.1)).set (k := 3) (by omega) (.int .i64 x.2.2.2.1)).set (k := 4) (by omega) (.int .i64 x.2.2.2.2))
      have BL := ((((((Below.refl w.heap.size w6).setCell (p := ⟨w.heap.size, 0, none⟩) (Nat.le_refl _) (.int .i64 x.1)).setCell (p := ⟨w.heap.size, 1, none⟩) (Nat.le_refl _) (.int .i64 x.2.1)).setCell (p := ⟨w.heap.size, 2, none⟩) (Nat.le_refl _) (.int .i64 x.2.2.1)).setCell (p := ⟨w.heap.size, 3, none⟩) (Nat.le_refl _) (.int .i64 x.2.2.2.1)).setCell (p := ⟨w.heap.size, 4, none⟩) (Nat.le_refl _) (.int .i64 x.2.2.2.2))
      generalize (((((w6.setCell ⟨w.heap.size, 0, none⟩ (.int .i64 x.1)).setCell ⟨w.heap.size, 1, none⟩ (.int .i64 x.2.1)).setCell ⟨w.heap.size, 2, none⟩ (.int .i64 x.2.2.1)).setCell ⟨w.heap.size, 3, none⟩ (.int .i64 x.2.2.2.1)).setCell ⟨w.heap.size, 4, none⟩ (.int .i64 x.2.2.2.2)) = W6 at YF BL ⊢
      have c0 : W6.cell? ⟨w.heap.size, 0, none⟩ = some (.int .i64 x.1) := YF.cell 0 (by omega)
      have c1 : W6.cell? ⟨w.heap.size, 1, none⟩ = some (.int .i64 x.2.1) := YF.cell 1 (by omega)
      have c2 : W6.cell? ⟨w.heap.size, 2, none⟩ = some (.int .i64 x.2.2.1) := YF.cell 2 (by omega)
      have c3 : W6.cell? ⟨w.heap.size, 3, none⟩ = some (.int .i64 x.2.2.2.1) := YF.cell 3 (by omega)
      have c4 : W6.cell? ⟨w.heap.size, 4, none⟩ = some (.int .i64 x.2.2.2.2) := YF.cell 4 (by omega)
      have OF := Lib.hid (O6.out.trans_below BL)
      have RF := Lib.hid (R6.out.below BL bl)
      clear YF BL
      refine bodyPost_ret (v := .agg #[.int .i64 x.1, .int .i64 x.2.1, .int .i64 x.2.2.1, .int .i64 x.2.2.2.1, .int .i64 x.2.2.2.2]) (by simp [results, Try.results47, go_sem, c0, c1, c2, c3, c4]) rfl ⟨(x.1, x.2.1, x.2.2.1, x.2.2.2.1, x.2.2.2.2), rfl, OF.out, RF.out⟩
  · have q0 : ((k1 : Int) == (k2 : Int)) = false := by simp; omega
    have q0' : (k1 == k2) = false := by simp; omega
    have X5 := Lib.hid (blkX w4 day k1 k2 (1 + (k3 : Int)) c)
    have R5 := Lib.hid (R4.out.alloc (.cells #[.int .i64 day, .int .i64 (k1 : Int), .int .i64 (k2 : Int), .int .i64 (1 + (k3 : Int)), .int .i64 c] 25))
    have O5 := Lib.hid (O4.out.alloc (.cells #[.int .i64 day, .int .i64 (k1 : Int), .int .i64 (k2 : Int), .int .i64 (1 + (k3 : Int)), .int .i64 c] 25))
    have Z5 := Lib.hid (Z4.out.keep (w' := w4.alloc (.cells #[.int .i64 day, .int .i64 (k1 : Int), .int .i64 (k2 : Int), .int .i64 (1 + (k3 : Int)), .int .i64 c] 25)) (Below.heap_alloc _ _ _ Z4.out.lt) (by simp))
    go_wp2_with fail
    generalize w4.alloc (.cells #[.int .i64 day, .int .i64 (k1 : Int), .int .i64 (k2 : Int), .int .i64 (1 + (k3 : Int)), .int .i64 c] 25) = w5 at X5 R5 O5 Z5 ⊢
    refine (below w5 b len 20 R5.out (by omega) (by omega)).mono ?_
    rintro e w6 ⟨sw, d1, d2, rfl, o6, r6⟩
    have R6 := Lib.hid r6
    have O6 := Lib.hid (O5.out.trans o6)
    have xb : w4.heap.size ≠ b := Nat.ne_of_gt R4.out.lt
    have X6 := Lib.hid (ints_of (X5.out.keep (w' := w6) (o6.block _ X5.out.lt xb) o6.size) ⟨_, rfl⟩ ⟨_, rfl⟩ ⟨_, rfl⟩ ⟨_, rfl⟩ ⟨_, rfl⟩)
    have Z6 := Lib.hid (Z5.out.keep (w' := w6) (o6.block _ Z5.out.lt (by omega)) o6.size)
    have zx : w.heap.size ≠ w4.heap.size := Nat.ne_of_lt Z4.out.lt
    clear o6 r6 X5 R5 O5 Z5 q0 q0' hc
    obtain ⟨x, hx7⟩ := X6.out
    have X7 := Lib.hid hx7
    clear X6 hx7
    obtain rfl | rfl | rfl | hs : sw = 0 ∨ sw = 1 ∨ sw = 2 ∨ ¬ (sw = 0 ∨ sw = 1 ∨ sw = 2) := by omega
    · go_wp2_with fail
      refine (off w6 b len 1 1000000 R6.out (by omega) (by omega) (by omega)).mono ?_
      rintro e w7 ⟨y, yw, rfl, o7, r7⟩
      have R7 := Lib.hid r7
      have O7 := Lib.hid (O6.out.trans o7)
      have X8 := Lib.hid (X7.out.keep (w' := w7) (o7.block _ X7.out.lt xb) o7.size)
      have Z7 := Lib.hid (Z6.out.keep (w' := w7) (o7.block _ Z6.out.lt (by omega)) o7.size)
      have X9 := Lib.hid (X8.out.set (k := 3) (by omega) (.int .i64 y))
      have Z9 := Lib.hid (Z7.out.other (g' := w4.heap.size) (k := 3) zx (.int .i64 y))
      have O9 := Lib.hid (O7.out.trans_below ((Below.refl w.heap.size w7).setCell (p := ⟨w4.heap.size, 3, none⟩) (show w.heap.size ≤ w4.heap.size from O4.out.size) (.int .i64 y)))
      have R9 := Lib.hid (R7.out.below (B := w4.heap.size) ((Below.refl w4.heap.size w7).setCell (p := ⟨w4.heap.size, 3, none⟩) (Nat.le_refl _) (.int .i64 y)) R4.out.lt)
      have v0 := X8.out.cell 3 (by omega)
      have g0 := X8.out.free 3
      clear o7 r7 yw
      have y0 : (w7.setCell ⟨w4.heap.size, 3, none⟩ (.int .i64 y)).cell? ⟨w4.heap.size, 0, none⟩ = some (.int .i64 x.1) := X9.out.cell 0 (by omega)
      have y1 : (w7.setCell ⟨w4.heap.size, 3, none⟩ (.int .i64 y)).cell? ⟨w4.heap.size, 1, none⟩ = some (.int .i64 x.2.1) := X9.out.cell 1 (by omega)
      have y2 : (w7.setCell ⟨w4.heap.size, 3, none⟩ (.int .i64 y)).cell? ⟨w4.heap.size, 2, none⟩ = some (.int .i64 x.2.2.1) := X9.out.cell 2 (by omega)
      have y3 : (w7.setCell ⟨w4.heap.size, 3, none⟩ (.int .i64 y)).cell? ⟨w4.heap.size, 3, none⟩ = some (.int .i64 y) := X9.out.cell 3 (by omega)
      have y4 : (w7.setCell ⟨w4.heap.size, 3, none⟩ (.int .i64 y)).cell? ⟨w4.heap.size, 4, none⟩ = some (.int .i64 x.2.2.2.2) := X9.out.cell 4 (by omega)
      have p0 := Z9.out.cell 0 (by omega)
      have f0 := Z9.out.free 0
      have p1 := Z9.out.cell 1 (by omega)
      have f1 := Z9.out.free 1
      have p2 := Z9.out.cell 2 (by omega)
      have f2 := Z9.out.free 2
      have p3 := Z9.out.cell 3 (by omega)
      have f3 := Z9.out.free 3
      have p4 := Z9.out.cell 4 (by omega)
      have f4 := Z9.out.free 4
      go_wp2
      have YF := (((((Z9.out.set (k := 0) (by omega) (.int .i64 x.1)).set (k := 1) (by omega) (.int .i64 x.2.1)).set (k := 2) (by omega) (.int .i64 x.2.2.1)).set (k := 3) (by omega) (.int .i64 y)).set (k := 4) (by omega) (.int .i64 x.2.2.2.2))
      have BL := ((((((Below.refl w.heap.size (w7.setCell ⟨w4.heap.size, 3, none⟩ (.int .i64 y))).setCell (p := ⟨w.heap.size, 0, none⟩) (Nat.le_refl _) (.int .i64 x.1)).setCell (p := ⟨w.heap.size, 1, none⟩) (Nat.le_refl _) (.int .i64 x.2.1)).setCell (p := ⟨w.heap.size, 2, none⟩) (Nat.le_refl _) (.int .i64 x.2.2.1)).setCell (p := ⟨w.heap.size, 3, none⟩) (Nat.le_refl _) (.int .i64 y)).setCell (p := ⟨w.heap.size, 4, none⟩) (Nat.le_refl _) (.int .i64 x.2.2.2.2))
      generalize ((((((w7.setCell ⟨w4.heap.size, 3, none⟩ (.int .i64 y)).setCell ⟨w.heap.size, 0, none⟩ (.int .i64 x.1)).setCell ⟨w.heap.size, 1, none⟩ (.int .i64 x.2.1)).setCell ⟨w.heap.size, 2, none⟩ (.int .i64 x.2.2.1)).setCell ⟨w.heap.size, 3, none⟩ (.int .i64 y)).setCell ⟨w.heap.size, 4, none⟩ (.int .i64 x.2.2.2.2)) = W6 at YF BL ⊢
      have c0 : W6.cell? ⟨w.heap.size, 0, none⟩ = some (.int .i64 x.1) := YF.cell 0 (by omega)
      have c1 : W6.cell? ⟨w.heap.size, 1, none⟩ = some (.int .i64 x.2.1) := YF.cell 1 (by omega)
      have c2 : W6.cell? ⟨w.heap.size, 2, none⟩ = some (.int .i64 x.2.2.1) := YF.cell 2 (by omega)
      have c3 : W6.cell? ⟨w.heap.size, 3, none⟩ = some (.int .i64 y) := YF.cell 3 (by omega)
      have c4 : W6.cell? ⟨w.heap.size, 4, none⟩ = some (.int .i64 x.2.2.2.2) := YF.cell 4 (by omega)
      have OF := Lib.hid (O9.out.trans_below BL)
      have RF := Lib.hid (R9.out.below BL bl)
      clear YF BL
      refine bodyPost_ret (v := .agg #[.int .i64 x.1, .int .i64 x.2.1, .int .i64 x.2.2.1, .int .i64 y, .int .i64 x.2.2.2.2]) (by simp [results, Try.results47, go_sem, c0, c1, c2, c3, c4]) rfl ⟨(x.1, x.2.1, x.2.2.1, y, x.2.2.2.2), rfl, OF.out, RF.out⟩
    · go_wp2_with fail
      refine (off w6 b len 1 1000000 R6.out (by omega) (by omega) (by omega)).mono ?_
      rintro e w7 ⟨y, yw, rfl, o7, r7⟩
      have R7 := Lib.hid r7
      have O7 := Lib.hid (O6.out.trans o7)
      have X8 := Lib.hid (X7.out.keep (w' := w7) (o7.block _ X7.out.lt xb) o7.size)
      have Z7 := Lib.hid (Z6.out.keep (w' := w7) (o7.block _ Z6.out.lt (by omega)) o7.size)
      have X9 := Lib.hid (X8.out.set (k := 4) (by omega) (.int .i64 y))
      have Z9 := Lib.hid (Z7.out.other (g' := w4.heap.size) (k := 4) zx (.int .i64 y))
      have O9 := Lib.hid (O7.out.trans_below ((Below.refl w.heap.size w7).setCell (p := ⟨w4.heap.size, 4, none⟩) (show w.heap.size ≤ w4.heap.size from O4.out.size) (.int .i64 y)))
      have R9 := Lib.hid (R7.out.below (B := w4.heap.size) ((Below.refl w4.heap.size w7).setCell (p := ⟨w4.heap.size, 4, none⟩) (Nat.le_refl _) (.int .i64 y)) R4.out.lt)
      have v0 := X8.out.cell 4 (by omega)
      have g0 := X8.out.free 4
      clear o7 r7 yw
      have y0 : (w7.setCell ⟨w4.heap.size, 4, none⟩ (.int .i64 y)).cell? ⟨w4.heap.size, 0, none⟩ = some (.int .i64 x.1) := X9.out.cell 0 (by omega)
      have y1 : (w7.setCell ⟨w4.heap.size, 4, none⟩ (.int .i64 y)).cell? ⟨w4.heap.size, 1, none⟩ = some (.int .i64 x.2.1) := X9.out.cell 1 (by omega)
      have y2 : (w7.setCell ⟨w4.heap.size, 4, none⟩ (.int .i64 y)).cell? ⟨w4.heap.size, 2, none⟩ = some (.int .i64 x.2.2.1) := X9.out.cell 2 (by omega)
      have y3 : (w7.setCell ⟨w4.heap.size, 4, none⟩ (.int .i64 y)).cell? ⟨w4.heap.size, 3, none⟩ = some (.int .i64 x.2.2.2.1) := X9.out.cell 3 (by omega)
      have y4 : (w7.setCell ⟨w4.heap.size, 4, none⟩ (.int .i64 y)).cell? ⟨w4.heap.size, 4, none⟩ = some (.int .i64 y) := X9.out.cell 4 (by omega)
      have p0 := Z9.out.cell 0 (by omega)
      have f0 := Z9.out.free 0
      have p1 := Z9.out.cell 1 (by omega)
      have f1 := Z9.out.free 1
      have p2 := Z9.out.cell 2 (by omega)
      have f2 := Z9.out.free 2
      have p3 := Z9.out.cell 3 (by omega)
      have f3 := Z9.out.free 3
      have p4 := Z9.out.cell 4 (by omega)
      have f4 := Z9.out.free 4
      go_wp2
      have YF := (((((Z9.out.set (k := 0) (by omega) (.int .i64 x.1)).set (k := 1) (by omega) (.int .i64 x.2.1)).set (k := 2) (by omega) (.int .i64 x.2.2.1)).set (k := 3) (by omega) (.int .i64 x.2.2.2.1)).set (k := 4) (by omega) (.int .i64 y))
      have BL := ((((((Below.refl w.heap.size (w7.setCell ⟨w4.heap.size, 4, none⟩ (.int .i64 y))).setCell (p := ⟨w.heap.size, 0, none⟩) (Nat.le_refl _) (.int .i64 x.1)).setCell (p := ⟨w.heap.size, 1, none⟩) (Nat.le_refl _) (.int .i64 x.2.1)).setCell (p := ⟨w.heap.size, 2, none⟩) (Nat.le_refl _) (.int .i64 x.2.2.1)).setCell (p := ⟨w.heap.size, 3, none⟩) (Nat.le_refl _) (.int .i64 x.2.2.2.1)).setCell (p := ⟨w.heap.size, 4, none⟩) (Nat.le_refl _) (.int .i64 y))
      generalize ((((((w7.setCell ⟨w4.heap.size, 4, none⟩ (.int .i64 y)).setCell ⟨w.heap.size, 0, none⟩ (.int .i64 x.1)).setCell ⟨w.heap.size, 1, none⟩ (.int .i64 x.2.1)).setCell ⟨w.heap.size, 2, none⟩ (.int .i64 x.2.2.1)).setCell ⟨w.heap.size, 3, none⟩ (.int .i64 x.2.2.2.1)).setCell ⟨w.heap.size, 4, none⟩ (.int .i64 y)) = W6 at YF BL ⊢
      have c0 : W6.cell? ⟨w.heap.size, 0, none⟩ = some (.int .i64 x.1) := YF.cell 0 (by omega)
      have c1 : W6.cell? ⟨w.heap.size, 1, none⟩ = some (.int .i64 x.2.1) := YF.cell 1 (by omega)
      have c2 : W6.cell? ⟨w.heap.size, 2, none⟩ = some (.int .i64 x.2.2.1) := YF.cell 2 (by omega)
      have c3 : W6.cell? ⟨w.heap.size, 3, none⟩ = some (.int .i64 x.2.2.2.1) := YF.cell 3 (by omega)
      have c4 : W6.cell? ⟨w.heap.size, 4, none⟩ = some (.int .i64 y) := YF.cell 4 (by omega)
      have OF := Lib.hid (O9.out.trans_below BL)
      have RF := Lib.hid (R9.out.below BL bl)
      clear YF BL
      refine bodyPost_ret (v := .agg #[.int .i64 x.1, .int .i64 x.2.1, .int .i64 x.2.2.1, .int .i64 x.2.2.2.1, .int .i64 y]) (by simp [results, Try.results47, go_sem, c0, c1, c2, c3, c4]) rfl ⟨(x.1, x.2.1, x.2.2.1, x.2.2.2.1, y), rfl, OF.out, RF.out⟩
    · go_wp2_with fail
      refine (off w6 b len 0 5 R6.out (by omega) (by omega) (by omega)).mono ?_
      rintro e w7 ⟨y, yw, rfl, o7, r7⟩
      have R7 := Lib.hid r7
      have O7 := Lib.hid (O6.out.trans o7)
      have X8 := Lib.hid (X7.out.keep (w' := w7) (o7.block _ X7.out.lt xb) o7.size)
      have Z7 := Lib.hid (Z6.out.keep (w' := w7) (o7.block _ Z6.out.lt (by omega)) o7.size)
      have X9 := Lib.hid (X8.out.set (k := 2) (by omega) (.int .i64 y))
      have Z9 := Lib.hid (Z7.out.other (g' := w4.heap.size) (k := 2) zx (.int .i64 y))
      have O9 := Lib.hid (O7.out.trans_below ((Below.refl w.heap.size w7).setCell (p := ⟨w4.heap.size, 2, none⟩) (show w.heap.size ≤ w4.heap.size from O4.out.size) (.int .i64 y)))
      have R9 := Lib.hid (R7.out.below (B := w4.heap.size) ((Below.refl w4.heap.size w7).setCell (p := ⟨w4.heap.size, 2, none⟩) (Nat.le_refl _) (.int .i64 y)) R4.out.lt)
      have v0 := X8.out.cell 2 (by omega)
      have g0 := X8.out.free 2
      clear o7 r7 yw
      have y0 : (w7.setCell ⟨w4.heap.size, 2, none⟩ (.int .i64 y)).cell? ⟨w4.heap.size, 0, none⟩ = some (.int .i64 x.1) := X9.out.cell 0 (by omega)
      have y1 : (w7.setCell ⟨w4.heap.size, 2, none⟩ (.int .i64 y)).cell? ⟨w4.heap.size, 1, none⟩ = some (.int .i64 x.2.1) := X9.out.cell 1 (by omega)
      have y2 : (w7.setCell ⟨w4.heap.size, 2, none⟩ (.int .i64 y)).cell? ⟨w4.heap.size, 2, none⟩ = some (.int .i64 y) := X9.out.cell 2 (by omega)
      have y3 : (w7.setCell ⟨w4.heap.size, 2, none⟩ (.int .i64 y)).cell? ⟨w4.heap.size, 3, none⟩ = some (.int .i64 x.2.2.2.1) := X9.out.cell 3 (by omega)
      have y4 : (w7.setCell ⟨w4.heap.size, 2, none⟩ (.int .i64 y)).cell? ⟨w4.heap.size, 4, none⟩ = some (.int .i64 x.2.2.2.2) := X9.out.cell 4 (by omega)
      have p0 := Z9.out.cell 0 (by omega)
      have f0 := Z9.out.free 0
      have p1 := Z9.out.cell 1 (by omega)
      have f1 := Z9.out.free 1
      have p2 := Z9.out.cell 2 (by omega)
      have f2 := Z9.out.free 2
      have p3 := Z9.out.cell 3 (by omega)
      have f3 := Z9.out.free 3
      have p4 := Z9.out.cell 4 (by omega)
      have f4 := Z9.out.free 4
      go_wp2
      have YF := (((((Z9.out.set (k := 0) (by omega) (.int .i64 x.1)).set (k := 1) (by omega) (.int .i64 x.2.1)).set (k := 2) (by omega) (.int .i64 y)).set (k := 3) (by omega) (.int .i64 x.2.2.2.1)).set (k := 4) (by omega) (.int .i64 x.2.2.2.2))
      have BL := ((((((Below.refl w.heap.size (w7.setCell ⟨w4.heap.size, 2, none⟩ (.int .i64 y))).setCell (p := ⟨w.heap.size, 0, none⟩) (Nat.le_refl _) (.int .i64 x.1)).setCell (p := ⟨w.heap.size, 1, none⟩) (Nat.le_refl _) (.int .i64 x.2.1)).setCell (p := ⟨w.heap.size, 2, none⟩) (Nat.le_refl _) (.int .i64 y)).setCell (p := ⟨w.heap.size, 3, none⟩) (Nat.le_refl _) (.int .i64 x.2.2.2.1)).setCell (p := ⟨w.heap.size, 4, none⟩) (Nat.le_refl _) (.int .i64 x.2.2.2.2))
      generalize ((((((w7.setCell ⟨w4.heap.size, 2, none⟩ (.int .i64 y)).setCell ⟨w.heap.size, 0, none⟩ (.int .i64 x.1)).setCell ⟨w.heap.size, 1, none⟩ (.int .i64 x.2.1)).setCell ⟨w.heap.size, 2, none⟩ (.int .i64 y)).setCell ⟨w.heap.size, 3, none⟩ (.int .i64 x.2.2.2.1)).setCell ⟨w.heap.size, 4, none⟩ (.int .i64 x.2.2.2.2)) = W6 at YF BL ⊢
      have c0 : W6.cell? ⟨w.heap.size, 0, none⟩ = some (.int .i64 x.1) := YF.cell 0 (by omega)
      have c1 : W6.cell? ⟨w.heap.size, 1, none⟩ = some (.int .i64 x.2.1) := YF.cell 1 (by omega)
      have c2 : W6.cell? ⟨w.heap.size, 2, none⟩ = some (.int .i64 y) := YF.cell 2 (by omega)
      have c3 : W6.cell? ⟨w.heap.size, 3, none⟩ = some (.int .i64 x.2.2.2.1) := YF.cell 3 (by omega)
      have c4 : W6.cell? ⟨w.heap.size, 4, none⟩ = some (.int .i64 x.2.2.2.2) := YF.cell 4 (by omega)
      have OF := Lib.hid (O9.out.trans_below BL)
      have RF := Lib.hid (R9.out.below BL bl)
      clear YF BL
      refine bodyPost_ret (v := .agg #[.int .i64 x.1, .int .i64 x.2.1, .int .i64 y, .int .i64 x.2.2.2.1, .int .i64 x.2.2.2.2]) (by simp [results, Try.results47, go_sem, c0, c1, c2, c3, c4]) rfl ⟨(x.1, x.2.1, y, x.2.2.2.1, x.2.2.2.2), rfl, OF.out, RF.out⟩
    · have t0 : (sw == 0) = false := by simp; omega
      have t1 : (sw == 1) = false := by simp; omega
      have t2 : (sw == 2) = false := by simp; omega
      have y0 : w6.cell? ⟨w4.heap.size, 0, none⟩ = some (.int .i64 x.1) := X7.out.cell 0 (by omega)
      have y1 : w6.cell? ⟨w4.heap.size, 1, none⟩ = some (.int .i64 x.2.1) := X7.out.cell 1 (by omega)
      have y2 : w6.cell? ⟨w4.heap.size, 2, none⟩ = some (.int .i64 x.2.2.1) := X7.out.cell 2 (by omega)
      have y3 : w6.cell? ⟨w4.heap.size, 3, none⟩ = some (.int .i64 x.2.2.2.1) := X7.out.cell 3 (by omega)
      have y4 : w6.cell? ⟨w4.heap.size, 4, none⟩ = some (.int .i64 x.2.2.2.2) := X7.out.cell 4 (by omega)
      have p0 := Z6.out.cell 0 (by omega)
      have f0 := Z6.out.free 0
      have p1 := Z6.out.cell 1 (by omega)
      have f1 := Z6.out.free 1
      have p2 := Z6.out.cell 2 (by omega)
      have f2 := Z6.out.free 2
      have p3 := Z6.out.cell 3 (by omega)
      have f3 := Z6.out.free 3
      have p4 := Z6.out.cell 4 (by omega)
      have f4 := Z6.out.free 4
      go_wp2
      have YF := (((((Z6.out.set (k := 0) (by omega) (.int .i64 x.1)).set (k := 1) (by omega) (.int .i64 x.2.1)).set (k := 2) (by omega) (.int .i64 x.2.2.1)).set (k := 3) (by omega) (.int .i64 x.2.2.2.1)).set (k := 4) (by omega) (.int .i64 x.2.2.2.2))
      have BL := ((((((Below.refl w.heap.size w6).setCell (p := ⟨w.heap.size, 0, none⟩) (Nat.le_refl _) (.int .i64 x.1)).setCell (p := ⟨w.heap.size, 1, none⟩) (Nat.le_refl _) (.int .i64 x.2.1)).setCell (p := ⟨w.heap.size, 2, none⟩) (Nat.le_refl _) (.int .i64 x.2.2.1)).setCell (p := ⟨w.heap.size, 3, none⟩) (Nat.le_refl _) (.int .i64 x.2.2.2.1)).setCell (p := ⟨w.heap.size, 4, none⟩) (Nat.le_refl _) (.int .i64 x.2.2.2.2))
      generalize (((((w6.setCell ⟨w.heap.size, 0, none⟩ (.int .i64 x.1)).setCell ⟨w.heap.size, 1, none⟩ (.int .i64 x.2.1)).setCell ⟨w.heap.size, 2, none⟩ (.int .i64 x.2.2.1)).setCell ⟨w.heap.size, 3, none⟩ (.int .i64 x.2.2.2.1)).setCell ⟨w.heap.size, 4, none⟩ (.int .i64 x.2.2.2.2)) = W6 at YF BL ⊢
      have c0 : W6.cell? ⟨w.heap.size, 0, none⟩ = some (.int .i64 x.1) := YF.cell 0 (by omega)
      have c1 : W6.cell? ⟨w.heap.size, 1, none⟩ = some (.int .i64 x.2.1) := YF.cell 1 (by omega)
      have c2 : W6.cell? ⟨w.heap.size, 2, none⟩ = some (.int .i64 x.2.2.1) := YF.cell 2 (by omega)
      have c3 : W6.cell? ⟨w.heap.size, 3, none⟩ = some (.int .i64 x.2.2.2.1) := YF.cell 3 (by omega)
      have c4 : W6.cell? ⟨w.heap.size, 4, none⟩ = some (.int .i64 x.2.2.2.2) := YF.cell 4 (by omega)
      have OF := Lib.hid (O6.out.trans_below BL)
      have RF := Lib.hid (R6.out.below BL bl)
      clear YF BL
      refine bodyPost_ret (v := .agg #[.int .i64 x.1, .int .i64 x.2.1, .int .i64 x.2.2.1, .int .i64 x.2.2.2.1, .int .i64 x.2.2.2.2]) (by simp [results, Try.results47, go_sem, c0, c1, c2, c3, c4]) rfl ⟨(x.1, x.2.1, x.2.2.1, x.2.2.2.1, x.2.2.2.2), rfl, OF.out, RF.out⟩
end Go.Proofs.Ytnkdjnfbllkgiab.draw
