/-
  Plain helpers of this seat's proofs: the contracts of the functions that draw the arguments of ClassSum and of BalanceOf. Conditions: none.
-/
import Derived.Test.YtnkdjnfbllkgiaaDrawL
import Derived.Deep.RegionWith
namespace Go.Proofs.Ytnkdjnfbllkgiaa.draw
open Go.ChangeShapes Go.WideShapes Go.ChangeAt Go.RowKit
open led (F5 z5)
open five (Row At Blk)
open mp (W4)
def DrewCs (w : World) (e : Ending) (w' : World) : Prop := ∃ cl gl, ∃ l : List F5, ∃ cs cu : Int, e = .returned (.tuple #[.slice (some ⟨gl, 0, none⟩) l.length cl, .int .i64 cs, .int .i64 cu]) ∧ Row w' (some ⟨gl, 0, none⟩) cl gl l ∧ gl < w'.heap.size ∧ l.length ≤ 500 ∧ 0 ≤ cu ∧ cu ≤ 2 ∧ Below w.heap.size w w'
set_option maxRecDepth 40000 in
set_option maxHeartbeats 4000000 in
theorem drawCs (a : Option Addr) (len cap : Nat) (w : World) (hB : Bytes w a len) (h : len ≤ 1048576) : Calls Try.prog 38 #[.slice a len cap] w (DrewCs w) := by
  have HB := Lib.hid hB
  clear hB
  go_enter Try.func38, Try.ntmps38
  go_wp2_with fail
  refine (openRd a len cap w HB.out h).mono ?_
  rintro e w1 ⟨rfl, r1, b1⟩
  have R1 := Lib.hid r1
  have B1 := Lib.hid b1
  have s1 := r1.lt
  clear r1 b1
  go_wp2_with fail
  refine (ledger w1 w.heap.size len R1.out).mono ?_
  rintro e w2 ⟨cl, gl, l, rfl, rl, g1, g2, hl, _, o2, r2⟩
  have R2 := Lib.hid r2
  have O2 := Lib.hid o2
  have L2 := Lib.hid rl
  have s2 := o2.size
  clear rl o2 r2
  go_wp2_with fail
  refine (off w2 w.heap.size len 1 3 R2.out (by omega) (by omega) (by omega)).mono ?_
  rintro e w3 ⟨cs, _, rfl, o3, r3⟩
  have R3 := Lib.hid r3
  have O3 := Lib.hid (O2.out.trans o3)
  have L3 := Lib.hid (L2.out.keep (w' := w3) fun _ => o3.block gl g2 (by omega))
  have s3 := o3.size
  clear o3 r3 L2
  go_wp2_with fail
  refine (below w3 w.heap.size len 3 R3.out (by omega) (by omega)).mono ?_
  rintro e w4 ⟨cu, c1, c2, rfl, o4, r4⟩
  have O4 := Lib.hid (O3.out.trans o4)
  have L4 := Lib.hid (L3.out.keep (w' := w4) fun _ => o4.block gl (by omega) (by omega))
  have s4 := o4.size
  clear o4 r4 L3
  go_wp2
  refine bodyPost_ret (v := .tuple #[.slice (some ⟨gl, 0, none⟩) l.length cl, .int .i64 cs, .int .i64 cu]) (by simp [results, Try.results38, go_sem]) rfl ⟨cl, gl, l, cs, cu, rfl, L4.out, by omega, hl, c1, by omega, back rfl B1.out O4.out⟩
def DrewBo (w : World) (e : Ending) (w' : World) : Prop := ∃ cl gl, ∃ (l : List F5) (p : F5), e = .returned (.tuple #[.slice (some ⟨gl, 0, none⟩) l.length cl, .agg #[.int .i64 p.1, .int .i64 p.2.1, .int .i64 p.2.2.1], .int .i64 p.2.2.2.1]) ∧ Row w' (some ⟨gl, 0, none⟩) cl gl l ∧ gl < w'.heap.size ∧ l.length ≤ 500 ∧ W4 p ∧ Below w.heap.size w w'
set_option maxRecDepth 40000 in
set_option maxHeartbeats 4000000 in
theorem drawBo (a : Option Addr) (len cap : Nat) (w : World) (hB : Bytes w a len) (h : len ≤ 1048576) : Calls Try.prog 39 #[.slice a len cap] w (DrewBo w) := by
  obtain ⟨W0, hW0⟩ : ∃ W0, W0 = w.alloc (.cells #[.int .i64 0, .int .i64 0, .int .i64 0] 25) := ⟨_, rfl⟩
  have BW := Lib.hid (show Below w.heap.size w W0 from by rw [hW0]; exact (five.Grew.alloc w _).below)
  have Z0 := Lib.hid (show Blk W0 w.heap.size 3 (fun _ => .int .i64 0) from by
    rw [hW0]
    exact ⟨by simp, fun k hk => five.box_cell (five.box_refl w _) k (v := .int .i64 0) (by match k, hk with | 0, _ => rfl | 1, _ => rfl | 2, _ => rfl), fun k => World.frozen?_alloc_new w _ _ k⟩)
  have sz : w.heap.size < W0.heap.size := by rw [hW0]; simp
  have HB := Lib.hid (Bytes.below hB BW.out)
  clear hB
  go_enter Try.func39, Try.ntmps39
  go_wp2_with fail
  rw [← hW0]
  clear hW0
  refine (openRd a len cap W0 HB.out h).mono ?_
  rintro e w1 ⟨rfl, r1, b1⟩
  have R1 := Lib.hid r1
  have B1 := Lib.hid b1
  have s1 := r1.lt
  have Z1 := Lib.hid (Z0.out.keep (w' := w1) (b1.block _ Z0.out.lt) b1.size)
  clear r1 b1
  go_wp2_with fail
  refine (ledger w1 W0.heap.size len R1.out).mono ?_
  rintro e w2 ⟨cl, gl, l, rfl, rl, g1, g2, hl, hw4, o2, r2⟩
  have R2 := Lib.hid r2
  have O2 := Lib.hid o2
  have L2 := Lib.hid rl
  have WW := Lib.hid hw4
  have Z2 := Lib.hid (Z1.out.keep (w' := w2) (o2.block _ Z1.out.lt (by omega)) o2.size)
  have s2 := o2.size
  have room := rl.room
  clear rl o2 r2 hw4
  by_cases h0 : 0 < l.length
  · have u1 : decide (0 < l.length) = true := by rw [decide_eq_true_eq]; exact h0
    go_wp2_with fail
    refine (once w2 W0.heap.size len 2 R2.out (by omega) (by omega)).mono ?_
    rintro e w3 ⟨t, rfl, o3, r3⟩
    have R3 := Lib.hid r3
    have O3 := Lib.hid (O2.out.trans o3)
    have L3 := Lib.hid (L2.out.keep (w' := w3) fun _ => o3.block gl g2 (by omega))
    have Z3 := Lib.hid (Z2.out.keep (w' := w3) (o3.block _ Z2.out.lt (by omega)) o3.size)
    have s3 := o3.size
    clear o3 r3 L2 R2
    cases t with
    | true =>
      go_wp2_with fail
      refine (below w3 W0.heap.size len (l.length : Int) R3.out (by omega) (by omega)).mono ?_
      rintro e w4 ⟨q, q1, q2, rfl, o4, r4⟩
      have O4 := Lib.hid (O3.out.trans o4)
      have L4 := Lib.hid (L3.out.keep (w' := w4) fun _ => o4.block gl (by omega) (by omega))
      have Z4 := Lib.hid (Z3.out.keep (w' := w4) (o4.block _ Z3.out.lt (by omega)) o4.size)
      have s4 := o4.size
      clear o4 r4 L3 R3
      obtain ⟨k, rfl⟩ := Int.eq_ofNat_of_zero_le q1
      have hk : k < l.length := by omega
      have z1 : (k : Int) < (l.length : Int) := by omega
      have qx := L4.out.cells k hk
      obtain ⟨x, hx⟩ : ∃ x, x = l.getD k z5 := ⟨_, rfl⟩
      rw [← hx] at qx
      have WX := Lib.hid (show W4 x from by rw [hx]; exact WW.out _ (led.getD_mem hk))
      clear hx
      obtain ⟨x1, x2, x3, x4, x5⟩ := qx
      obtain ⟨W5, hW5⟩ : ∃ W5, W5 = w4.alloc (.cells #[.int .i64 x.1, .int .i64 x.2.1, .int .i64 x.2.2.1, .int .i64 x.2.2.2.1, .int .i64 x.2.2.2.2] 52) := ⟨_, rfl⟩
      have O5 := Lib.hid (show Only W0.heap.size w1 W5.drew from by rw [hW5]; exact (O4.out.alloc _).drew)
      have L5 := Lib.hid (show Row W5.drew (some ⟨gl, 0, none⟩) cl gl l from L4.out.keep fun _ => by rw [hW5]; exact Below.heap_alloc w4 _ gl (by omega))
      have Z5 := Lib.hid (show Blk W5.drew w.heap.size 3 (fun _ => .int .i64 0) from Z4.out.keep (by rw [hW5]; exact Below.heap_alloc w4 _ _ Z4.out.lt) (by rw [hW5]; simp))
      have A5 := Lib.hid (show At W5 w4.heap.size 0 x from by rw [hW5]; exact five.At.boxed w4 x _)
      have s5 : w4.heap.size < W5.drew.heap.size := by rw [hW5]; simp
      go_wp2_with fail
      rw [← hW5]
      clear hW5 x1 x2 x3 x4 x5
      obtain ⟨y1, y2, y3, y4, y5⟩ := A5.out
      simp only [Nat.zero_add] at y1 y2 y3 y4 y5
      have d1 := (A5.out.keep (w' := W5.drew) rfl).c0
      have d2 := (A5.out.keep (w' := W5.drew) rfl).c1
      have d3 := (A5.out.keep (w' := W5.drew) rfl).c2
      have d4 := (A5.out.keep (w' := W5.drew) rfl).c3
      simp only [Nat.zero_add] at d1 d2 d3 d4
      have ne1 : w4.heap.size ≠ w.heap.size := by omega
      have ne2 : w.heap.size ≠ w4.heap.size := by omega
      clear y1 y2 y3 y4 y5
      have f0 := Z5.out.free 0
      have f1 := Z5.out.free 1
      have f2 := Z5.out.free 2
      have c0 := Z5.out.cell 0 (by omega)
      have c1 := Z5.out.cell 1 (by omega)
      have c2 := Z5.out.cell 2 (by omega)
      have BF0 := Lib.hid (show Below w.heap.size w W5.drew from BW.out.trans ((back rfl B1.out O5.out).mono (Nat.le_of_lt sz)))
      have e0 : W5.frozen? ⟨w.heap.size, 0, none⟩ = false := f0
      have e1 : W5.frozen? ⟨w.heap.size, 1, none⟩ = false := f1
      have e2 : W5.frozen? ⟨w.heap.size, 2, none⟩ = false := f2
      have e3 : W5.cell? ⟨w.heap.size, 0, none⟩ = some (.int .i64 0) := c0
      have e4 : W5.cell? ⟨w.heap.size, 1, none⟩ = some (.int .i64 0) := c1
      have e5 : W5.cell? ⟨w.heap.size, 2, none⟩ = some (.int .i64 0) := c2
      have k6 : (((W5.setCell ⟨w.heap.size, 0, none⟩ (.int .i64 x.1)).setCell ⟨w.heap.size, 1, none⟩ (.int .i64 x.2.1)).setCell ⟨w.heap.size, 2, none⟩ (.int .i64 x.2.2.1)).heap[w4.heap.size]? = W5.heap[w4.heap.size]? := by
        rw [Below.heap_setCell _ _ _ _ ne1, Below.heap_setCell _ _ _ _ ne1, Below.heap_setCell _ _ _ _ ne1]
      have k4 : (((W5.setCell ⟨w.heap.size, 0, none⟩ (.int .i64 x.1)).setCell ⟨w.heap.size, 1, none⟩ (.int .i64 x.2.1)).setCell ⟨w.heap.size, 2, none⟩ (.int .i64 x.2.2.1)).cell? ⟨w4.heap.size, 3, none⟩ = some (.int .i64 x.2.2.2.1) := (World.cell?_of_block (w := W5) (a := ⟨w4.heap.size, 3, none⟩) k6).trans d4
      have k5 : (World.drew (((W5.setCell ⟨w.heap.size, 0, none⟩ (.int .i64 x.1)).setCell ⟨w.heap.size, 1, none⟩ (.int .i64 x.2.1)).setCell ⟨w.heap.size, 2, none⟩ (.int .i64 x.2.2.1))).cell? ⟨w4.heap.size, 3, none⟩ = some (.int .i64 x.2.2.2.1) := k4
      have k7 : ((((World.drew W5).setCell ⟨w.heap.size, 0, none⟩ (.int .i64 x.1)).setCell ⟨w.heap.size, 1, none⟩ (.int .i64 x.2.1)).setCell ⟨w.heap.size, 2, none⟩ (.int .i64 x.2.2.1)).cell? ⟨w4.heap.size, 3, none⟩ = some (.int .i64 x.2.2.2.1) := k4
      have d5 : W5.cell? ⟨w4.heap.size, 3, none⟩ = some (.int .i64 x.2.2.2.1) := d4
      clear k6
      go_region_with (fail)
      all_goals
        clear d1 d2 d3 d4 d5 k4 k5 k7
        go_wp2
        have ZF := ((Z5.out.set (k := 0) (by omega) (.int .i64 x.1)).set (k := 1) (by omega) (.int .i64 x.2.1)).set (k := 2) (by omega) (.int .i64 x.2.2.1)
        have BF := ((BF0.out.setCell (p := ⟨w.heap.size, 0, none⟩) (Nat.le_refl _) (.int .i64 x.1)).setCell (p := ⟨w.heap.size, 1, none⟩) (Nat.le_refl _) (.int .i64 x.2.1)).setCell (p := ⟨w.heap.size, 2, none⟩) (Nat.le_refl _) (.int .i64 x.2.2.1)
        have LF := L5.out.keep (w' := ((W5.drew.setCell ⟨w.heap.size, 0, none⟩ (.int .i64 x.1)).setCell ⟨w.heap.size, 1, none⟩ (.int .i64 x.2.1)).setCell ⟨w.heap.size, 2, none⟩ (.int .i64 x.2.2.1)) fun _ => by
          have hne : gl ≠ w.heap.size := by omega
          rw [Below.heap_setCell _ _ _ _ hne, Below.heap_setCell _ _ _ _ hne, Below.heap_setCell _ _ _ _ hne]
        have gF : gl < (((W5.drew.setCell ⟨w.heap.size, 0, none⟩ (.int .i64 x.1)).setCell ⟨w.heap.size, 1, none⟩ (.int .i64 x.2.1)).setCell ⟨w.heap.size, 2, none⟩ (.int .i64 x.2.2.1)).heap.size := by
          have s5' : w4.heap.size < W5.heap.size := s5
          simp [World.setCell]; omega
        have ZF2 : Blk (World.drew (((W5.setCell ⟨w.heap.size, 0, none⟩ (.int .i64 x.1)).setCell ⟨w.heap.size, 1, none⟩ (.int .i64 x.2.1)).setCell ⟨w.heap.size, 2, none⟩ (.int .i64 x.2.2.1))) w.heap.size 3 _ := ZF
        have BF2 : Below w.heap.size w (World.drew (((W5.setCell ⟨w.heap.size, 0, none⟩ (.int .i64 x.1)).setCell ⟨w.heap.size, 1, none⟩ (.int .i64 x.2.1)).setCell ⟨w.heap.size, 2, none⟩ (.int .i64 x.2.2.1))) := BF
        have LF2 : Row (World.drew (((W5.setCell ⟨w.heap.size, 0, none⟩ (.int .i64 x.1)).setCell ⟨w.heap.size, 1, none⟩ (.int .i64 x.2.1)).setCell ⟨w.heap.size, 2, none⟩ (.int .i64 x.2.2.1))) (some ⟨gl, 0, none⟩) cl gl l := LF
        have gF2 : gl < (World.drew (((W5.setCell ⟨w.heap.size, 0, none⟩ (.int .i64 x.1)).setCell ⟨w.heap.size, 1, none⟩ (.int .i64 x.2.1)).setCell ⟨w.heap.size, 2, none⟩ (.int .i64 x.2.2.1))).heap.size := gF
        clear ZF BF LF gF
        generalize World.drew (((W5.setCell ⟨w.heap.size, 0, none⟩ (.int .i64 x.1)).setCell ⟨w.heap.size, 1, none⟩ (.int .i64 x.2.1)).setCell ⟨w.heap.size, 2, none⟩ (.int .i64 x.2.2.1)) = W6 at ZF2 BF2 LF2 gF2 ⊢
        have h0' : W6.cell? ⟨w.heap.size, 0, none⟩ = some (.int .i64 x.1) := ZF2.cell 0 (by omega)
        have h1' : W6.cell? ⟨w.heap.size, 1, none⟩ = some (.int .i64 x.2.1) := ZF2.cell 1 (by omega)
        have h2' : W6.cell? ⟨w.heap.size, 2, none⟩ = some (.int .i64 x.2.2.1) := ZF2.cell 2 (by omega)
        refine bodyPost_ret (v := .tuple #[.slice (some ⟨gl, 0, none⟩) l.length cl, .agg #[.int .i64 x.1, .int .i64 x.2.1, .int .i64 x.2.2.1], .int .i64 x.2.2.2.1]) (by simp [results, Try.results39, go_sem, h0', h1', h2']) rfl ⟨cl, gl, l, (x.1, x.2.1, x.2.2.1, x.2.2.2.1, 0), rfl, LF2, gF2, hl, ⟨WX.out.h0, WX.out.h1, WX.out.h2, WX.out.h3⟩, BF2⟩
    | false =>
      go_wp2_with fail
      refine (acct w3 W0.heap.size len R3.out).mono ?_
      rintro e w4 ⟨x, y, z, wx, wy, wz, rfl, o, r⟩
      have R4 := Lib.hid r
      have O4 := Lib.hid (O3.out.trans o)
      have L4 := Lib.hid (L3.out.keep (w' := w4) fun _ => o.block gl (by omega) (by omega))
      have Z4 := Lib.hid (Z3.out.keep (w' := w4) (o.block _ Z3.out.lt (by omega)) o.size)
      have s4 := o.size
      have WXYZ := Lib.hid (And.intro wx (And.intro wy wz))
      clear o r wx wy wz
      go_wp2_with fail
      refine (off w4 W0.heap.size len 0 5 R4.out (by omega) (by omega) (by omega)).mono ?_
      rintro e w5 ⟨cu, wc, rfl, o, r⟩
      have O5 := Lib.hid (O4.out.trans o)
      have L5 := Lib.hid (L4.out.keep (w' := w5) fun _ => o.block gl (by omega) (by omega))
      have Z5 := Lib.hid (Z4.out.keep (w' := w5) (o.block _ Z4.out.lt (by omega)) o.size)
      have s5 := o.size
      have WC := Lib.hid wc
      clear o r wc
      have f0 := Z5.out.free 0
      have f1 := Z5.out.free 1
      have f2 := Z5.out.free 2
      have c0 := Z5.out.cell 0 (by omega)
      have c1 := Z5.out.cell 1 (by omega)
      have c2 := Z5.out.cell 2 (by omega)
      have BF0 := Lib.hid (show Below w.heap.size w w5 from BW.out.trans ((back rfl B1.out O5.out).mono (Nat.le_of_lt sz)))
      go_wp2
      have ZF := ((Z5.out.set (k := 0) (by omega) (.int .i64 x)).set (k := 1) (by omega) (.int .i64 y)).set (k := 2) (by omega) (.int .i64 z)
      have BF := ((BF0.out.setCell (p := ⟨w.heap.size, 0, none⟩) (Nat.le_refl _) (.int .i64 x)).setCell (p := ⟨w.heap.size, 1, none⟩) (Nat.le_refl _) (.int .i64 y)).setCell (p := ⟨w.heap.size, 2, none⟩) (Nat.le_refl _) (.int .i64 z)
      have LF := L5.out.keep (w' := ((w5.setCell ⟨w.heap.size, 0, none⟩ (.int .i64 x)).setCell ⟨w.heap.size, 1, none⟩ (.int .i64 y)).setCell ⟨w.heap.size, 2, none⟩ (.int .i64 z)) fun _ => by
        have hne : gl ≠ w.heap.size := by omega
        rw [Below.heap_setCell _ _ _ _ hne, Below.heap_setCell _ _ _ _ hne, Below.heap_setCell _ _ _ _ hne]
      have gF : gl < (((w5.setCell ⟨w.heap.size, 0, none⟩ (.int .i64 x)).setCell ⟨w.heap.size, 1, none⟩ (.int .i64 y)).setCell ⟨w.heap.size, 2, none⟩ (.int .i64 z)).heap.size := by
        simp [World.setCell]; omega
      generalize ((w5.setCell ⟨w.heap.size, 0, none⟩ (.int .i64 x)).setCell ⟨w.heap.size, 1, none⟩ (.int .i64 y)).setCell ⟨w.heap.size, 2, none⟩ (.int .i64 z) = W6 at ZF BF LF gF ⊢
      have h0' : W6.cell? ⟨w.heap.size, 0, none⟩ = some (.int .i64 x) := ZF.cell 0 (by omega)
      have h1' : W6.cell? ⟨w.heap.size, 1, none⟩ = some (.int .i64 y) := ZF.cell 1 (by omega)
      have h2' : W6.cell? ⟨w.heap.size, 2, none⟩ = some (.int .i64 z) := ZF.cell 2 (by omega)
      refine bodyPost_ret (v := .tuple #[.slice (some ⟨gl, 0, none⟩) l.length cl, .agg #[.int .i64 x, .int .i64 y, .int .i64 z], .int .i64 cu]) (by simp [results, Try.results39, go_sem, h0', h1', h2']) rfl ⟨cl, gl, l, (x, y, z, cu, 0), rfl, LF, gF, hl, ⟨WXYZ.out.1, WXYZ.out.2.1, WXYZ.out.2.2, WC.out⟩, BF⟩
  · have u1 : decide (0 < l.length) = false := by rw [decide_eq_false_iff_not]; exact h0
    go_wp2_with fail
    refine (acct w2 W0.heap.size len R2.out).mono ?_
    rintro e w3 ⟨x, y, z, wx, wy, wz, rfl, o, r⟩
    have R3 := Lib.hid r
    have O3 := Lib.hid (O2.out.trans o)
    have L3 := Lib.hid (L2.out.keep (w' := w3) fun _ => o.block gl (by omega) (by omega))
    have Z3 := Lib.hid (Z2.out.keep (w' := w3) (o.block _ Z2.out.lt (by omega)) o.size)
    have s3 := o.size
    have WXYZ := Lib.hid (And.intro wx (And.intro wy wz))
    clear o r wx wy wz
    go_wp2_with fail
    refine (off w3 W0.heap.size len 0 5 R3.out (by omega) (by omega) (by omega)).mono ?_
    rintro e w4 ⟨cu, wc, rfl, o, r⟩
    have O4 := Lib.hid (O3.out.trans o)
    have L4 := Lib.hid (L3.out.keep (w' := w4) fun _ => o.block gl (by omega) (by omega))
    have Z4 := Lib.hid (Z3.out.keep (w' := w4) (o.block _ Z3.out.lt (by omega)) o.size)
    have s4 := o.size
    have WC := Lib.hid wc
    clear o r wc
    have f0 := Z4.out.free 0
    have f1 := Z4.out.free 1
    have f2 := Z4.out.free 2
    have c0 := Z4.out.cell 0 (by omega)
    have c1 := Z4.out.cell 1 (by omega)
    have c2 := Z4.out.cell 2 (by omega)
    have BF0 := Lib.hid (show Below w.heap.size w w4 from BW.out.trans ((back rfl B1.out O4.out).mono (Nat.le_of_lt sz)))
    go_wp2
    have ZF := ((Z4.out.set (k := 0) (by omega) (.int .i64 x)).set (k := 1) (by omega) (.int .i64 y)).set (k := 2) (by omega) (.int .i64 z)
    have BF := ((BF0.out.setCell (p := ⟨w.heap.size, 0, none⟩) (Nat.le_refl _) (.int .i64 x)).setCell (p := ⟨w.heap.size, 1, none⟩) (Nat.le_refl _) (.int .i64 y)).setCell (p := ⟨w.heap.size, 2, none⟩) (Nat.le_refl _) (.int .i64 z)
    have LF := L4.out.keep (w' := ((w4.setCell ⟨w.heap.size, 0, none⟩ (.int .i64 x)).setCell ⟨w.heap.size, 1, none⟩ (.int .i64 y)).setCell ⟨w.heap.size, 2, none⟩ (.int .i64 z)) fun _ => by
      have hne : gl ≠ w.heap.size := by omega
      rw [Below.heap_setCell _ _ _ _ hne, Below.heap_setCell _ _ _ _ hne, Below.heap_setCell _ _ _ _ hne]
    have gF : gl < (((w4.setCell ⟨w.heap.size, 0, none⟩ (.int .i64 x)).setCell ⟨w.heap.size, 1, none⟩ (.int .i64 y)).setCell ⟨w.heap.size, 2, none⟩ (.int .i64 z)).heap.size := by
      simp [World.setCell]; omega
    generalize ((w4.setCell ⟨w.heap.size, 0, none⟩ (.int .i64 x)).setCell ⟨w.heap.size, 1, none⟩ (.int .i64 y)).setCell ⟨w.heap.size, 2, none⟩ (.int .i64 z) = W6 at ZF BF LF gF ⊢
    have h0' : W6.cell? ⟨w.heap.size, 0, none⟩ = some (.int .i64 x) := ZF.cell 0 (by omega)
    have h1' : W6.cell? ⟨w.heap.size, 1, none⟩ = some (.int .i64 y) := ZF.cell 1 (by omega)
    have h2' : W6.cell? ⟨w.heap.size, 2, none⟩ = some (.int .i64 z) := ZF.cell 2 (by omega)
    refine bodyPost_ret (v := .tuple #[.slice (some ⟨gl, 0, none⟩) l.length cl, .agg #[.int .i64 x, .int .i64 y, .int .i64 z], .int .i64 cu]) (by simp [results, Try.results39, go_sem, h0', h1', h2']) rfl ⟨cl, gl, l, (x, y, z, cu, 0), rfl, LF, gF, hl, ⟨WXYZ.out.1, WXYZ.out.2.1, WXYZ.out.2.2, WC.out⟩, BF⟩
end Go.Proofs.Ytnkdjnfbllkgiaa.draw
