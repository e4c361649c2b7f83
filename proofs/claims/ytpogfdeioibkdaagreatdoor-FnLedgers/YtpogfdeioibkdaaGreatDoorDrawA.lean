/-
  Plain helpers of this seat's proofs: contracts of the functions that draw a currency, a size and an account. Conditions: none.
-/
import Derived.Test.YtpogfdeioibkdaaGreatDoorDr5
import Derived.Test.YtpogfdeioibkdaaGreatDoorMp
import Derived.Test.YtpogfdeioibkdaaGreatDoorFl
namespace Go.Proofs.YtpogfdeioibkdaaGreatDoor.draw
open Go.ChangeShapes Go.WideShapes Go.ChangeAt Go.RowKit
open led (F5 z5)
open five (Row At Blk)
set_option maxHeartbeats 1000000 in
theorem cur (w : World) (b len : Nat) (r : Rd w b len) : Calls Tryz.prog 72 #[.pointer (some ⟨b, 0, none⟩)] w (Got w b len 0 5) := by
  have R := Lib.hid r
  clear r
  go_enter Tryz.func72, Tryz.ntmps72
  go_wp2_with fail
  refine (once w b len 3 R.out (by omega) (by omega)).mono ?_
  rintro e w1 ⟨t, rfl, o1, r1⟩
  have R1 := Lib.hid r1
  have O1 := Lib.hid o1
  clear r1 o1
  cases t with
  | true =>
    go_wp2_with fail
    refine (below w1 b len 6 R1.out (by omega) (by omega)).mono ?_
    rintro e w2 ⟨v, v1, v2, rfl, o2, r2⟩
    have R2 := Lib.hid r2
    have O2 := Lib.hid (O1.out.trans o2)
    clear r2 o2
    go_wp2
    go_ret
    exact ⟨v, v1, by omega, rfl, O2.out, R2.out⟩
  | false =>
    go_wp2_with fail
    refine (below w1 b len 2 R1.out (by omega) (by omega)).mono ?_
    rintro e w2 ⟨v, v1, v2, rfl, o2, r2⟩
    have R2 := Lib.hid r2
    have O2 := Lib.hid (O1.out.trans o2)
    clear r2 o2
    go_wp2
    go_ret
    exact ⟨v, v1, by omega, rfl, O2.out, R2.out⟩
set_option maxHeartbeats 1000000 in
theorem size (w : World) (b len : Nat) (r : Rd w b len) : Calls Tryz.prog 41 #[.pointer (some ⟨b, 0, none⟩), .int .i64 4, .int .i64 8] w (Got w b len 1 8) := by
  have R := Lib.hid r
  obtain ⟨a, cap, hb, _⟩ := r.bytes
  have sm := r.small
  obtain ⟨q, hq⟩ : ∃ q : Nat, q = len / 4 := ⟨_, rfl⟩
  have q1 : (len : Int).tdiv 4 = (q : Int) := by rw [Int.tdiv_eq_ediv_of_nonneg (by omega), hq]; omega
  have q2 : (len : Int) / 4 = (q : Int) := by rw [hq]; omega
  have q3 : q ≤ 262144 := by omega
  clear r hq
  by_cases h8 : 8 < 1 + q
  · have t1 : decide ((8 : Int) < 1 + (q : Int)) = true := by simp; omega
    go_enter Tryz.func41, Tryz.ntmps41
    go_wp2_with fail
    refine (below w b len 8 R.out (by omega) (by omega)).mono ?_
    rintro e w2 ⟨v, v1, v2, rfl, o2, r2⟩
    have R2 := Lib.hid r2
    have O2 := Lib.hid o2
    clear r2 o2
    go_wp2
    go_ret
    exact ⟨1 + v, by omega, by omega, by first | rfl | go_num, O2.out, R2.out⟩
  · have t1 : decide ((8 : Int) < 1 + (q : Int)) = false := by simp; omega
    go_enter Tryz.func41, Tryz.ntmps41
    go_wp2_with fail
    refine (below w b len (1 + (q : Int)) R.out (by omega) (by omega)).mono ?_
    rintro e w2 ⟨v, v1, v2, rfl, o2, r2⟩
    have R2 := Lib.hid r2
    have O2 := Lib.hid o2
    clear r2 o2
    go_wp2
    go_ret
    exact ⟨1 + v, by omega, by omega, by first | rfl | go_num, O2.out, R2.out⟩
/-- An account, drawn. -/
def GotA (w : World) (b len : Nat) (e : Ending) (w' : World) : Prop := ∃ x y z : Int, (Lit.int .i64 x).wf = true ∧ (Lit.int .i64 y).wf = true ∧ (Lit.int .i64 z).wf = true ∧ e = .returned (.agg #[.int .i64 x, .int .i64 y, .int .i64 z]) ∧ Only b w w' ∧ Rd w' b len
/-- Writes to blocks that are new. -/
theorem Only.setc {b : Nat} {w y : World} (h : Only b w y) {k : Nat} (v : Value) : Only b w (y.setCell ⟨w.heap.size, k, none⟩ v) :=
  ⟨h.os, h.tape, h.output, by simp [World.setCell]; exact h.size, fun i hi hne => (Below.heap_setCell y ⟨w.heap.size, k, none⟩ v i (by show i ≠ w.heap.size; omega)).trans (h.block i hi hne)⟩
theorem Rd.set3 {w y : World} {b len : Nat} (r : Rd y b len) (hb : b < w.heap.size) (v0 v1 v2 : Value) : Rd (((y.setCell ⟨w.heap.size, 0, none⟩ v0).setCell ⟨w.heap.size, 1, none⟩ v1).setCell ⟨w.heap.size, 2, none⟩ v2) b len :=
  r.below (B := w.heap.size) ((((Below.refl w.heap.size y).setCell (p := ⟨w.heap.size, 0, none⟩) (Nat.le_refl _) v0).setCell (p := ⟨w.heap.size, 1, none⟩) (Nat.le_refl _) v1).setCell (p := ⟨w.heap.size, 2, none⟩) (Nat.le_refl _) v2) hb
theorem wfs {x : Int} (h1 : 0 ≤ x) (h2 : x ≤ 1000) : (Lit.int .i64 x).wf = true := wf_small x (by omega) (by omega)
set_option maxRecDepth 40000 in
set_option maxHeartbeats 4000000 in
theorem acct (w : World) (b len : Nat) (r : Rd w b len) : Calls Tryz.prog 44 #[.pointer (some ⟨b, 0, none⟩)] w (GotA w b len) := by
  have bl := r.lt
  have R0 := Lib.hid (r.alloc (.cells #[.int .i64 0, .int .i64 0, .int .i64 0] 34))
  have O0 := Lib.hid ((Only.refl b w).alloc (.cells #[.int .i64 0, .int .i64 0, .int .i64 0] 34))
  have Z0 := Lib.hid (show Blk (w.alloc (.cells #[.int .i64 0, .int .i64 0, .int .i64 0] 34)) w.heap.size 3 (fun _ => .int .i64 0) from
    ⟨by simp, fun k hk => five.box_cell (five.box_refl w _) k (v := .int .i64 0) (by match k, hk with | 0, _ => rfl | 1, _ => rfl | 2, _ => rfl), fun k => World.frozen?_alloc_new w _ _ k⟩)
  clear r
  go_enter Tryz.func44, Tryz.ntmps44
  go_wp2_with fail
  refine (below _ b len 12 R0.out (by omega) (by omega)).mono ?_
  rintro e w1 ⟨sw, s1, s2, rfl, o, r⟩
  have R1 := Lib.hid r
  have O1 := Lib.hid (O0.out.trans o)
  have Z1 := Lib.hid (Z0.out.keep (w' := w1) (o.block _ Z0.out.lt (by omega)) o.size)
  clear r o
  obtain rfl | h1 | h5 : sw = 0 ∨ (sw = 1 ∨ sw = 2 ∨ sw = 3 ∨ sw = 4) ∨ 5 ≤ sw := by omega
  · skip
    go_wp2_with fail
    refine (off w1 b len 1 3 R1.out (by omega) (by omega) (by omega)).mono ?_
    rintro e w2 ⟨x, xw, rfl, o, r⟩
    have R2 := Lib.hid r
    have O2 := Lib.hid (O1.out.trans o)
    have Z2 := Lib.hid (Z1.out.keep (w' := w2) (o.block _ Z1.out.lt (by omega)) o.size)
    clear r o
    go_wp2_with fail
    refine (off w2 b len 0 999 R2.out (by omega) (by omega) (by omega)).mono ?_
    rintro e w3 ⟨y, yw, rfl, o, r⟩
    have R3 := Lib.hid r
    have O3 := Lib.hid (O2.out.trans o)
    have Z3 := Lib.hid (Z2.out.keep (w' := w3) (o.block _ Z2.out.lt (by omega)) o.size)
    clear r o
    go_wp2_with fail
    refine (off w3 b len 1 5 R3.out (by omega) (by omega) (by omega)).mono ?_
    rintro e w4 ⟨z, zw, rfl, o, r⟩
    have R4 := Lib.hid r
    have O4 := Lib.hid (O3.out.trans o)
    have Z4 := Lib.hid (Z3.out.keep (w' := w4) (o.block _ Z3.out.lt (by omega)) o.size)
    clear r o
    have XW := Lib.hid xw
    have YW := Lib.hid yw
    have ZW := Lib.hid zw
    clear xw yw zw
    have f0 := Z4.out.free 0
    have f1 := Z4.out.free 1
    have f2 := Z4.out.free 2
    have c0 := Z4.out.cell 0 (by omega)
    have c1 := Z4.out.cell 1 (by omega)
    have c2 := Z4.out.cell 2 (by omega)
    go_wp2
    have ZF := ((Z4.out.set (k := 0) (by omega) (.int .i64 x)).set (k := 1) (by omega) (.int .i64 y)).set (k := 2) (by omega) (.int .i64 z)
    have OF := ((O4.out.setc (k := 0) (.int .i64 x)).setc (k := 1) (.int .i64 y)).setc (k := 2) (.int .i64 z)
    have RF := R4.out.set3 bl (.int .i64 x) (.int .i64 y) (.int .i64 z)
    generalize ((w4.setCell ⟨w.heap.size, 0, none⟩ (.int .i64 x)).setCell ⟨w.heap.size, 1, none⟩ (.int .i64 y)).setCell ⟨w.heap.size, 2, none⟩ (.int .i64 z) = W6 at ZF OF RF ⊢
    have h0 : W6.cell? ⟨w.heap.size, 0, none⟩ = some (.int .i64 x) := ZF.cell 0 (by omega)
    have h1 : W6.cell? ⟨w.heap.size, 1, none⟩ = some (.int .i64 y) := ZF.cell 1 (by omega)
    have h2 : W6.cell? ⟨w.heap.size, 2, none⟩ = some (.int .i64 z) := ZF.cell 2 (by omega)
    refine bodyPost_ret (v := .agg #[.int .i64 x, .int .i64 y, .int .i64 z]) (by simp [results, Tryz.results44, go_sem, h0, h1, h2]) rfl ⟨_, _, _, XW.out, YW.out, ZW.out, rfl, OF, RF⟩
  · have hz : (sw == 0) = false := by simp; omega
    rcases h1 with rfl | rfl | rfl | rfl
    all_goals
      go_wp2_with fail
      refine (below w1 b len 5 R1.out (by omega) (by omega)).mono ?_
      rintro e w2 ⟨z, z1, z2, rfl, o, r⟩
      have R2 := Lib.hid r
      have O2 := Lib.hid (O1.out.trans o)
      have Z2 := Lib.hid (Z1.out.keep (w' := w2) (o.block _ Z1.out.lt (by omega)) o.size)
      clear r o
      have f0 := Z2.out.free 0
      have f1 := Z2.out.free 1
      have f2 := Z2.out.free 2
      have c0 := Z2.out.cell 0 (by omega)
      have c1 := Z2.out.cell 1 (by omega)
      have c2 := Z2.out.cell 2 (by omega)
      go_wp2
      have ZF := ((Z2.out.set (k := 0) (by omega) (.int .i64 3)).set (k := 1) (by omega) (.int .i64 0)).set (k := 2) (by omega) (.int .i64 (1 + z))
      have OF := ((O2.out.setc (k := 0) (.int .i64 3)).setc (k := 1) (.int .i64 0)).setc (k := 2) (.int .i64 (1 + z))
      have RF := R2.out.set3 bl (.int .i64 3) (.int .i64 0) (.int .i64 (1 + z))
      generalize ((w2.setCell ⟨w.heap.size, 0, none⟩ (.int .i64 3)).setCell ⟨w.heap.size, 1, none⟩ (.int .i64 0)).setCell ⟨w.heap.size, 2, none⟩ (.int .i64 (1 + z)) = W6 at ZF OF RF ⊢
      have h0 : W6.cell? ⟨w.heap.size, 0, none⟩ = some (.int .i64 3) := ZF.cell 0 (by omega)
      have h1 : W6.cell? ⟨w.heap.size, 1, none⟩ = some (.int .i64 0) := ZF.cell 1 (by omega)
      have h2 : W6.cell? ⟨w.heap.size, 2, none⟩ = some (.int .i64 (1 + z)) := ZF.cell 2 (by omega)
      refine bodyPost_ret (v := .agg #[.int .i64 3, .int .i64 0, .int .i64 (1 + z)]) (by simp [results, Tryz.results44, go_sem, h0, h1, h2]) rfl ⟨_, _, _, (wfs (by omega) (by omega)), (wfs (by omega) (by omega)), (wfs (by omega) (by omega)), rfl, OF, RF⟩
  · have t0 : (sw == 0) = false := by simp; omega
    have t1 : (sw == 1) = false := by simp; omega
    have t2 : (sw == 2) = false := by simp; omega
    have t3 : (sw == 3) = false := by simp; omega
    have t4 : (sw == 4) = false := by simp; omega
    go_wp2_with fail
    refine (below w1 b len 2 R1.out (by omega) (by omega)).mono ?_
    rintro e w2 ⟨x, x1, x2, rfl, o, r⟩
    have R2 := Lib.hid r
    have O2 := Lib.hid (O1.out.trans o)
    have Z2 := Lib.hid (Z1.out.keep (w' := w2) (o.block _ Z1.out.lt (by omega)) o.size)
    clear r o
    go_wp2_with fail
    refine (below w2 b len 3 R2.out (by omega) (by omega)).mono ?_
    rintro e w3 ⟨y, y1, y2, rfl, o, r⟩
    have R3 := Lib.hid r
    have O3 := Lib.hid (O2.out.trans o)
    have Z3 := Lib.hid (Z2.out.keep (w' := w3) (o.block _ Z2.out.lt (by omega)) o.size)
    clear r o
    go_wp2_with fail
    refine (below w3 b len 2 R3.out (by omega) (by omega)).mono ?_
    rintro e w4 ⟨z, z1, z2, rfl, o, r⟩
    have R4 := Lib.hid r
    have O4 := Lib.hid (O3.out.trans o)
    have Z4 := Lib.hid (Z3.out.keep (w' := w4) (o.block _ Z3.out.lt (by omega)) o.size)
    clear r o
    have f0 := Z4.out.free 0
    have f1 := Z4.out.free 1
    have f2 := Z4.out.free 2
    have c0 := Z4.out.cell 0 (by omega)
    have c1 := Z4.out.cell 1 (by omega)
    have c2 := Z4.out.cell 2 (by omega)
    go_wp2
    have ZF := ((Z4.out.set (k := 0) (by omega) (.int .i64 (1 + x))).set (k := 1) (by omega) (.int .i64 (1 + y))).set (k := 2) (by omega) (.int .i64 (1 + z))
    have OF := ((O4.out.setc (k := 0) (.int .i64 (1 + x))).setc (k := 1) (.int .i64 (1 + y))).setc (k := 2) (.int .i64 (1 + z))
    have RF := R4.out.set3 bl (.int .i64 (1 + x)) (.int .i64 (1 + y)) (.int .i64 (1 + z))
    generalize ((w4.setCell ⟨w.heap.size, 0, none⟩ (.int .i64 (1 + x))).setCell ⟨w.heap.size, 1, none⟩ (.int .i64 (1 + y))).setCell ⟨w.heap.size, 2, none⟩ (.int .i64 (1 + z)) = W6 at ZF OF RF ⊢
    have h0 : W6.cell? ⟨w.heap.size, 0, none⟩ = some (.int .i64 (1 + x)) := ZF.cell 0 (by omega)
    have h1 : W6.cell? ⟨w.heap.size, 1, none⟩ = some (.int .i64 (1 + y)) := ZF.cell 1 (by omega)
    have h2 : W6.cell? ⟨w.heap.size, 2, none⟩ = some (.int .i64 (1 + z)) := ZF.cell 2 (by omega)
    refine bodyPost_ret (v := .agg #[.int .i64 (1 + x), .int .i64 (1 + y), .int .i64 (1 + z)]) (by simp [results, Tryz.results44, go_sem, h0, h1, h2]) rfl ⟨_, _, _, (wfs (by omega) (by omega)), (wfs (by omega) (by omega)), (wfs (by omega) (by omega)), rfl, OF, RF⟩
end Go.Proofs.YtpogfdeioibkdaaGreatDoor.draw
