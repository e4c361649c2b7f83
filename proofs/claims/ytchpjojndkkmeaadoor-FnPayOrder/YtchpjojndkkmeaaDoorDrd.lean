/-
  Plain helpers of this seat's proofs: contracts of the functions that draw a day and what a plan is made of. Conditions: none.
-/
import Derived.Test.YtchpjojndkkmeaaDoorDr5
import Derived.Test.YtchpjojndkkmeaaDoorJMf
namespace Go.Proofs.YtchpjojndkkmeaaDoor.draw
open Go.ChangeShapes Go.WideShapes Go.ChangeAt Go.RowKit

theorem val_bd (y m d : Int) : 0 ≤ dayOf.val y m d ∧ dayOf.val y m d ≤ 100000 := by
  unfold dayOf.val
  split
  · rename_i h
    exact ⟨cal.day_nonneg (y := y) (m := m) (d := d) h, h.2.2.2.2.2.2⟩
  · omega

theorem seven7 {w : World} {g k : Nat} {v0 v1 v2 v3 v4 v5 v6 : Value} (h : w.cell? ⟨g, k, none⟩ = #[v0, v1, v2, v3, v4, v5, v6][k]?) (hk : k < 7) : ∃ v, w.cell? ⟨g, k, none⟩ = some v ∧ (v = v0 ∨ v = v1 ∨ v = v2 ∨ v = v3 ∨ v = v4 ∨ v = v5 ∨ v = v6) := by
  rw [h]
  obtain rfl | rfl | rfl | rfl | rfl | rfl | rfl : k = 0 ∨ k = 1 ∨ k = 2 ∨ k = 3 ∨ k = 4 ∨ k = 5 ∨ k = 6 := by omega
  all_goals simp
theorem five5 {w : World} {g k : Nat} {v0 v1 v2 v3 v4 : Value} (h : w.cell? ⟨g, k, none⟩ = #[v0, v1, v2, v3, v4][k]?) (hk : k < 5) : ∃ v, w.cell? ⟨g, k, none⟩ = some v ∧ (v = v0 ∨ v = v1 ∨ v = v2 ∨ v = v3 ∨ v = v4) := by
  rw [h]
  obtain rfl | rfl | rfl | rfl | rfl : k = 0 ∨ k = 1 ∨ k = 2 ∨ k = 3 ∨ k = 4 := by omega
  all_goals simp

set_option maxHeartbeats 1000000 in
theorem day (w : World) (b len : Nat) (r : Rd w b len) : Calls Tryd.prog 33 #[.pointer (some ⟨b, 0, none⟩)] w (GotW w b len) := by
  have R := Lib.hid r
  clear r
  go_enter Tryd.func33, Tryd.ntmps33
  go_wp2_with fail
  refine (once w b len 6 R.out (by omega) (by omega)).mono ?_
  rintro e w1 ⟨t, rfl, b1, r1⟩
  have R1 := Lib.hid r1
  have B1 := Lib.hid b1
  clear r1 b1
  cases t
  · go_wp2_with fail
    refine (below _ b len 7 (R1.out.alloc _) (by omega) (by omega)).mono ?_
    rintro e w2 ⟨x, x1, x2, rfl, b2, r2⟩
    obtain ⟨k, rfl⟩ := Int.eq_ofNat_of_zero_le x1
    have c0 := b2.cell (k := w1.heap.size) (o := k) (by simp) (by have := R1.out.lt; omega)
    rw [World.cell?_alloc_new] at c0
    obtain ⟨yv, hyv, hcase⟩ := seven7 c0 (by omega)
    obtain ⟨y, rfl, y1, y2⟩ : ∃ y : Int, yv = .int .i64 y ∧ 1970 ≤ y ∧ y ≤ 2200 := by
      rcases hcase with rfl | rfl | rfl | rfl | rfl | rfl | rfl
      all_goals exact ⟨_, rfl, by omega, by omega⟩
    have k1 : (k : Int) < 7 := by omega
    have B2 := Lib.hid (B1.out.trans ((Only.alloc (Only.refl b w1) _).trans b2))
    have R2 := Lib.hid r2
    clear c0 hcase b2 r2
    go_wp2_with fail
    refine (below w2 b len 12 R2.out (by omega) (by omega)).mono ?_
    rintro e w3 ⟨m, m1, m2, rfl, b3, r3⟩
    have B3 := Lib.hid (B2.out.trans b3)
    have R3 := Lib.hid r3
    clear b3 r3 hyv
    go_wp2_with fail
    refine (base.mlen_spec y (1 + m) w3 (base.mon _) (by omega) (by omega)).mono ?_
    rintro e w4 ⟨rfl, b4⟩
    have B4 := Lib.hid (B3.out.trans (Only.of_below (b := b) b4))
    have R4 := Lib.hid (R3.out.below b4 R3.out.lt)
    clear b4
    go_wp2_with fail
    refine (base.mlen_spec y (1 + m) w4 (base.mon _) (by omega) (by omega)).mono ?_
    rintro e w5 ⟨rfl, b5⟩
    have B5 := Lib.hid (B4.out.trans (Only.of_below (b := b) b5))
    have R5 := Lib.hid (R4.out.below b5 R4.out.lt)
    clear b5
    go_wp2_with fail
    refine (below _ b len 5 (R5.out.alloc _) (by omega) (by omega)).mono ?_
    rintro e w6 ⟨x, x3, x4, rfl, b6, r6⟩
    obtain ⟨q, rfl⟩ := Int.eq_ofNat_of_zero_le x3
    have c0 := b6.cell (k := w5.heap.size) (o := q) (by simp) (by have := R5.out.lt; omega)
    rw [World.cell?_alloc_new] at c0
    obtain ⟨dv, hdv, hcase⟩ := five5 c0 (by omega)
    obtain ⟨d, rfl⟩ : ∃ d : Int, dv = .int .i64 d := by
      rcases hcase with rfl | rfl | rfl | rfl | rfl
      all_goals exact ⟨_, rfl⟩
    have q1 : (q : Int) < 5 := by omega
    have B6 := Lib.hid (B5.out.trans ((Only.alloc (Only.refl b w5) _).trans b6))
    have R6 := Lib.hid r6
    clear c0 hcase b6 r6
    go_wp2_with fail
    refine (dayOf.spec y (1 + m) d w6 (base.mon _)).mono ?_
    rintro e w7 ⟨rfl, b7⟩
    have B7 := Lib.hid (B6.out.trans (Only.of_below (b := b) b7))
    have R7 := Lib.hid (R6.out.below b7 R6.out.lt)
    clear b7 hdv
    go_wp2
    go_ret
    have hv := val_bd y (1 + m) d
    exact ⟨_, wf_small _ (by omega) (by omega), rfl, B7.out, R7.out⟩
  · go_wp2_with fail
    refine (off w1 b len 0 100000 R1.out (by omega) (by omega) (by omega)).mono ?_
    rintro e w2 ⟨v, v1, rfl, b2, r2⟩
    have R2 := Lib.hid r2
    have B2 := Lib.hid b2
    have V1 := Lib.hid v1
    clear r2 b2 v1
    go_wp2
    go_ret
    exact ⟨v, V1.out, rfl, B1.out.trans B2.out, R2.out⟩
theorem results_tmp4 {fn : Func} {t u v x : Tmp} (h : fn.results = #[.tmp t, .tmp u, .tmp v, .tmp x]) (tmps : Array Value) (P : Program) (w : World) :
    (results fn tmps).run P w = .ok (.tuple #[tmps.getD t undef, tmps.getD u undef, tmps.getD v undef, tmps.getD x undef]) w := by
  simp [results, h]
/-- Four numbers, drawn. -/
def Drew4 (w : World) (e : Ending) (w' : World) : Prop := ∃ t n d r : Int, e = .returned (.tuple #[.int .i64 t, .int .i64 n, .int .i64 d, .int .i64 r]) ∧ Below w.heap.size w w'
set_option maxHeartbeats 2000000 in
theorem drawPM (a : Option Addr) (len cap : Nat) (w : World) (hB : Bytes w a len) (h : len ≤ 1048576) : Calls Tryd.prog 12 #[.slice a len cap] w (Drew4 w) := by
  have HB := Lib.hid hB
  clear hB
  go_enter Tryd.func12, Tryd.ntmps12
  go_wp2_with fail
  refine (openRd a len cap w HB.out h).mono ?_
  rintro e w0 ⟨rfl, r0, b0⟩
  have R0 := Lib.hid r0
  have B0 := Lib.hid b0
  have O0 := Lib.hid (Only.refl w.heap.size w0)
  clear r0 b0
  go_wp2_with fail
  refine (below w0 w.heap.size len 12 R0.out (by omega) (by omega)).mono ?_
  rintro e w1 ⟨x1, v1, u1, rfl, b1, r1⟩
  have R1 := Lib.hid r1
  have O1 := Lib.hid (O0.out.trans b1)
  clear r1 b1
  go_wp2_with fail
  refine (below _ w.heap.size len 5 (R1.out.alloc _) (by omega) (by omega)).mono ?_
  rintro e w2 ⟨x, x3, x4, rfl, b2, r2⟩
  obtain ⟨q, rfl⟩ := Int.eq_ofNat_of_zero_le x3
  have c0 := b2.cell (k := w1.heap.size) (o := q) (by simp) (by have := R1.out.lt; omega)
  rw [World.cell?_alloc_new] at c0
  obtain ⟨dv, hdv, hcase⟩ := five5 c0 (by omega)
  obtain ⟨d, rfl⟩ : ∃ d : Int, dv = .int .i64 d := by
    rcases hcase with rfl | rfl | rfl | rfl | rfl
    all_goals exact ⟨_, rfl⟩
  have q1 : (q : Int) < 5 := by omega
  have R2 := Lib.hid r2
  have O2 := Lib.hid (O1.out.trans ((Only.alloc (Only.refl w.heap.size w1) _).trans b2))
  clear c0 hcase b2 r2
  go_wp2_with fail
  refine (below w2 w.heap.size len 8 R2.out (by omega) (by omega)).mono ?_
  rintro e w3 ⟨x5, v5, u5, rfl, b3, r3⟩
  have R3 := Lib.hid r3
  have O3 := Lib.hid (O2.out.trans b3)
  clear r3 b3 hdv
  obtain rfl | rfl | hx : x5 = 0 ∨ x5 = 1 ∨ ¬ (x5 = 0 ∨ x5 = 1) := by omega
  · go_wp2_with fail
    refine (off w3 w.heap.size len 1 24 R3.out (by omega) (by omega) (by omega)).mono ?_
    rintro e w4 ⟨v, v1, rfl, b4, r4⟩
    have R4 := Lib.hid r4
    have O4 := Lib.hid (O3.out.trans b4)
    clear r4 b4 v1
    go_wp2_with fail
    refine (money w4 w.heap.size len R4.out).mono ?_
    rintro e w6 ⟨x6, rfl, b6, r6⟩
    have R6 := Lib.hid r6
    have O6 := Lib.hid (O4.out.trans b6)
    clear r6 b6
    go_wp2_with fail
    refine (below w6 w.heap.size len 2 R6.out (by omega) (by omega)).mono ?_
    rintro e w7 ⟨x7, v7, u7, rfl, b7, r7⟩
    have R7 := Lib.hid r7
    have O7 := Lib.hid (O6.out.trans b7)
    clear r7 b7
    go_wp2_with fail
    all_goals
      first
      | (refine (day _ w.heap.size len R7.out).mono ?_
         rintro e w8 ⟨x8, v8, rfl, b8, r8⟩
         have O8 := Lib.hid (O7.out.trans b8)
         clear r8 b8 v8
         go_wp2
         try simp only [Exit.inBlock, Exit.then]
         refine bodyPost_ret (results_tmp4 rfl _ _ _) rfl ?_
         exact ⟨_, _, _, _, rfl, back rfl B0.out O8.out⟩)
      | trace_state
  · go_wp2_with fail
    refine (off w3 w.heap.size len 0 10000 R3.out (by omega) (by omega) (by omega)).mono ?_
    rintro e w4 ⟨v, v1, rfl, b4, r4⟩
    have R4 := Lib.hid r4
    have O4 := Lib.hid (O3.out.trans b4)
    clear r4 b4 v1
    go_wp2_with fail
    refine (money w4 w.heap.size len R4.out).mono ?_
    rintro e w6 ⟨x6, rfl, b6, r6⟩
    have R6 := Lib.hid r6
    have O6 := Lib.hid (O4.out.trans b6)
    clear r6 b6
    go_wp2_with fail
    refine (below w6 w.heap.size len 2 R6.out (by omega) (by omega)).mono ?_
    rintro e w7 ⟨x7, v7, u7, rfl, b7, r7⟩
    have R7 := Lib.hid r7
    have O7 := Lib.hid (O6.out.trans b7)
    clear r7 b7
    go_wp2_with fail
    all_goals
      first
      | (refine (day _ w.heap.size len R7.out).mono ?_
         rintro e w8 ⟨x8, v8, rfl, b8, r8⟩
         have O8 := Lib.hid (O7.out.trans b8)
         clear r8 b8 v8
         go_wp2
         try simp only [Exit.inBlock, Exit.then]
         refine bodyPost_ret (results_tmp4 rfl _ _ _) rfl ?_
         exact ⟨_, _, _, _, rfl, back rfl B0.out O8.out⟩)
      | trace_state
  · have q1 : (x5 == 0) = false := by simp; omega
    have q2 : (x5 == 1) = false := by simp; omega
    clear hx
    go_wp2_with fail
    refine (money w3 w.heap.size len R3.out).mono ?_
    rintro e w6 ⟨x6, rfl, b6, r6⟩
    have R6 := Lib.hid r6
    have O6 := Lib.hid (O3.out.trans b6)
    clear r6 b6
    go_wp2_with fail
    refine (below w6 w.heap.size len 2 R6.out (by omega) (by omega)).mono ?_
    rintro e w7 ⟨x7, v7, u7, rfl, b7, r7⟩
    have R7 := Lib.hid r7
    have O7 := Lib.hid (O6.out.trans b7)
    clear r7 b7
    go_wp2_with fail
    all_goals
      first
      | (refine (day _ w.heap.size len R7.out).mono ?_
         rintro e w8 ⟨x8, v8, rfl, b8, r8⟩
         have O8 := Lib.hid (O7.out.trans b8)
         clear r8 b8 v8
         go_wp2
         try simp only [Exit.inBlock, Exit.then]
         refine bodyPost_ret (results_tmp4 rfl _ _ _) rfl ?_
         exact ⟨_, _, _, _, rfl, back rfl B0.out O8.out⟩)
      | trace_state
end Go.Proofs.YtchpjojndkkmeaaDoor.draw
