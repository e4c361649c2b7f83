/-
  Plain helpers of this seat's proofs: contracts of the functions that draw dates from a code. Conditions: none.
-/
import Derived.Test.YtlpeadkkkmpccabDoorDraw3
import Derived.Test.YtlpeadkkkmpccabDoorDayOf
namespace Go.Proofs.YtlpeadkkkmpccabDoor.draw
open Go.ChangeShapes Go.WideShapes Go.ChangeAt Go.RowKit

theorem mon_only {w w' : World} {b : Nat} (c : base.Mon w) (h : Only b w w') (h1 : b ≤ w.heap.size) (h2 : 0 < b) : base.Mon w' := c.below (h.below h1) h2

theorem val_bd (y m d : Int) : 0 ≤ dayOf.val y m d ∧ dayOf.val y m d ≤ 100000 := by
  unfold dayOf.val
  split
  · rename_i h
    exact ⟨cal.day_nonneg (y := y) (m := m) (d := d) h, h.2.2.2.2.2.2⟩
  · omega

theorem seven {w : World} {g k : Nat} {v0 v1 v2 v3 v4 v5 v6 : Value} (h : w.cell? ⟨g, k, none⟩ = #[v0, v1, v2, v3, v4, v5, v6][k]?) (hk : k < 7) : ∃ v, w.cell? ⟨g, k, none⟩ = some v ∧ (v = v0 ∨ v = v1 ∨ v = v2 ∨ v = v3 ∨ v = v4 ∨ v = v5 ∨ v = v6) := by
  rw [h]
  obtain rfl | rfl | rfl | rfl | rfl | rfl | rfl : k = 0 ∨ k = 1 ∨ k = 2 ∨ k = 3 ∨ k = 4 ∨ k = 5 ∨ k = 6 := by omega
  all_goals simp
theorem five {w : World} {g k : Nat} {v0 v1 v2 v3 v4 : Value} (h : w.cell? ⟨g, k, none⟩ = #[v0, v1, v2, v3, v4][k]?) (hk : k < 5) : ∃ v, w.cell? ⟨g, k, none⟩ = some v ∧ (v = v0 ∨ v = v1 ∨ v = v2 ∨ v = v3 ∨ v = v4) := by
  rw [h]
  obtain rfl | rfl | rfl | rfl | rfl : k = 0 ∨ k = 1 ∨ k = 2 ∨ k = 3 ∨ k = 4 := by omega
  all_goals simp

set_option maxHeartbeats 1000000 in
theorem day (w : World) (b len : Nat) (r : Rd w b len) (c : base.Mon w) (hb0 : 0 < b) : Calls Tryd.prog 40 #[.pointer (some ⟨b, 0, none⟩)] w (GotW w b len) := by
  have R := Lib.hid r
  have C := Lib.hid c
  clear r c
  go_enter Tryd.func40, Tryd.ntmps40
  go_wp2_with fail
  refine (once w b len 6 R.out (by omega) (by omega)).mono ?_
  rintro e w1 ⟨t, rfl, b1, r1⟩
  have R1 := Lib.hid r1
  have B1 := Lib.hid b1
  have C1 := Lib.hid (mon_only C.out b1 (Nat.le_of_lt R.out.lt) hb0)
  clear r1 b1
  cases t
  · go_wp2_with fail
    refine (below _ b len 7 (R1.out.alloc _) (by omega) (by omega)).mono ?_
    rintro e w2 ⟨x, x1, x2, rfl, b2, r2⟩
    obtain ⟨k, rfl⟩ := Int.eq_ofNat_of_zero_le x1
    have c0 := b2.cell (k := w1.heap.size) (o := k) (by simp) (by have := R1.out.lt; omega)
    rw [World.cell?_alloc_new] at c0
    obtain ⟨yv, hyv, hcase⟩ := seven c0 (by omega)
    obtain ⟨y, rfl, y1, y2⟩ : ∃ y : Int, yv = .int .i64 y ∧ 1970 ≤ y ∧ y ≤ 2200 := by
      rcases hcase with rfl | rfl | rfl | rfl | rfl | rfl | rfl
      all_goals exact ⟨_, rfl, by omega, by omega⟩
    have k1 : (k : Int) < 7 := by omega
    have B2 := Lib.hid (B1.out.trans ((Only.alloc (Only.refl b w1) _).trans b2))
    have R2 := Lib.hid r2
    have C2 := Lib.hid (mon_only C.out B2.out (Nat.le_of_lt R.out.lt) hb0)
    clear c0 hcase b2 r2
    go_wp2_with fail
    refine (below w2 b len 12 R2.out (by omega) (by omega)).mono ?_
    rintro e w3 ⟨m, m1, m2, rfl, b3, r3⟩
    have B3 := Lib.hid (B2.out.trans b3)
    have R3 := Lib.hid r3
    have C3 := Lib.hid (mon_only C.out B3.out (Nat.le_of_lt R.out.lt) hb0)
    clear b3 r3 hyv
    go_wp2_with fail
    refine (base.mlen_spec y (1 + m) w3 C3.out (by omega) (by omega)).mono ?_
    rintro e w4 ⟨rfl, b4⟩
    have B4 := Lib.hid (B3.out.trans (Only.of_below (b := b) b4))
    have R4 := Lib.hid (R3.out.below b4 R3.out.lt)
    have C4 := Lib.hid (mon_only C.out B4.out (Nat.le_of_lt R.out.lt) hb0)
    clear b4
    go_wp2_with fail
    refine (base.mlen_spec y (1 + m) w4 C4.out (by omega) (by omega)).mono ?_
    rintro e w5 ⟨rfl, b5⟩
    have B5 := Lib.hid (B4.out.trans (Only.of_below (b := b) b5))
    have R5 := Lib.hid (R4.out.below b5 R4.out.lt)
    clear b5
    go_wp2_with fail
    refine (below _ b len 5 (R5.out.alloc _) (by omega) (by omega)).mono ?_
    rintro e w6 ⟨x, x3, x4, rfl, b6, r6⟩
    obtain ⟨q, rfl⟩ := Int.eq_ofNat_of_zero_le x3
    have c0 := b6.cell (k := w5.heap.size) (o := q) (by simp) (by have := R5.out.lt; omega)
    rw [World.cell?_alloc_new] at c0
    obtain ⟨dv, hdv, hcase⟩ := five c0 (by omega)
    obtain ⟨d, rfl⟩ : ∃ d : Int, dv = .int .i64 d := by
      rcases hcase with rfl | rfl | rfl | rfl | rfl
      all_goals exact ⟨_, rfl⟩
    have q1 : (q : Int) < 5 := by omega
    have B6 := Lib.hid (B5.out.trans ((Only.alloc (Only.refl b w5) _).trans b6))
    have R6 := Lib.hid r6
    have C6 := Lib.hid (mon_only C.out B6.out (Nat.le_of_lt R.out.lt) hb0)
    clear c0 hcase b6 r6
    go_wp2_with fail
    refine (dayOf.spec y (1 + m) d w6 C6.out).mono ?_
    rintro e w7 ⟨rfl, b7⟩
    have B7 := Lib.hid (B6.out.trans (Only.of_below (b := b) b7))
    have R7 := Lib.hid (R6.out.below b7 R6.out.lt)
    clear b7 hdv
    go_wp2
    go_ret
    have hv := val_bd y (1 + m) d
    exact ⟨_, wf_small _ (by omega) (by omega), rfl, B7.out, R7.out⟩
  · go_wp2_with fail
    refine (off w1 b len 0 100000 R1.out (by omega) (by omega) (by omega)).mono ?_
    rintro e w2 ⟨v, v1, rfl, b2, r2⟩
    have R2 := Lib.hid r2
    have B2 := Lib.hid b2
    have V1 := Lib.hid v1
    clear r2 b2 v1
    go_wp2
    go_ret
    exact ⟨v, V1.out, rfl, B1.out.trans B2.out, R2.out⟩
end Go.Proofs.YtlpeadkkkmpccabDoor.draw
