/-
  Plain helpers: the order of the texts of dates. Conditions: none.
-/
import Derived.Test.YtlpeadkkkmpccabDoorReadMath
import Derived.Test.YtlpeadkkkmpccabDoorDraw5
import Derived.Test.YtlpeadkkkmpccabDoorTabs
namespace Go.Proofs.YtlpeadkkkmpccabDoor.ordM
open Go.ChangeShapes Go.WideShapes Go.ChangeAt Go.RowKit

theorem not_nil {n X Y Z : Int} (h : cal.isDate n X Y Z) : (dec.dateL X Y Z == []) = false := by
  obtain ⟨f0, f1, f2, f3, g0, g1, k0, k1, _, _, _, _, _, _, _, _, e, _⟩ := read.dateL_form (show dayOf.ok X Y Z = true from decide_eq_true h.1)
  rw [e]; rfl

theorem less_lt {a b : Nat} (l r : List UInt8) (ha : a < 10) (hb : b < 10) (h : a < b) : Op.bytesLess (read.ch a :: l) (read.ch b :: r) = true := by
  have : read.ch a < read.ch b := UInt8.lt_iff_toNat_lt.2 (by rw [read.ch_toNat ha, read.ch_toNat hb]; omega)
  simp [Op.bytesLess, this]
theorem less_gt {a b : Nat} (l r : List UInt8) (ha : a < 10) (hb : b < 10) (h : b < a) : Op.bytesLess (read.ch a :: l) (read.ch b :: r) = false := by
  have h1 : ¬ read.ch a < read.ch b := fun q => by
    have := UInt8.lt_iff_toNat_lt.1 q
    rw [read.ch_toNat ha, read.ch_toNat hb] at this; omega
  have h2 : ¬ read.ch a = read.ch b := fun q => by
    have := congrArg UInt8.toNat q
    rw [read.ch_toNat ha, read.ch_toNat hb] at this; omega
  simp [Op.bytesLess, h1, h2]
theorem less_eq (c : UInt8) (l r : List UInt8) : Op.bytesLess (c :: l) (c :: r) = Op.bytesLess l r := by
  have : ¬ c < c := fun q => by have := UInt8.lt_iff_toNat_lt.1 q; omega
  simp [Op.bytesLess, this]
theorem less_self : ∀ l : List UInt8, Op.bytesLess l l = false
  | [] => rfl
  | c :: l => by rw [less_eq]; exact less_self l

/-- A digit more: what it decides. -/
theorem dig_step {a b A B K : Nat} {l r : List UInt8} (ha : a < 10) (hb : b < 10) (hA : A < K) (hB : B < K) (h : Op.bytesLess l r = decide (A < B)) :
    Op.bytesLess (read.ch a :: l) (read.ch b :: r) = decide (a * K + A < b * K + B) := by
  rcases Nat.lt_trichotomy a b with q | q | q
  · rw [less_lt l r ha hb q]
    have : (a + 1) * K ≤ b * K := Nat.mul_le_mul_right _ q
    rw [Nat.add_mul] at this
    symm; apply decide_eq_true; omega
  · subst q
    rw [less_eq, h]
    by_cases c : A < B
    · rw [decide_eq_true c]; symm; apply decide_eq_true; omega
    · rw [decide_eq_false c]; symm; apply decide_eq_false; omega
  · rw [less_gt l r ha hb q]
    have : (b + 1) * K ≤ a * K := Nat.mul_le_mul_right _ q
    rw [Nat.add_mul] at this
    symm; apply decide_eq_false; omega

theorem less_date {X Y Z X' Y' Z' : Int} (h : dayOf.ok X Y Z = true) (h' : dayOf.ok X' Y' Z' = true) : Op.bytesLess (dec.dateL X Y Z) (dec.dateL X' Y' Z') = decide (X * 10000 + Y * 100 + Z < X' * 10000 + Y' * 100 + Z') := by
  obtain ⟨f0, f1, f2, f3, g0, g1, k0, k1, a0, a1, a2, a3, b0, b1, c0, c1, e, ex, ey, ez⟩ := read.dateL_form h
  obtain ⟨F0, F1, F2, F3, G0, G1, K0, K1, A0, A1, A2, A3, B0, B1, C0, C1, E, eX, eY, eZ⟩ := read.dateL_form h'
  rw [e, E]
  have s0 : Op.bytesLess [] [] = decide (0 < 0) := rfl
  have s1 := dig_step c1 C1 (show 0 < 1 by omega) (show 0 < 1 by omega) s0
  have s2 := dig_step c0 C0 (show k1 * 1 + 0 < 10 by omega) (show K1 * 1 + 0 < 10 by omega) s1
  rw [← less_eq 45] at s2
  have s3 := dig_step b1 B1 (show k0 * 10 + (k1 * 1 + 0) < 100 by omega) (show K0 * 10 + (K1 * 1 + 0) < 100 by omega) s2
  have s4 := dig_step b0 B0 (show g1 * 100 + (k0 * 10 + (k1 * 1 + 0)) < 1000 by omega) (show G1 * 100 + (K0 * 10 + (K1 * 1 + 0)) < 1000 by omega) s3
  rw [← less_eq 45] at s4
  have s5 := dig_step a3 A3 (show g0 * 1000 + (g1 * 100 + (k0 * 10 + (k1 * 1 + 0))) < 10000 by omega) (show G0 * 1000 + (G1 * 100 + (K0 * 10 + (K1 * 1 + 0))) < 10000 by omega) s4
  have s6 := dig_step a2 A2 (show f3 * 10000 + (g0 * 1000 + (g1 * 100 + (k0 * 10 + (k1 * 1 + 0)))) < 100000 by omega) (show F3 * 10000 + (G0 * 1000 + (G1 * 100 + (K0 * 10 + (K1 * 1 + 0)))) < 100000 by omega) s5
  have s7 := dig_step a1 A1 (show f2 * 100000 + (f3 * 10000 + (g0 * 1000 + (g1 * 100 + (k0 * 10 + (k1 * 1 + 0))))) < 1000000 by omega) (show F2 * 100000 + (F3 * 10000 + (G0 * 1000 + (G1 * 100 + (K0 * 10 + (K1 * 1 + 0))))) < 1000000 by omega) s6
  have s8 := dig_step a0 A0 (show f1 * 1000000 + (f2 * 100000 + (f3 * 10000 + (g0 * 1000 + (g1 * 100 + (k0 * 10 + (k1 * 1 + 0)))))) < 10000000 by omega) (show F1 * 1000000 + (F2 * 100000 + (F3 * 10000 + (G0 * 1000 + (G1 * 100 + (K0 * 10 + (K1 * 1 + 0)))))) < 10000000 by omega) s7
  rw [s8, decide_eq_decide, ex, ey, ez, eX, eY, eZ]
  omega

theorem later {x z X Y Z X' Y' Z' : Int} (h : cal.isDate x X Y Z) (h' : cal.isDate z X' Y' Z') (hl : X * 10000 + Y * 100 + Z < X' * 10000 + Y' * 100 + Z') : x < z := by
  obtain ⟨o, rfl⟩ := h
  obtain ⟨o', rfl⟩ := h'
  have i1 := cal.in_year o
  have i2 := cal.in_year o'
  have j1 := cal.in_month o
  have j2 := cal.in_month o'
  have m1 := cal.mlen_bd X Y
  have m2 := cal.mlen_bd X' Y'
  obtain ⟨p1, p2, p3, p4, p5, p6, p7⟩ := o
  obtain ⟨q1, q2, q3, q4, q5, q6, q7⟩ := o'
  rcases Int.lt_trichotomy X X' with c | c | c
  · have := cal.NY_lt X X' (by omega) c
    omega
  · subst c
    rcases Int.lt_trichotomy Y Y' with k | k | k
    · have := cal.cum_mono X (Y + 1) Y' (by omega) (by omega) (by omega)
      omega
    · subst k
      unfold cal.dayN
      omega
    · omega
  · omega

/-- The texts of days stand as the days do. -/
theorem order {x z X Y Z X' Y' Z' : Int} (h : cal.isDate x X Y Z) (h' : cal.isDate z X' Y' Z') : Op.bytesLess (dec.dateL X Y Z) (dec.dateL X' Y' Z') = decide (x < z) ∧ (dec.dateL X Y Z == dec.dateL X' Y' Z') = (x == z) := by
  have o : dayOf.ok X Y Z = true := decide_eq_true h.1
  have o' : dayOf.ok X' Y' Z' = true := decide_eq_true h'.1
  have e := less_date o o'
  have e' := less_date o' o
  rcases Int.lt_trichotomy (X * 10000 + Y * 100 + Z) (X' * 10000 + Y' * 100 + Z') with c | c | c
  · have l := later h h' c
    rw [decide_eq_true c] at e
    refine ⟨by rw [e]; symm; exact decide_eq_true l, ?_⟩
    have n1 : ¬ dec.dateL X Y Z = dec.dateL X' Y' Z' := fun q => by rw [q, less_self] at e; cases e
    have n2 : ¬ x = z := by omega
    rw [beq_eq_false_iff_ne.2 n1, beq_eq_false_iff_ne.2 n2]
  · have m1 := cal.mlen_bd X Y
    have m2 := cal.mlen_bd X' Y'
    obtain ⟨p1, p2, p3, p4, p5, p6, p7⟩ := h.1
    obtain ⟨q1, q2, q3, q4, q5, q6, q7⟩ := h'.1
    obtain rfl : X = X' := by omega
    obtain rfl : Y = Y' := by omega
    obtain rfl : Z = Z' := by omega
    have hx : x = z := h.2.symm.trans h'.2
    subst hx
    refine ⟨by rw [less_self]; symm; exact decide_eq_false (by omega), by rw [beq_self_eq_true, beq_self_eq_true]⟩
  · have l := later h' h c
    rw [decide_eq_true c] at e'
    rw [decide_eq_false (by omega)] at e
    refine ⟨by rw [e]; symm; exact decide_eq_false (by omega), ?_⟩
    have n1 : ¬ dec.dateL X Y Z = dec.dateL X' Y' Z' := fun q => by rw [q, less_self] at e'; cases e'
    have n2 : ¬ x = z := by omega
    rw [beq_eq_false_iff_ne.2 n1, beq_eq_false_iff_ne.2 n2]
end Go.Proofs.YtlpeadkkkmpccabDoor.ordM
