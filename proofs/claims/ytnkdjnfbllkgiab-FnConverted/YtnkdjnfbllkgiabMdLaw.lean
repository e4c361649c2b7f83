/-
  Plain helpers of this seat's proofs: the mathematics of the laws of MulDiv. Conditions: none.
-/
import Derived.Test.YtnkdjnfbllkgiabMd2
namespace Go.Proofs.Ytnkdjnfbllkgiab.md
open Go.ChangeShapes Go.WideShapes Go.ChangeAt Go.RowKit

theorem ok_iff {a b c : Int} : ok a b c = true ↔ (-1000000000000 ≤ a ∧ a ≤ 1000000000000 ∧ 0 ≤ b ∧ b ≤ 1000000000000 ∧ 1 ≤ c ∧ c ≤ 1000000000000 ∧ rq (a.natAbs * b.toNat) c.toNat ≤ 1000000000000) := by
  unfold ok; simp only [decide_eq_true_eq]
theorem ok_neg (a b c : Int) : ok (-a) b c = ok a b c := by
  unfold ok
  rw [Int.natAbs_neg]
  congr 1
  simp only [eq_iff_iff]
  constructor <;> (rintro ⟨h1, h2, h3⟩; exact ⟨by omega, by omega, h3⟩)
theorem rq_zero (c : Nat) : rq 0 c = 0 := by
  unfold rq; simp
theorem val_neg (a b c : Int) (h : ok a b c = true) : val (-a) b c = -val a b c := by
  unfold val
  rw [ok_neg, h, Int.natAbs_neg, if_pos rfl, if_pos rfl]
  by_cases c1 : a < 0
  · rw [if_neg (by omega), if_pos c1]; omega
  · rw [if_neg c1]
    by_cases c2 : a = 0
    · subst c2; rw [if_neg (by omega)]; simp [rq_zero c.toNat]
    · rw [if_pos (by omega)]
theorem val_no (a b c : Int) (h : ok a b c = false) : val a b c = 0 := by unfold val; rw [h]; rfl

/-- The difference between the product and the result by the divisor. -/
structure Near (a b c q x y E : Int) : Prop where
  ex : wrap64 (a * b) = x
  ey : wrap64 (q * c) = y
  x1 : -2305843009213693952 ≤ x
  x2 : x ≤ 2305843009213693952
  y1 : -2305844009213693952 ≤ y
  y2 : y ≤ 2305844009213693952
  m : max (x - y) (-(x - y)) = E
  e1 : 0 ≤ E
  e2 : 2 * E < c ∨ (2 * E = c ∧ q.tmod 2 = 0)

theorem nat_near (n c : Nat) (hc : 1 ≤ c) (hc2 : c ≤ 1000000000000) (hn : n ≤ 2305843009213693952) : ∃ E : Nat, (rq n c * c + E = n ∨ n + E = rq n c * c) ∧ (2 * E < c ∨ (2 * E = c ∧ rq n c % 2 = 0)) ∧ rq n c * c ≤ 2305844009213693952 := by
  rcases rq_near n c hc with ⟨h1, h2⟩ | ⟨h1, h2⟩
  · exact ⟨n - rq n c * c, .inl (by omega), h2, by omega⟩
  · exact ⟨rq n c * c - n, .inr (by omega), h2, by omega⟩
theorem wrap64_in (x : Int) (h1 : -9223372036854775808 ≤ x) (h2 : x ≤ 9223372036854775807) : wrap64 x = x := by
  unfold wrap64; omega
theorem near_of (a : Int) (b c : Nat) (hc : 1 ≤ c) (hc2 : c ≤ 1000000000000) (hn : a.natAbs * b ≤ 2305843009213693952) (q : Int)
    (hq : q = if a < 0 then -(rq (a.natAbs * b) c : Int) else (rq (a.natAbs * b) c : Int)) : ∃ x y E, Near a b c q x y E := by
  obtain ⟨E, h1, h2, h3⟩ := nat_near (a.natAbs * b) c hc hc2 hn
  generalize hk : rq (a.natAbs * b) c = K at *
  by_cases hz : a < 0
  · rw [if_pos hz] at hq
    have ea : a * (b : Int) = -((a.natAbs * b : Nat) : Int) := by
      rw [Int.natCast_mul, ← Int.neg_mul]; congr 1; omega
    have eq : q * (c : Int) = -((K * c : Nat) : Int) := by rw [hq, Int.natCast_mul, Int.neg_mul]
    generalize a.natAbs * b = n at *
    generalize K * c = m at *
    exact ⟨-(n : Int), -(m : Int), E, by rw [ea]; exact wrap64_in _ (by omega) (by omega), by rw [eq]; exact wrap64_in _ (by omega) (by omega), by omega, by omega, by omega, by omega, by omega, by omega, by
      rcases h2 with h2 | ⟨h2, h4⟩
      · exact .inl (by omega)
      · refine .inr ⟨by omega, ?_⟩
        rw [hq, Int.neg_tmod]
        have := Int.tmod_eq_emod_of_nonneg (a := (K : Int)) (b := 2) (by omega)
        omega⟩
  · rw [if_neg hz] at hq
    have ea : a * (b : Int) = ((a.natAbs * b : Nat) : Int) := by
      rw [Int.natCast_mul]; congr 1; omega
    have eq : q * (c : Int) = ((K * c : Nat) : Int) := by rw [hq, Int.natCast_mul]
    generalize a.natAbs * b = n at *
    generalize K * c = m at *
    exact ⟨(n : Int), (m : Int), E, by rw [ea]; exact wrap64_in _ (by omega) (by omega), by rw [eq]; exact wrap64_in _ (by omega) (by omega), by omega, by omega, by omega, by omega, by omega, by omega, by
      rcases h2 with h2 | ⟨h2, h4⟩
      · exact .inl (by omega)
      · refine .inr ⟨by omega, ?_⟩
        rw [hq]
        have := Int.tmod_eq_emod_of_nonneg (a := (K : Int)) (b := 2) (by omega)
        omega⟩
end Go.Proofs.Ytnkdjnfbllkgiab.md
