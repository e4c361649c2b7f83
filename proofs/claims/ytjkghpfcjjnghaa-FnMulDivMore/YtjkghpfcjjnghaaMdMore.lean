/-
  Plain helpers of this seat's proofs: the mathematics of the laws of MulDiv. Conditions: none.
-/
import Derived.Test.YtjkghpfcjjnghaaMdLaw
namespace Go.Proofs.Ytjkghpfcjjnghaa.md
open Go.ChangeShapes Go.WideShapes Go.ChangeAt Go.RowKit

theorem one_ok (x : Int) (h1 : -1000000000000 ≤ x) (h2 : x ≤ 1000000000000) : ok x 1 1 = true ∧ val x 1 1 = x := by
  have e : rq (x.natAbs * (1 : Int).toNat) (1 : Int).toNat = x.natAbs := by
    show rq (x.natAbs * 1) 1 = _
    rw [Nat.mul_one, rq_one]
  have k : ok x 1 1 = true := by rw [ok_iff, e]; omega
  refine ⟨k, ?_⟩
  unfold val
  rw [k, if_pos rfl, e]
  split <;> omega
theorem all_ok (x : Int) (c : Nat) (h1 : -1000000000000 ≤ x) (h2 : x ≤ 1000000000000) (c1 : 1 ≤ c) (c2 : c ≤ 1000000000000) : ok x c c = true ∧ val x c c = x := by
  have e : rq (x.natAbs * (c : Int).toNat) (c : Int).toNat = x.natAbs := by
    rw [Int.toNat_natCast]; exact rq_self _ _ (by omega)
  have k : ok x c c = true := by rw [ok_iff, e]; omega
  refine ⟨k, ?_⟩
  unfold val
  rw [k, if_pos rfl, e]
  split <;> omega
theorem val_mono (x y b c : Int) (hx : ok x b c = true) (hy : ok y b c = true) (h : x ≤ y) : val x b c ≤ val y b c := by
  unfold val
  rw [hx, hy, if_pos rfl, if_pos rfl]
  by_cases c1 : x < 0
  · rw [if_pos c1]
    by_cases c2 : y < 0
    · rw [if_pos c2]
      have := rq_mono (y.natAbs * b.toNat) (x.natAbs * b.toNat) c.toNat (Nat.mul_le_mul_right _ (by omega))
      omega
    · rw [if_neg c2]; omega
  · rw [if_neg c1, if_neg (by omega)]
    have := rq_mono (x.natAbs * b.toNat) (y.natAbs * b.toNat) c.toNat (Nat.mul_le_mul_right _ (by omega))
    omega
end Go.Proofs.Ytjkghpfcjjnghaa.md
