/-
  Plain helpers of this seat's proofs: the sums of a plan that is made. Conditions: none.
-/
import Derived.Test.YtchpjojndkkmeaaDoorPm
namespace Go.Proofs.YtchpjojndkkmeaaDoor.pm
open Go.ChangeShapes Go.WideShapes Go.ChangeAt Go.RowKit
open seven (F7 zz Row At)
/-- The first k of n equal pieces together. -/
def svs (t : Int) (n k : Nat) : Int := ((k * (t.toNat / n) + min k (t.toNat % n) : Nat) : Int)
theorem svs_zero (t : Int) (n : Nat) : svs t n 0 = 0 := by unfold svs; simp
theorem svs_succ (t : Int) (n k : Nat) : svs t n (k + 1) = svs t n k + sv t n k := by
  unfold svs sv
  rw [Nat.succ_mul]
  by_cases h : k < t.toNat % n
  · rw [if_pos h]; omega
  · rw [if_neg h]; omega
theorem svs_all {t : Int} {n : Nat} (h0 : 0 ≤ t) (hn : 1 ≤ n) : svs t n n = t := by
  unfold svs
  have a := Nat.div_add_mod t.toNat n
  have b := Nat.mod_lt t.toNat (show 0 < n by omega)
  omega
theorem sums_to {t n d r : Int} (h : Ok t n d r) : ∀ k, k ≤ n.toNat → pl.sumTo (pmL t n d r) k = (0, svs t n.toNat k, svs (intr t n r) n.toNat k, 0, 0, 0, 0) := by
  intro k
  induction k with
  | zero => intro _; rw [svs_zero, svs_zero]; rfl
  | succ k ih =>
    intro hk
    rw [pl.sumTo, ih (by omega), pm_yes h, parts_get (by omega), svs_succ, svs_succ]
    unfold pl.add part
    simp
theorem sums_made {t n d r : Int} (h : Ok t n d r) : pl.sums (pmL t n d r) = (0, t, intr t n r, 0, 0, 0, 0) := by
  have e : (pmL t n d r).length = n.toNat := by rw [pm_yes h, parts_len]
  rw [pl.sums_t (pl.pv_t (pv h)), e, sums_to h _ (Nat.le_refl _), svs_all (by have := h.t0; omega) h.n1.1, svs_all (intr_bd h).1 h.n1.1]
theorem sv_first (t : Int) (n i : Nat) : sv t n i ≤ sv t n 0 ∧ sv t n 0 - 1 ≤ sv t n i := by
  unfold sv
  by_cases h : i < t.toNat % n
  · rw [if_pos h, if_pos (by omega)]; omega
  · rw [if_neg h]; split <;> omega
theorem made_get {t n d r : Int} (h : Ok t n d r) {i : Nat} (hi : i < n.toNat) : (pmL t n d r).getD i zz = (mf.mf d ((i : Int) + 1), sv t n.toNat i, sv (intr t n r) n.toNat i, 0, 0, 0, 0) := by
  rw [pm_yes h, parts_get hi]; rfl
end Go.Proofs.YtchpjojndkkmeaaDoor.pm
