/-
  Plain helpers: contracts of the functions that name a currency and tell its places, at every number. Conditions: none.
-/
import Derived.Test.YtlpeadkkkmpccaaDoorAmt
namespace Go.Proofs.YtlpeadkkkmpccaaDoor.codes
open Go.ChangeShapes Go.WideShapes Go.ChangeAt Go.RowKit

def cdL (k : Int) : List UInt8 := if 0 ≤ k ∧ k ≤ 5 then curOf.cod k.toNat else []
def pls (k : Int) : Int := if 0 ≤ k ∧ k ≤ 5 then (amt.plc k : Int) else -1

theorem out_walk {F : FuncId} {v : Value} (n : Int) (w : World) (h : Calls Tryd.prog F #[.int .i64 n] w fun e w' => e = .returned v ∧ w = w') : Calls Tryd.prog F #[.int .i64 n] w fun e w' => e = .returned v ∧ Below w.heap.size w w' :=
  h.mono fun _ _ q => ⟨q.1, q.2 ▸ Below.refl _ _⟩
theorem code_impl (k : Int) (w : World) (c : base.Cur w) : Calls Tryd.prog 13 #[.int .i64 k] w fun e w' => e = .returned (.string ⟨(cdL k).toArray⟩) ∧ w = w' := by
  unfold cdL
  by_cases h : 0 ≤ k ∧ k ≤ 5
  · rw [if_pos h]
    obtain ⟨lt, c0, c1, c2, c3, c4, c5, c6, c7, c8, c9, c10, c11⟩ := c
    rcases (show k = 0 ∨ k = 1 ∨ k = 2 ∨ k = 3 ∨ k = 4 ∨ k = 5 by omega) with rfl | rfl | rfl | rfl | rfl | rfl <;>
      (clear h; go_enter Tryd.func13, Tryd.ntmps13; go_wp2; go_ret; exact ⟨rfl, rfl⟩)
  · rw [if_neg h]
    by_cases h1 : k < 0
    · have t1 : decide (0 ≤ k) = false := by simp; omega
      clear h
      go_enter Tryd.func13, Tryd.ntmps13
      go_wp2
      go_ret
      exact ⟨rfl, rfl⟩
    · have t1 : decide (0 ≤ k) = true := by simp; omega
      have t2 : decide (k < 6) = false := by simp; omega
      clear h
      go_enter Tryd.func13, Tryd.ntmps13
      go_wp2
      go_ret
      exact ⟨rfl, rfl⟩
theorem code_spec (k : Int) (w : World) : Calls Tryd.prog 15 #[.int .i64 k] w fun e w' => e = .returned (.string ⟨(cdL k).toArray⟩) ∧ Below w.heap.size w w' := by
  unfold cdL
  by_cases h : 0 ≤ k ∧ k ≤ 5
  · rw [if_pos h]
    rcases (show k = 0 ∨ k = 1 ∨ k = 2 ∨ k = 3 ∨ k = 4 ∨ k = 5 by omega) with rfl | rfl | rfl | rfl | rfl | rfl <;>
      (clear h; go_enter Tryd.func15, Tryd.ntmps15; go_wp2; go_ret; exact ⟨rfl, by repeat (first | exact Below.refl _ _ | refine Below.alloc ?_ (by simp) _)⟩)
  · rw [if_neg h]
    by_cases h1 : k < 0
    · have t1 : decide (0 ≤ k) = false := by simp; omega
      clear h
      go_enter Tryd.func15, Tryd.ntmps15
      go_wp2
      go_ret
      exact ⟨rfl, Below.refl _ _⟩
    · have t1 : decide (0 ≤ k) = true := by simp; omega
      have t2 : decide (k ≤ 5) = false := by simp; omega
      clear h
      go_enter Tryd.func15, Tryd.ntmps15
      go_wp2
      go_ret
      exact ⟨rfl, Below.refl _ _⟩
theorem pls_impl (k : Int) (w : World) (c : base.Cur w) : Calls Tryd.prog 17 #[.int .i64 k] w fun e w' => e = .returned (.int .i64 (pls k)) ∧ w = w' := by
  unfold pls
  by_cases h : 0 ≤ k ∧ k ≤ 5
  · rw [if_pos h]; exact amt.plc_impl k w c h.1 h.2
  · rw [if_neg h]
    by_cases h1 : k < 0
    · have t1 : decide (0 ≤ k) = false := by simp; omega
      clear h
      go_enter Tryd.func17, Tryd.ntmps17
      go_wp2
      go_ret
      exact ⟨rfl, rfl⟩
    · have t1 : decide (0 ≤ k) = true := by simp; omega
      have t2 : decide (k < 6) = false := by simp; omega
      clear h
      go_enter Tryd.func17, Tryd.ntmps17
      go_wp2
      go_ret
      exact ⟨rfl, rfl⟩
theorem pls_spec (k : Int) (w : World) : Calls Tryd.prog 18 #[.int .i64 k] w fun e w' => e = .returned (.int .i64 (pls k)) ∧ Below w.heap.size w w' := by
  unfold pls
  by_cases h : 0 ≤ k ∧ k ≤ 5
  · rw [if_pos h]; exact amt.plc_spec k w h.1 h.2
  · rw [if_neg h]
    by_cases h1 : k < 0
    · have t1 : decide (0 ≤ k) = false := by simp; omega
      clear h
      go_enter Tryd.func18, Tryd.ntmps18
      go_wp2
      go_ret
      exact ⟨rfl, Below.refl _ _⟩
    · have t1 : decide (0 ≤ k) = true := by simp; omega
      have t2 : decide (k ≤ 5) = false := by simp; omega
      clear h
      go_enter Tryd.func18, Tryd.ntmps18
      go_wp2
      go_ret
      exact ⟨rfl, Below.refl _ _⟩

theorem cd_out {k : Int} (h : k < 0 ∨ 5 < k) : cdL k = [] := if_neg (by omega)
theorem cd_in {k : Int} (h : 0 ≤ k ∧ k ≤ 5) : (cdL k == []) = false ∧ curOf.curIx (cdL k) = k ∧ 0 ≤ pls k := by
  unfold cdL pls
  rw [if_pos h, if_pos h]
  rcases (show k = 0 ∨ k = 1 ∨ k = 2 ∨ k = 3 ∨ k = 4 ∨ k = 5 by omega) with rfl | rfl | rfl | rfl | rfl | rfl <;> exact ⟨rfl, by decide, by decide⟩
theorem cd_ix (s : List UInt8) : curOf.curIx s = -1 ∨ (0 ≤ curOf.curIx s ∧ curOf.curIx s ≤ 5 ∧ cdL (curOf.curIx s) = s) := by
  unfold curOf.curIx
  repeat' split
  all_goals first | (right; rename_i h; subst h; exact ⟨by decide, by decide, by decide⟩) | (right; exact ⟨by decide, by decide, by rename_i h; exact h.symm⟩) | (left; rfl)
theorem cd_ne {c d : Int} (hc : 0 ≤ c ∧ c ≤ 5) (h : ¬ c = d) : (cdL d == cdL c) = false := by
  rw [beq_eq_false_iff_ne]
  intro e
  by_cases hd : 0 ≤ d ∧ d ≤ 5
  · have h1 := (cd_in hc).2.1
    have h2 := (cd_in hd).2.1
    rw [e] at h2
    exact h (h1.symm.trans h2)
  · have h1 := (cd_in hc).1
    rw [← e, cd_out (by omega)] at h1
    cases h1
end Go.Proofs.YtlpeadkkkmpccaaDoor.codes
