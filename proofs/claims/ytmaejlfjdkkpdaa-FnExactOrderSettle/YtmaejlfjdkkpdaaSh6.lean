/-
  Plain helpers of this seat's proofs: how long the lists of a changed order are. Conditions: none.
-/
import Derived.Test.YtmaejlfjdkkpdaaJMk
import Derived.Test.YtmaejlfjdkkpdaaPlSt
namespace Go.Proofs.Ytmaejlfjdkkpdaa.ob
open Go.ChangeShapes Go.WideShapes Go.ChangeAt Go.RowKit
open gen
open seven (F7 zz Row At)
open four (F4)
open pl (inR)
open pls (nth Pls OL)
open ord (Sc iok)
theorem nth_fw {S : Type} (f : S → List F7 → List F7 × S) (s : S) (p : List (List F7)) : ∀ k, k ≤ p.length → ∀ i, i < k → nth (wk.fw f s p k) i = (f (wk.fs f s p i) (nth p i)).1
  | k + 1, hk, i, hi => by
    rw [wk.fw_succ [] f s (show k < p.length by omega)]
    by_cases e : i = k
    · subst e
      rw [pls.nth_set_same (by rw [wk.fw_len]; omega)]; rfl
    · rw [pls.nth_set_other e]
      exact nth_fw f s p k (by omega) i (by omega)
theorem tl_le24 (p : List (List F7)) (h : ∀ i, i < p.length → (nth p i).length ≤ 24) : ∀ k, k ≤ p.length → pls.tl p k ≤ k * 24
  | 0, _ => Nat.le_refl _
  | k + 1, hk => by
    have := tl_le24 p h k (by omega)
    have := h k (by omega)
    unfold pls.tl
    omega
/-- The lists are short enough to be marked. -/
def Short (l : List F4) (p : List (List F7)) : Prop := l.length ≤ 1048576 ∧ p.length ≤ 1048576 ∧ pls.tl p p.length ≤ 1048576 ∧ ∀ i, i < p.length → (nth p i).length ≤ 1048576
theorem short_nil : Short [] [] := ⟨Nat.zero_le _, Nat.zero_le _, Nat.zero_le _, fun i h => absurd h (by simp)⟩
theorem short_24 {l : List F4} {p : List (List F7)} (hl : l.length ≤ 8) (hp : p.length ≤ 8) (h : ∀ i, i < p.length → (nth p i).length ≤ 24) : Short l p :=
  ⟨by omega, by omega, by have := tl_le24 p h p.length (Nat.le_refl _); omega, fun i hi => Nat.le_trans (h i hi) (by omega)⟩
end Go.Proofs.Ytmaejlfjdkkpdaa.ob
