/-
  Plain helpers of this seat's proofs: lists that are short enough to be marked. Conditions: none.
-/
import Derived.Test.YtmaejlfjdkkpdaaPls
import Derived.Test.YtmaejlfjdkkpdaaSi
namespace Go.Proofs.Ytmaejlfjdkkpdaa.ob
open Go.ChangeShapes Go.WideShapes Go.ChangeAt Go.RowKit
open gen
open seven (F7 zz Row At)
open four (F4)
open pl (inR)
open pls (nth Pls OL)
open ord (Sc iok)
theorem tl_le24 (p : List (List F7)) (h : ∀ i, i < p.length → (nth p i).length ≤ 24) : ∀ k, k ≤ p.length → pls.tl p k ≤ k * 24
  | 0, _ => Nat.le_refl _
  | k + 1, hk => by
    have := tl_le24 p h k (by omega)
    have := h k (by omega)
    unfold pls.tl
    omega
/-- The lists are short enough to be marked. -/
def Short (l : List F4) (p : List (List F7)) : Prop := l.length ≤ 1048576 ∧ p.length ≤ 1048576 ∧ pls.tl p p.length ≤ 1048576 ∧ ∀ i, i < p.length → (nth p i).length ≤ 1048576
theorem short_nil : Short [] [] := ⟨Nat.zero_le _, Nat.zero_le _, Nat.zero_le _, fun i h => absurd h (by simp)⟩
theorem short_24 {l : List F4} {p : List (List F7)} (hl : l.length ≤ 8) (hp : p.length ≤ 8) (h : ∀ i, i < p.length → (nth p i).length ≤ 24) : Short l p :=
  ⟨by omega, by omega, by have := tl_le24 p h p.length (Nat.le_refl _); omega, fun i hi => Nat.le_trans (h i hi) (by omega)⟩
end Go.Proofs.Ytmaejlfjdkkpdaa.ob
