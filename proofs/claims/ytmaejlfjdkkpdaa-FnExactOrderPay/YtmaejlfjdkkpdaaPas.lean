/-
  Plain helpers of this seat's proofs: a paid order's lists are short. Conditions: none.
-/
import Derived.Test.YtmaejlfjdkkpdaaJMk
import Derived.Test.YtmaejlfjdkkpdaaPlSt
import Derived.Test.YtmaejlfjdkkpdaaOlI
import Derived.Test.YtmaejlfjdkkpdaaOpPS
namespace Go.Proofs.Ytmaejlfjdkkpdaa.ob
open Go.ChangeShapes Go.WideShapes Go.ChangeAt Go.RowKit
open gen
open seven (F7 zz Row At)
open four (F4)
open pl (inR)
open pls (nth Pls OL)
open ord (Sc iok)
theorem nth_fw {S : Type} (f : S → List F7 → List F7 × S) (s : S) (p : List (List F7)) : ∀ k, k ≤ p.length → ∀ i, i < k → nth (wk.fw f s p k) i = (f (wk.fs f s p i) (nth p i)).1
  | k + 1, hk, i, hi => by
    rw [wk.fw_succ [] f s (show k < p.length by omega)]
    by_cases e : i = k
    · subst e
      rw [pls.nth_set_same (by rw [wk.fw_len]; omega)]; rfl
    · rw [pls.nth_set_other e]
      exact nth_fw f s p k (by omega) i (by omega)
theorem tl_le24 (p : List (List F7)) (h : ∀ i, i < p.length → (nth p i).length ≤ 24) : ∀ k, k ≤ p.length → pls.tl p k ≤ k * 24
  | 0, _ => Nat.le_refl _
  | k + 1, hk => by
    have := tl_le24 p h k (by omega)
    have := h k (by omega)
    unfold pls.tl
    omega
/-- The lists are short enough to be marked. -/
def Short (l : List F4) (p : List (List F7)) : Prop := l.length ≤ 1048576 ∧ p.length ≤ 1048576 ∧ pls.tl p p.length ≤ 1048576 ∧ ∀ i, i < p.length → (nth p i).length ≤ 1048576
theorem short_nil : Short [] [] := ⟨Nat.zero_le _, Nat.zero_le _, Nat.zero_le _, fun i h => absurd h (by simp)⟩
theorem short_24 {l : List F4} {p : List (List F7)} (hl : l.length ≤ 8) (hp : p.length ≤ 8) (h : ∀ i, i < p.length → (nth p i).length ≤ 24) : Short l p :=
  ⟨by omega, by omega, by have := tl_le24 p h p.length (Nat.le_refl _); omega, fun i hi => Nat.le_trans (h i hi) (by omega)⟩
end Go.Proofs.Ytmaejlfjdkkpdaa.ob

namespace Go.Proofs.Ytmaejlfjdkkpdaa.ob
open Go.ChangeShapes Go.WideShapes Go.ChangeAt Go.RowKit
open gen
open seven (F7 zz Row At)
open four (F4)
open pl (inR)
open pls (nth Pls OL)
open ord (Sc iok)
theorem lateR_short {s : Sc} {l : List F4} {p : List (List F7)} {d f g S0 C : Int} {s' : Sc} {l' : List F4} {p' : List (List F7)} (h : lateR s l p d f g S0 C s' l' p') : Short l' p' := by
  rcases h with ⟨_, _, _, _, rfl, rfl⟩ | ⟨_, _, _, _, _, rfl, rfl⟩ | ⟨hk, _, _, _, _, rfl, rfl⟩
  · exact short_nil
  · exact short_nil
  · have o := ord.ok_iff.1 hk
    have e : (ltLs p d f g).length = p.length := wk.fw_len _ _ _ _
    refine short_24 o.i1 (by rw [e]; exact o.p1) fun i hi => ?_
    rw [e] at hi
    unfold ltLs
    rw [nth_fw _ _ p p.length (Nat.le_refl _) i hi]
    exact Nat.le_trans (base.ltL_len _ _ _ _) (pl.pv_iff.1 (o.pv i hi)).1
end Go.Proofs.Ytmaejlfjdkkpdaa.ob

namespace Go.Proofs.Ytmaejlfjdkkpdaa.ob
open Go.ChangeShapes Go.WideShapes Go.ChangeAt Go.RowKit
open gen
open seven (F7 zz Row At)
open four (F4)
open pl (inR)
open pls (nth Pls OL)
open ord (Sc iok)
theorem payR_short {s : Sc} {l : List F4} {p : List (List F7)} {m S0 S1 S2 S3 C : Int} {s' : Sc} {l' : List F4} {p' : List (List F7)} (h : payR s l p m S0 S1 S2 S3 C s' l' p') : Short l' p' := by
  rcases h with ⟨_, _, _, _, _, _, _, rfl, rfl⟩ | ⟨_, _, _, _, _, _, _, _, rfl, rfl⟩ | ⟨hk, _, _, _, _, rfl, rfl⟩
  · exact short_nil
  · exact short_nil
  · have o := ord.ok_iff.1 hk
    have e : (paLs p m).length = p.length := wk.fw_len _ _ _ _
    refine short_24 o.i1 (by rw [e]; exact o.p1) fun i hi => ?_
    rw [e] at hi
    unfold paLs
    rw [nth_fw _ _ p p.length (Nat.le_refl _) i hi]
    exact Nat.le_trans (base.pyL_len (nth p i) _) (pl.pv_iff.1 (o.pv i hi)).1
end Go.Proofs.Ytmaejlfjdkkpdaa.ob
namespace Go.Proofs.Ytmaejlfjdkkpdaa.base
theorem bx_lt {W : World} {b : Nat} {x : seven.F7} (h : Bx W b x) : b < W.heap.size := World.block_lt_of_cell? W _ h.at_.c0
theorem bx_z {W : World} {b : Nat} {x : seven.F7} (h : Bx W b x) : W.cell? ⟨b, 0, none⟩ = some (.int .i64 x.1) ∧ W.cell? ⟨b, 1, none⟩ = some (.int .i64 x.2.1) ∧ W.cell? ⟨b, 2, none⟩ = some (.int .i64 x.2.2.1) ∧ W.cell? ⟨b, 3, none⟩ = some (.int .i64 x.2.2.2.1) ∧ W.cell? ⟨b, 4, none⟩ = some (.int .i64 x.2.2.2.2.1) ∧ W.cell? ⟨b, 5, none⟩ = some (.int .i64 x.2.2.2.2.2.1) ∧ W.cell? ⟨b, 6, none⟩ = some (.int .i64 x.2.2.2.2.2.2) := by
  obtain ⟨c0, c1, c2, c3, c4, c5, c6⟩ := h.at_
  simp only [Nat.zero_add] at c0 c1 c2 c3 c4 c5 c6
  exact ⟨c0, c1, c2, c3, c4, c5, c6⟩
end Go.Proofs.Ytmaejlfjdkkpdaa.base
