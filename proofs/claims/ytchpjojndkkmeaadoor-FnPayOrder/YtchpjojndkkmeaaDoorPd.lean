/-
  Plain helpers of this seat's proofs: the mathematics of paying debts one by one. Conditions: none.
-/
import Derived.Test.YtchpjojndkkmeaaDoorOm
namespace Go.Proofs.YtchpjojndkkmeaaDoor.base
open Go.ChangeShapes Go.WideShapes Go.ChangeAt Go.RowKit
open seven (F7 zz Row At)
open pl (inR prOk pok)
open gen
/-- A payment is recorded at a place of a Part. -/
def bump (x : F7) (j : Nat) (v : Int) : F7 := if j = 4 then (x.1, x.2.1, x.2.2.1, x.2.2.2.1, x.2.2.2.2.1 + v, x.2.2.2.2.2.1, x.2.2.2.2.2.2) else if j = 5 then (x.1, x.2.1, x.2.2.1, x.2.2.2.1, x.2.2.2.2.1, x.2.2.2.2.2.1 + v, x.2.2.2.2.2.2) else (x.1, x.2.1, x.2.2.1, x.2.2.2.1, x.2.2.2.2.1, x.2.2.2.2.2.1, x.2.2.2.2.2.2 + v)
def ap (L : List F7) (p : Nat × Int) : List F7 := L.set (p.1 / 7) (bump (L.getD (p.1 / 7) zz) (p.1 % 7) p.2)
/-- The plan when these debts have been paid. -/
def pd (L : List F7) (pre : List (Nat × Int)) : List F7 := pre.foldl ap L
theorem pd_len : ∀ (pre : List (Nat × Int)) (L : List F7), (pd L pre).length = L.length
  | [], _ => rfl
  | p :: pre, L => by show (pd (ap L p) pre).length = _; rw [pd_len pre]; simp [ap]
theorem pd_snoc (L : List F7) (pre : List (Nat × Int)) (x : Nat × Int) : pd L (pre ++ [x]) = ap (pd L pre) x := by simp [pd]
theorem pd_app (L : List F7) (a b : List (Nat × Int)) : pd L (a ++ b) = pd (pd L a) b := by simp [pd]
theorem ap_other {L : List F7} {p : Nat × Int} {i : Nat} (h : p.1 / 7 ≠ i) : (ap L p).getD i zz = L.getD i zz := seven.getD_set_other (Ne.symm h) _
theorem ap_same {L : List F7} {p : Nat × Int} {i : Nat} (h : p.1 / 7 = i) (hi : i < L.length) : (ap L p).getD i zz = bump (L.getD i zz) (p.1 % 7) p.2 := by
  subst h; exact seven.getD_set_same hi _
theorem pd_other : ∀ (pre : List (Nat × Int)) (L : List F7) (i : Nat), (∀ p ∈ pre, p.1 / 7 ≠ i) → (pd L pre).getD i zz = L.getD i zz
  | [], _, _, _ => rfl
  | p :: pre, L, i, h => by
    show (pd (ap L p) pre).getD i zz = _
    rw [pd_other pre _ i (fun q hq => h q (List.mem_cons_of_mem _ hq)), ap_other (h p List.mem_cons_self)]
theorem el_at (i j : Nat) (x : F7) : (el i x j).1 / 7 = i := by
  unfold el
  split
  · dsimp only; omega
  · split <;> dsimp only <;> omega
theorem dsTo_at {i : Nat} {x : F7} : ∀ j, ∀ p ∈ dsTo i x j, p.1 / 7 = i
  | 0, p, h => by simp [dsTo] at h
  | j + 1, p, h => by
    rw [dsTo, List.mem_append] at h
    rcases h with h | h
    · exact dsTo_at j p h
    · split at h
      · rw [List.mem_singleton.1 h]; exact el_at i j x
      · simp at h
theorem DS_at {L : List F7} : ∀ k, ∀ p ∈ DS L k, p.1 / 7 < k
  | 0, p, h => by simp [DS] at h
  | k + 1, p, h => by
    rw [DS, List.mem_append] at h
    rcases h with h | h
    · have := DS_at k p h; omega
    · have := dsTo_at 3 p h; omega
/-- A Part that is paid. -/
def full (x : F7) : F7 := (x.1, x.2.1, x.2.2.1, x.2.2.2.1, x.2.1, x.2.2.1, x.2.2.2.1)
theorem bF (x0 x1 x2 x3 x4 x5 x6 : Int) (h : x6 ≤ x3) : (if 0 < x3 - x6 then bump (x0, x1, x2, x3, x4, x5, x6) 6 (x3 - x6) else (x0, x1, x2, x3, x4, x5, x6)) = (x0, x1, x2, x3, x4, x5, x3) := by
  split
  · show (x0, x1, x2, x3, x4, x5, x6 + (x3 - x6)) = _
    rw [show x6 + (x3 - x6) = x3 by omega]
  · rw [show x6 = x3 by omega]
theorem bI (x0 x1 x2 x3 x4 x5 x6 : Int) (h : x5 ≤ x2) : (if 0 < x2 - x5 then bump (x0, x1, x2, x3, x4, x5, x6) 5 (x2 - x5) else (x0, x1, x2, x3, x4, x5, x6)) = (x0, x1, x2, x3, x4, x2, x6) := by
  split
  · show (x0, x1, x2, x3, x4, x5 + (x2 - x5), x6) = _
    rw [show x5 + (x2 - x5) = x2 by omega]
  · rw [show x5 = x2 by omega]
theorem bP (x0 x1 x2 x3 x4 x5 x6 : Int) (h : x4 ≤ x1) : (if 0 < x1 - x4 then bump (x0, x1, x2, x3, x4, x5, x6) 4 (x1 - x4) else (x0, x1, x2, x3, x4, x5, x6)) = (x0, x1, x2, x3, x1, x5, x6) := by
  split
  · show (x0, x1, x2, x3, x4 + (x1 - x4), x5, x6) = _
    rw [show x4 + (x1 - x4) = x1 by omega]
  · rw [show x4 = x1 by omega]
theorem pd_part {L : List F7} {i : Nat} (hi : i < L.length) (p : pl.Pin (L.getD i zz)) : (pd L (dsTo i (L.getD i zz) 3)).getD i zz = full (L.getD i zz) := by
  obtain ⟨x, hx⟩ : ∃ x, x = L.getD i zz := ⟨_, rfl⟩
  rw [← hx] at p ⊢
  have one : ∀ (M : List F7) (j : Nat), M.length = L.length → (pd M (if 0 < (el i x j).2 then [el i x j] else [])).getD i zz = (if 0 < (el i x j).2 then bump (M.getD i zz) ((el i x j).1 % 7) (el i x j).2 else M.getD i zz) := fun M j hM => by
    split
    · show (ap M (el i x j)).getD i zz = _
      rw [ap_same (el_at i j x) (by omega)]
    · rfl
  have d3 : dsTo i x 3 = (([] ++ (if 0 < (el i x 0).2 then [el i x 0] else [])) ++ (if 0 < (el i x 1).2 then [el i x 1] else [])) ++ (if 0 < (el i x 2).2 then [el i x 2] else []) := rfl
  rw [d3, List.nil_append, pd_app, pd_app, one _ 2 (by rw [pd_len, pd_len]), one _ 1 (by rw [pd_len]), one _ 0 rfl, ← hx]
  obtain ⟨x0, x1, x2, x3, x4, x5, x6⟩ := x
  obtain ⟨_, _, _, _, _, _, _, _, _, q1, _, j1, _, g1⟩ := p
  dsimp only at q1 j1 g1
  have e0 : (i * 7 + 6) % 7 = 6 := by omega
  have e1 : (i * 7 + 5) % 7 = 5 := by omega
  have e2 : (i * 7 + 4) % 7 = 4 := by omega
  simp only [el, if_true, if_false, e0, e1, e2, Nat.one_ne_zero, show (2 : Nat) ≠ 0 from by omega, show (2 : Nat) ≠ 1 from by omega]
  rw [bF _ _ _ _ _ _ _ g1, bI _ _ _ _ _ _ _ j1, bP _ _ _ _ _ _ _ q1]
  rfl
theorem pd_all {L : List F7} (hp : ∀ i, i < L.length → pl.Pin (L.getD i zz)) : ∀ k, k ≤ L.length → ∀ i, i < L.length → (pd L (DS L k)).getD i zz = if i < k then full (L.getD i zz) else L.getD i zz
  | 0, _, i, _ => by simp [DS, pd]
  | k + 1, hk, i, hi => by
    rw [DS, pd_app]
    have ih := pd_all hp k (by omega)
    by_cases e : i = k
    · subst e
      have h0 := ih i hi
      rw [if_neg (by omega)] at h0
      have := pd_part (L := pd L (DS L i)) (i := i) (by rw [pd_len]; exact hi) (by rw [h0]; exact hp i hi)
      rw [h0] at this
      rw [this, if_pos (by omega)]
    · rw [pd_other _ _ i (fun q hq => by have := dsTo_at 3 q hq; omega), ih i hi]
      by_cases c : i < k
      · rw [if_pos c, if_pos (by omega)]
      · rw [if_neg c, if_neg (by omega)]
theorem ext7 {A B : List F7} (hl : A.length = B.length) (h : ∀ i, i < A.length → A.getD i zz = B.getD i zz) : A = B := by
  refine List.ext_getElem hl fun i h1 h2 => ?_
  have := h i h1
  rwa [List.getD_eq_getElem?_getD, List.getElem?_eq_getElem h1, List.getD_eq_getElem?_getD, List.getElem?_eq_getElem h2] at this
/-- What paying off leaves. -/
def offL (l : List F7) (d : Int) : List F7 := l.map fun x => full (wvX d x)
theorem pd_off {l : List F7} {d : Int} (hp : ∀ i, i < l.length → pl.Pin (l.getD i zz)) : pd (wvL l d) (DS (wvL l d) (wvL l d).length) = offL l d := by
  have hl : (wvL l d).length = l.length := by unfold wvL; simp
  refine ext7 (by rw [pd_len, hl]; unfold offL; simp) fun i hi => ?_
  rw [pd_len] at hi
  rw [pd_all (fun j hj => by rw [wvL_get (by omega)]; exact wvX_pin (hp j (by omega))) _ (Nat.le_refl _) i hi, if_pos hi, wvL_get (by omega)]
  unfold offL
  rw [getD_map (h := fun x => full (wvX d x)) (by omega)]
noncomputable def poL (l : List F7) (d : Int) : List F7 := if pl.pv l && inR d 0 100000 then offL l d else []
noncomputable def poN (l : List F7) (d : Int) : Int := if pl.pv l && inR d 0 100000 then pl.fs (wv d) 0 l l.length else 0
theorem po_no {l : List F7} {d : Int} (h : (pl.pv l && inR d 0 100000) = false) : poL l d = [] ∧ poN l d = 0 := by unfold poL poN; rw [h]; exact ⟨rfl, rfl⟩
theorem po_yes {l : List F7} {d : Int} (h : (pl.pv l && inR d 0 100000) = true) : poL l d = offL l d ∧ poN l d = pl.fs (wv d) 0 l l.length := by unfold poL poN; rw [h]; exact ⟨rfl, rfl⟩
theorem poL_len (l : List F7) (d : Int) : (poL l d).length ≤ l.length := by
  unfold poL; split
  · unfold offL; simp
  · simp
end Go.Proofs.YtchpjojndkkmeaaDoor.base
