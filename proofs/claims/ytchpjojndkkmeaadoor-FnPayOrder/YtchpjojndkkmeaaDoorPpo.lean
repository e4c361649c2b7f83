/-
  Plain helpers of this seat's proofs: what a payment leaves of a plan that is made. Conditions: none.
-/
import Derived.Test.YtchpjojndkkmeaaDoorPm
import Derived.Test.YtchpjojndkkmeaaDoorPy
namespace Go.Proofs.YtchpjojndkkmeaaDoor.pm
open Go.ChangeShapes Go.WideShapes Go.ChangeAt Go.RowKit
open seven (F7 zz Row At)
/-- The first k of n equal pieces together. -/
def svs (t : Int) (n k : Nat) : Int := ((k * (t.toNat / n) + min k (t.toNat % n) : Nat) : Int)
theorem svs_zero (t : Int) (n : Nat) : svs t n 0 = 0 := by unfold svs; simp
theorem svs_succ (t : Int) (n k : Nat) : svs t n (k + 1) = svs t n k + sv t n k := by
  unfold svs sv
  rw [Nat.succ_mul]
  by_cases h : k < t.toNat % n
  · rw [if_pos h]; omega
  · rw [if_neg h]; omega
theorem svs_all {t : Int} {n : Nat} (h0 : 0 ≤ t) (hn : 1 ≤ n) : svs t n n = t := by
  unfold svs
  have a := Nat.div_add_mod t.toNat n
  have b := Nat.mod_lt t.toNat (show 0 < n by omega)
  omega
theorem sums_to {t n d r : Int} (h : Ok t n d r) : ∀ k, k ≤ n.toNat → pl.sumTo (pmL t n d r) k = (0, svs t n.toNat k, svs (intr t n r) n.toNat k, 0, 0, 0, 0) := by
  intro k
  induction k with
  | zero => intro _; rw [svs_zero, svs_zero]; rfl
  | succ k ih =>
    intro hk
    rw [pl.sumTo, ih (by omega), pm_yes h, parts_get (by omega), svs_succ, svs_succ]
    unfold pl.add part
    simp
theorem sums_made {t n d r : Int} (h : Ok t n d r) : pl.sums (pmL t n d r) = (0, t, intr t n r, 0, 0, 0, 0) := by
  have e : (pmL t n d r).length = n.toNat := by rw [pm_yes h, parts_len]
  rw [pl.sums_t (pl.pv_t (pv h)), e, sums_to h _ (Nat.le_refl _), svs_all (by have := h.t0; omega) h.n1.1, svs_all (intr_bd h).1 h.n1.1]
theorem sv_first (t : Int) (n i : Nat) : sv t n i ≤ sv t n 0 ∧ sv t n 0 - 1 ≤ sv t n i := by
  unfold sv
  by_cases h : i < t.toNat % n
  · rw [if_pos h, if_pos (by omega)]; omega
  · rw [if_neg h]; split <;> omega
theorem made_get {t n d r : Int} (h : Ok t n d r) {i : Nat} (hi : i < n.toNat) : (pmL t n d r).getD i zz = (mf.mf d ((i : Int) + 1), sv t n.toNat i, sv (intr t n r) n.toNat i, 0, 0, 0, 0) := by
  rw [pm_yes h, parts_get hi]; rfl
end Go.Proofs.YtchpjojndkkmeaaDoor.pm

namespace Go.Proofs.YtchpjojndkkmeaaDoor.pm
open Go.ChangeShapes Go.WideShapes Go.ChangeAt Go.RowKit
open seven (F7 zz Row At)
/-- A walk's list behind it, by places. -/
theorem fw_at {S : Type} (f : S → F7 → F7 × S) (s : S) {l : List F7} {i : Nat} (hi : i < l.length) : ∀ k, i < k → k ≤ l.length → (pl.fw f s l k).getD i zz = (f (pl.fs f s l i) (l.getD i zz)).1 := by
  intro k
  induction k with
  | zero => intro h; omega
  | succ k ih =>
    intro h1 h2
    rw [pl.fw_succ f s (show k < l.length by omega)]
    have hl := pl.fw_len f s l k
    by_cases e : i = k
    · subst e
      rw [List.getD_eq_getElem?_getD, List.getElem?_set]
      simp [hl, hi]
    · rw [List.getD_eq_getElem?_getD, List.getElem?_set, if_neg (by omega), ← List.getD_eq_getElem?_getD]
      exact ih (by omega) (by omega)
/-- What stands in one Part of a paid plan: m is what was left ahead of it, n behind it. -/
structure One (m n : Int) (x : F7) : Prop where
  m0 : 0 ≤ m
  n0 : 0 ≤ n
  f0 : x.2.2.2.1 = 0
  g0 : x.2.2.2.2.2.2 = 0
  a0 : 0 ≤ x.2.2.2.2.1
  a1 : x.2.2.2.2.1 ≤ x.2.1
  c0 : 0 ≤ x.2.2.2.2.2.1
  c1 : x.2.2.2.2.2.1 ≤ x.2.2.1
  p1 : x.2.1 ≤ 1000000000000
  i1 : x.2.2.1 ≤ 1000000000000
  up : 0 < x.2.2.2.2.1 → x.2.2.2.2.2.1 = x.2.2.1
  op : 0 < x.2.1 - x.2.2.2.2.1 + (x.2.2.1 - x.2.2.2.2.2.1) → n = 0
  no : m = 0 → x.2.2.2.2.1 = 0 ∧ x.2.2.2.2.2.1 = 0 ∧ n = 0
theorem one {m : Int} (h0 : 0 ≤ m) {d p i : Int} (p0 : 0 ≤ p) (p1 : p ≤ 1000000000000) (i0 : 0 ≤ i) (i1 : i ≤ 1000000000000) (s1 s2 s3 : Int) :
    One m (pl.pay (m, s1, s2, s3) (d, p, i, 0, 0, 0, 0)).2.1 (pl.pay (m, s1, s2, s3) (d, p, i, 0, 0, 0, 0)).1 := by
  unfold pl.pay pl.pP pl.pI pl.pF
  constructor <;> (try dsimp only) <;> omega
theorem paid_one {t n d r m : Int} (h : Ok t n d r) (hm : 0 ≤ m) : ∀ k, k < n.toNat → 0 ≤ (pl.fs pl.pay (m, 0, 0, 0) (pmL t n d r) k).1 ∧ One (pl.fs pl.pay (m, 0, 0, 0) (pmL t n d r) k).1 (pl.fs pl.pay (m, 0, 0, 0) (pmL t n d r) (k + 1)).1 (pl.pay (pl.fs pl.pay (m, 0, 0, 0) (pmL t n d r) k) ((pmL t n d r).getD k zz)).1 := by
  have hl : (pmL t n d r).length = n.toNat := by rw [pm_yes h, parts_len]
  have key : ∀ k, k < n.toNat → 0 ≤ (pl.fs pl.pay (m, 0, 0, 0) (pmL t n d r) k).1 → One (pl.fs pl.pay (m, 0, 0, 0) (pmL t n d r) k).1 (pl.fs pl.pay (m, 0, 0, 0) (pmL t n d r) (k + 1)).1 (pl.pay (pl.fs pl.pay (m, 0, 0, 0) (pmL t n d r) k) ((pmL t n d r).getD k zz)).1 := by
    intro k hk h0
    rw [pl.fs_succ pl.pay (m, 0, 0, 0) (show k < (pmL t n d r).length by omega), made_get h hk]
    have a := sv_bd (t := t) h.t1 h.n1.1 k
    have b := sv_bd (t := intr t n r) (intr_bd h).2 h.n1.1 k
    obtain ⟨w, hw⟩ : ∃ w, w = pl.fs pl.pay (m, 0, 0, 0) (pmL t n d r) k := ⟨_, rfl⟩
    rw [← hw] at h0 ⊢
    obtain ⟨q, s1, s2, s3⟩ := w
    exact one h0 a.1 a.2 b.1 b.2 s1 s2 s3
  intro k
  induction k with
  | zero =>
    intro hk
    have z : 0 ≤ (pl.fs pl.pay (m, 0, 0, 0) (pmL t n d r) 0).1 := by rw [pl.fs_zero]; exact hm
    exact ⟨z, key 0 hk z⟩
  | succ k ih =>
    intro hk
    have z := (ih (by omega)).2.n0
    exact ⟨z, key (k + 1) hk z⟩
/-- A paid plan, by places. -/
theorem paid_get {t n d r m : Int} (h : Ok t n d r) (hm : 0 ≤ m) (hm2 : m ≤ 1000000000000) : (base.pyL (pmL t n d r) m).length = n.toNat ∧ ∀ k, k < n.toNat → (base.pyL (pmL t n d r) m).getD k zz = (pl.pay (pl.fs pl.pay (m, 0, 0, 0) (pmL t n d r) k) ((pmL t n d r).getD k zz)).1 := by
  have hl : (pmL t n d r).length = n.toNat := by rw [pm_yes h, parts_len]
  have ok : base.pyOk (pmL t n d r) m = true := by unfold base.pyOk; rw [pl.pv_t (pv h), Bool.true_and, pl.inR_iff]; exact ⟨hm, hm2⟩
  rw [(base.py_yes ok).1]
  exact ⟨by rw [pl.fw_len, hl], fun k hk => fw_at _ _ (by omega) _ (by omega) (Nat.le_refl _)⟩
end Go.Proofs.YtchpjojndkkmeaaDoor.pm
