/-
  Plain helpers of this seat's proofs: the mathematics of a plan that is made. Conditions: none.
-/
import Derived.Test.YtchpjojndkkmeaaDoorJSh
import Derived.Test.YtchpjojndkkmeaaDoorJMf
import Derived.Test.YtchpjojndkkmeaaDoorPl
namespace Go.Proofs.YtchpjojndkkmeaaDoor.pm
open Go.ChangeShapes Go.WideShapes Go.ChangeAt Go.RowKit
open seven (F7 zz Row At)
/-- So many weights 1. -/
def ones (n : Nat) : List Int := List.replicate n 1
theorem ones_len (n : Nat) : (ones n).length = n := by simp [ones]
theorem ones_get {n i : Nat} (h : i < n) : (ones n).getD i 0 = 1 := by
  unfold ones
  rw [List.getD_eq_getElem?_getD, List.getElem?_replicate, if_pos h]; rfl
theorem ones_snoc (n : Nat) : ones n ++ [1] = ones (n + 1) := by
  unfold ones; rw [List.replicate_succ']
theorem wf_one {n i : Nat} (h : i < n) : shr.wf (ones n) i = 1 := by unfold shr.wf; rw [ones_get h]; rfl
theorem sumW_ones (n : Nat) : shr.sumW (ones n) = n := by
  unfold shr.sumW
  rw [ones_len, alc.sm_congr (g := fun _ => 1) (fun i hi => wf_one hi), alc.sm_const, Nat.one_mul]
theorem good {t : Int} {n : Nat} (h0 : 0 ≤ t) (h1 : t ≤ 1000000000000) (hn : 1 ≤ n) (h60 : n ≤ 60) : shr.Good t (ones n) := by
  refine ⟨h0, h1, by rw [ones_len]; exact h60, fun i hi => ?_, by rw [sumW_ones]; omega⟩
  rw [ones_len] at hi
  rw [ones_get hi]; omega
/-- The i-th of n equal pieces. -/
def sv (t : Int) (n i : Nat) : Int := ((t.toNat / n + (if i < t.toNat % n then 1 else 0) : Nat) : Int)
theorem sv_of {t : Int} {n : Nat} {l : List Int} (h0 : 0 ≤ t) (h1 : t ≤ 1000000000000) (hn : 1 ≤ n) (h60 : n ≤ 60) (h : shr.Sh t (ones n) l) : l.length = n ∧ ∀ i, i < n → l.getD i 0 = sv t n i := by
  have G := good h0 h1 hn h60
  rcases h with ⟨k, _⟩ | ⟨_, S, D, rfl⟩
  · exact absurd G k
  · have A := G.alc
    rw [ones_len, sumW_ones] at A D
    refine ⟨by rw [shr.lst_len, ones_len], fun i hi => ?_⟩
    rw [shr.lst_get _ _ _ (by rw [ones_len]; exact hi)]
    unfold sv
    have := alc.ones_first (c := 1) (by rw [Nat.one_mul]; exact A) D (fun j hj => wf_one hj) (by omega) (by omega) i hi
    rw [sumW_ones, this]
theorem sv_bd {t : Int} (h1 : t ≤ 1000000000000) {n : Nat} (hn : 1 ≤ n) (i : Nat) : 0 ≤ sv t n i ∧ sv t n i ≤ 1000000000000 := by
  unfold sv
  refine ⟨Int.natCast_nonneg _, ?_⟩
  have ht : t.toNat ≤ 1000000000000 := by omega
  generalize t.toNat = T at ht
  by_cases e : n = 1
  · subst e
    rw [Nat.mod_one, Nat.div_one, if_neg (by omega)]; omega
  · have : T / n ≤ T / 2 := Nat.div_le_div_left (by omega) (by omega)
    split <;> omega
/-- What PlanMade accepts. -/
structure Ok (t n d r : Int) : Prop where
  t0 : 1 ≤ t
  t1 : t ≤ 1000000000000
  r0 : 0 ≤ r
  r1 : r ≤ 10000
  dz : mf.Dz d n
  md : md.ok t (r * n) 120000 = true
noncomputable def okB (t n d r : Int) : Bool := @decide (Ok t n d r) (Classical.propDecidable _)
theorem okB_t {t n d r : Int} (h : Ok t n d r) : okB t n d r = true := by unfold okB; simp [h]
theorem okB_f {t n d r : Int} (h : ¬ Ok t n d r) : okB t n d r = false := by unfold okB; simp [h]
theorem okB_iff {t n d r : Int} : okB t n d r = true ↔ Ok t n d r := by unfold okB; simp
/-- The interest. -/
def intr (t n r : Int) : Int := md.val t (r * n) 120000
theorem intr_bd {t n d r : Int} (h : Ok t n d r) : 0 ≤ intr t n r ∧ intr t n r ≤ 1000000000000 := by
  unfold intr md.val
  have k := h.md
  rw [if_pos k, if_neg (by have := h.t0; omega)]
  unfold md.ok at k
  simp only [decide_eq_true_eq] at k
  omega
/-- One Part. -/
noncomputable def part (t n d r : Int) (i : Nat) : F7 := (mf.mf d ((i : Int) + 1), sv t n.toNat i, sv (intr t n r) n.toNat i, 0, 0, 0, 0)
/-- The first k Parts. -/
noncomputable def parts (t n d r : Int) (k : Nat) : List F7 := (List.range k).map (part t n d r)
theorem parts_len (t n d r : Int) (k : Nat) : (parts t n d r k).length = k := by simp [parts]
theorem parts_succ (t n d r : Int) (k : Nat) : parts t n d r (k + 1) = parts t n d r k ++ [part t n d r k] := by unfold parts; rw [List.range_succ, List.map_append]; rfl
theorem parts_get {t n d r : Int} {k i : Nat} (h : i < k) : (parts t n d r k).getD i zz = part t n d r i := by
  unfold parts
  rw [List.getD_eq_getElem?_getD, List.getElem?_map, List.getElem?_range h]; rfl
noncomputable def pmL (t n d r : Int) : List F7 := if okB t n d r then parts t n d r n.toNat else []
theorem pm_yes {t n d r : Int} (h : Ok t n d r) : pmL t n d r = parts t n d r n.toNat := by unfold pmL; rw [okB_t h]; rfl
theorem pm_no {t n d r : Int} (h : ¬ Ok t n d r) : pmL t n d r = [] := by unfold pmL; rw [okB_f h]; rfl
theorem Ok.n1 {t n d r : Int} (h : Ok t n d r) : 1 ≤ n.toNat ∧ n.toNat ≤ 24 := by have := h.dz.1; have := h.dz.2.1; omega
theorem mf_nn {d n : Int} (h : mf.Dz d n) {i : Nat} (hi : i < n.toNat) : 0 ≤ mf.mf d ((i : Int) + 1) ∧ mf.mf d ((i : Int) + 1) ≤ 100000 := by
  have := h.2.2 i (by omega)
  have := mf.mf_bd d ((i : Int) + 1)
  omega
/-- A plan that is made is a plan. -/
theorem pv {t n d r : Int} (h : Ok t n d r) : pl.PV (pmL t n d r) := by
  have hn := h.n1
  rw [pm_yes h]
  refine ⟨by rw [parts_len]; exact hn.2, fun i hi => ?_⟩
  rw [parts_len] at hi
  have a := mf_nn h.dz hi
  have b := sv_bd (t := t) h.t1 hn.1 i
  have c := sv_bd (t := intr t n r) (intr_bd h).2 hn.1 i
  refine ⟨?_, fun h0 => ?_⟩
  · rw [parts_get hi]
    refine pl.pok_iff.2 ⟨a.1, a.2, b.1, b.2, c.1, c.2, ?_, ?_, ?_, ?_, ?_, ?_, ?_, ?_⟩ <;> unfold part <;> dsimp only <;> first | exact b.1 | exact c.1 | omega
  · rw [parts_get hi, parts_get (by omega)]
    have := mf.dz_up h.dz (i - 1) (by omega)
    rw [show i - 1 + 1 = i by omega] at this
    exact this
theorem pm_len {t n d r : Int} : (pmL t n d r).length ≤ 24 := by
  by_cases h : Ok t n d r
  · exact (pv h).1
  · rw [pm_no h]; simp
end Go.Proofs.YtchpjojndkkmeaaDoor.pm
