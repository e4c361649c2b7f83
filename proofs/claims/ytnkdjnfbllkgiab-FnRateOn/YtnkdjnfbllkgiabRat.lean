/-
  Plain mathematics: lists of rates as lists of five numbers. Conditions: none.
-/
import Derived.WalkKit
namespace Go.Proofs.Ytnkdjnfbllkgiab.led
abbrev F5 := Int × Int × Int × Int × Int
def z5 : F5 := (0, 0, 0, 0, 0)
def inR (n a b : Int) : Bool := decide (a ≤ n) && decide (n ≤ b)
theorem inR_iff {n a b : Int} : inR n a b = true ↔ a ≤ n ∧ n ≤ b := by simp [inR]
theorem inR_not {n a b : Int} : inR n a b = false ↔ n < a ∨ b < n := by
  have := @inR_iff n a b
  cases h : inR n a b <;> simp [h] at this ⊢ <;> omega
def cur (n : Int) : Bool := inR n 0 5
def amt (n : Int) : Bool := inR n (-1000000000000) 1000000000000
/-- A rate is valid: day, from, to, numerator, denominator. -/
def rok (x : F5) : Bool := inR x.1 0 100000 && cur x.2.1 && cur x.2.2.1 && (x.2.1 != x.2.2.1) && inR x.2.2.2.1 1 1000000 && inR x.2.2.2.2 1 1000000
structure Rk (x : F5) : Prop where
  day : 0 ≤ x.1 ∧ x.1 ≤ 100000
  fr : 0 ≤ x.2.1 ∧ x.2.1 ≤ 5
  to : 0 ≤ x.2.2.1 ∧ x.2.2.1 ≤ 5
  ne : x.2.1 ≠ x.2.2.1
  num : 1 ≤ x.2.2.2.1 ∧ x.2.2.2.1 ≤ 1000000
  den : 1 ≤ x.2.2.2.2 ∧ x.2.2.2.2 ≤ 1000000
theorem rok_iff {x : F5} : rok x = true ↔ Rk x := by
  unfold rok cur
  simp only [Bool.and_eq_true, inR_iff, bne_iff_ne, ne_eq]
  constructor
  · rintro ⟨⟨⟨⟨⟨h1, h2⟩, h3⟩, h4⟩, h5⟩, h6⟩
    exact ⟨h1, h2, h3, h4, h5, h6⟩
  · rintro ⟨h1, h2, h3, h4, h5, h6⟩
    exact ⟨⟨⟨⟨⟨h1, h2⟩, h3⟩, h4⟩, h5⟩, h6⟩
structure Fine (l : List F5) (i : Nat) : Prop where
  ok : rok (l.getD i z5) = true
  up : 0 < i → (l.getD (i - 1) z5).1 ≤ (l.getD i z5).1
def LV (l : List F5) : Prop := l.length ≤ 60 ∧ ∀ i, i < l.length → Fine l i
noncomputable def lv (l : List F5) : Bool := @decide (LV l) (Classical.propDecidable _)
theorem lv_iff {l : List F5} : lv l = true ↔ LV l := by unfold lv; simp
theorem lv_not {l : List F5} : lv l = false ↔ ¬ LV l := by unfold lv; simp
theorem lv_t {l : List F5} (h : LV l) : lv l = true := lv_iff.2 h
theorem lv_f {l : List F5} (h : ¬ LV l) : lv l = false := lv_not.2 h
theorem getD_mem {l : List F5} {i : Nat} (h : i < l.length) : l.getD i z5 ∈ l := by
  rw [List.getD_eq_getElem?_getD, List.getElem?_eq_getElem h]; exact List.getElem_mem h
theorem mem_getD {l : List F5} {x : F5} (h : x ∈ l) : ∃ i, i < l.length ∧ l.getD i z5 = x := by
  obtain ⟨i, hi, e⟩ := List.mem_iff_getElem.1 h
  exact ⟨i, hi, by rw [List.getD_eq_getElem?_getD, List.getElem?_eq_getElem hi, e]; rfl⟩
theorem LV_mem {l : List F5} (h : LV l) {x : F5} (hx : x ∈ l) : Rk x := by
  obtain ⟨i, hi, rfl⟩ := mem_getD hx
  exact rok_iff.1 (h.2 i hi).ok
/-- Is a rate one of this pair, from a day at most this one on? -/
def mt (f t d : Int) (x : F5) : Bool := x.2.1 == f && x.2.2.1 == t && decide (x.1 ≤ d)
/-- The last one of the first k. -/
def lastK (l : List F5) (f t d : Int) : Nat → Option F5
  | 0 => none
  | k + 1 => if mt f t d (l.getD k z5) = true then some (l.getD k z5) else lastK l f t d k
theorem lastK_congr {l m : List F5} {f t d : Int} : ∀ {k : Nat}, (∀ i, i < k → l.getD i z5 = m.getD i z5) → lastK l f t d k = lastK m f t d k
  | 0, _ => rfl
  | k + 1, h => by rw [lastK, lastK, h k (by omega), lastK_congr (fun i hi => h i (by omega))]
theorem lastK_mem {l : List F5} {f t d : Int} {x : F5} : ∀ {k : Nat}, k ≤ l.length → lastK l f t d k = some x → x ∈ l ∧ mt f t d x = true
  | 0, _, h => by cases h
  | k + 1, hk, h => by
    rw [lastK] at h
    split at h
    · rename_i hm
      injection h with h
      exact ⟨by rw [← h]; exact getD_mem (by omega), by rw [← h]; exact hm⟩
    · exact lastK_mem (by omega) h
theorem getD_snoc_lt {l : List F5} {r : F5} {i : Nat} (h : i < l.length) : (l ++ [r]).getD i z5 = l.getD i z5 := by
  rw [List.getD_eq_getElem?_getD, List.getD_eq_getElem?_getD, List.getElem?_append_left h]
theorem getD_snoc_eq {l : List F5} {r : F5} : (l ++ [r]).getD l.length z5 = r := by
  rw [List.getD_eq_getElem?_getD]; simp
theorem lastK_snoc {l : List F5} {r : F5} {f t d : Int} : lastK (l ++ [r]) f t d (l ++ [r]).length = if mt f t d r = true then some r else lastK l f t d l.length := by
  rw [List.length_append, List.length_singleton, lastK, getD_snoc_eq, lastK_congr (m := l) (fun i hi => getD_snoc_lt hi)]
theorem LV_init {l : List F5} {r : F5} (h : LV (l ++ [r])) : LV l ∧ Rk r := by
  obtain ⟨h1, h2⟩ := h
  rw [List.length_append, List.length_singleton] at h1
  refine ⟨⟨by omega, fun i hi => ?_⟩, ?_⟩
  · have := h2 i (by simp; omega)
    have e := getD_snoc_lt (r := r) hi
    refine ⟨by rw [← e]; exact this.ok, fun h0 => ?_⟩
    have u := this.up h0
    rw [e, getD_snoc_lt (by omega)] at u
    exact u
  · have := (h2 l.length (by simp)).ok
    rw [getD_snoc_eq] at this
    exact rok_iff.1 this
theorem mt_iff {f t d : Int} {x : F5} : mt f t d x = true ↔ x.2.1 = f ∧ x.2.2.1 = t ∧ x.1 ≤ d := by
  unfold mt; simp [and_assoc]

end Go.Proofs.Ytnkdjnfbllkgiab.led
