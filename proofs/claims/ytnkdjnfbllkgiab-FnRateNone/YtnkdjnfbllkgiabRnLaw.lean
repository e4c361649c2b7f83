/-
  Plain helpers of this seat's proofs: lists of rates without those of a pair. Conditions: none.
-/
import Derived.Test.YtnkdjnfbllkgiabCv
namespace Go.Proofs.Ytnkdjnfbllkgiab.base
open led (F5 z5)
/-- A rate is not of this pair. -/
def oth (f t : Int) (x : F5) : Bool := x.2.1 != f || x.2.2.1 != t
def les (l : List F5) (f t : Int) (k : Nat) : List F5 := (l.take k).filter (oth f t)
theorem les_succ (l : List F5) (f t : Int) {k : Nat} (hk : k < l.length) : les l f t (k + 1) = if oth f t (l.getD k z5) = true then les l f t k ++ [l.getD k z5] else les l f t k := by
  have e : l.take (k + 1) = l.take k ++ [l.getD k z5] := by
    rw [List.take_succ_eq_append_getElem hk, List.getD_eq_getElem?_getD, List.getElem?_eq_getElem hk]; rfl
  unfold les
  rw [e, List.filter_append]
  split
  · rename_i h; rw [List.filter_cons_of_pos h, List.filter_nil]
  · rename_i h; rw [List.filter_cons_of_neg h, List.filter_nil, List.append_nil]
theorem les_len (l : List F5) (f t : Int) (k : Nat) : (les l f t k).length ≤ k := by
  unfold les
  exact Nat.le_trans (List.length_filter_le _ _) (by simp; omega)
theorem up_pair {l : List F5} (h : led.LV l) : List.Pairwise (fun x y : F5 => x.1 ≤ y.1) l := by
  have adj : ∀ (m : List F5), (∀ i, 0 < i → i < m.length → (m.getD (i - 1) z5).1 ≤ (m.getD i z5).1) → List.Pairwise (fun x y : F5 => x.1 ≤ y.1) m := by
    intro m
    induction m with
    | nil => intro _; exact List.Pairwise.nil
    | cons x m ih =>
      intro hm
      cases m with
      | nil => exact List.pairwise_singleton _ _
      | cons y m =>
        have h2 := ih (fun i h0 hi => by
          have := hm (i + 1) (by omega) (by simp at hi ⊢; omega)
          rw [show i + 1 - 1 = (i - 1) + 1 from by omega] at this
          exact this)
        have h1 : x.1 ≤ y.1 := hm 1 (by omega) (by simp)
        refine List.pairwise_cons.2 ⟨fun z hz => ?_, h2⟩
        rcases List.mem_cons.1 hz with rfl | hz
        · exact h1
        · have := (List.pairwise_cons.1 h2).1 z hz; omega
  exact adj l fun i h0 hi => (h.2 i hi).up h0
theorem les_lv {l : List F5} (h : led.LV l) (f t : Int) : led.lv (les l f t l.length) = true := by
  refine led.lv_t ⟨?_, fun i hi => ?_⟩
  · have := les_len l f t l.length; have := h.1; omega
  · have p : List.Pairwise (fun x y : F5 => x.1 ≤ y.1) (les l f t l.length) := by
      unfold les
      rw [List.take_length]
      exact (up_pair h).filter _
    have mem : ∀ x ∈ les l f t l.length, x ∈ l := fun x hx => by
      unfold les at hx
      rw [List.take_length] at hx
      exact (List.mem_filter.1 hx).1
    refine ⟨led.rok_iff.2 (led.LV_mem h (mem _ (led.getD_mem hi))), fun h0 => ?_⟩
    have := List.pairwise_iff_getElem.1 p (i - 1) i (by omega) hi (by omega)
    rw [List.getD_eq_getElem?_getD, List.getElem?_eq_getElem (by omega), List.getD_eq_getElem?_getD, List.getElem?_eq_getElem hi]
    exact this
theorem les_none (l : List F5) (f t d : Int) : ron (les l f t l.length) f t d = none := by
  unfold ron
  split
  · cases o : led.lastK (les l f t l.length) f t d (les l f t l.length).length with
    | none => rfl
    | some x =>
      obtain ⟨hm, hx⟩ := led.lastK_mem (Nat.le_refl _) o
      unfold les at hm
      have h1 := (List.mem_filter.1 hm).2
      have h2 := led.mt_iff.1 hx
      unfold oth at h1
      rw [h2.1, h2.2.1] at h1
      simp at h1
  · rfl
theorem les_cvt (l : List F5) (n f t d : Int) (h : f ≠ t) : (cvt (les l f t l.length) n f t d).2 = false := by
  cases g : (led.lv (les l f t l.length) && led.amt n && led.cur f && led.cur t) with
  | false => rw [cvt_no _ n f t d g]
  | true => rw [cvt_yes _ n f t d g, if_neg h, les_none]; rfl
end Go.Proofs.Ytnkdjnfbllkgiab.base
