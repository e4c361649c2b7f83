/-
  Plain mathematics: one post put into a ledger, step by step. Conditions: none.
-/
import Derived.Test.YtnkdjnfbllkgiaaBal
namespace Go.Proofs.Ytnkdjnfbllkgiaa.led
theorem put_pre : ∀ {A B : List F5} {p : F5}, (∀ x ∈ A, K x < K p) → put (A ++ B) p = A ++ put B p
  | [], _, _, _ => rfl
  | x :: A, B, p, h => by
    show put (x :: (A ++ B)) p = x :: (A ++ put B p)
    rw [put, if_pos (h x (by simp)), put_pre (fun y hy => h y (by simp [hy]))]
theorem drop_succ5 {l : List F5} {k : Nat} (h : k < l.length) : l.drop k = l.getD k z5 :: l.drop (k + 1) := by
  rw [List.drop_eq_getElem_cons h, List.getD_eq_getElem?_getD, List.getElem?_eq_getElem h]; rfl
theorem take_lt {l : List F5} {k : Nat} {p : F5} (hk : k ≤ l.length) (h : ∀ i, i < k → K (l.getD i z5) < K p) : ∀ x ∈ l.take k, K x < K p := fun x hx => by
  obtain ⟨i, hi, e⟩ := mem_getD hx
  have hi' : i < k := by simp at hi; omega
  have := h i hi'
  rw [List.getD_eq_getElem?_getD, List.getElem?_take, if_pos hi', ← List.getD_eq_getElem?_getD] at e
  rw [e] at this
  exact this
/-- Where the search for a post's place stands. -/
structure PI (l : List F5) (p : F5) (k : Nat) (q : F5) (dn : Bool) (out : List F5) : Prop where
  no : dn = false → q = p ∧ out = l.take k ∧ ∀ i, i < k → K (l.getD i z5) < K p
  yes : dn = true → same q p ∧ out ++ l.drop k = put l p ∧ ∀ i, k ≤ i → i < l.length → K p < K (l.getD i z5)
theorem PI.start (l : List F5) (p : F5) : PI l p 0 p false [] := ⟨fun _ => ⟨rfl, by simp, fun i hi => absurd hi (by omega)⟩, fun h => by cases h⟩
theorem PI.low {l : List F5} {p q : F5} {k : Nat} {out : List F5} (h : PI l p k q false out) (hk : k < l.length) (hx : K (l.getD k z5) < K p) : PI l p (k + 1) q false (out ++ [l.getD k z5]) := by
  obtain ⟨h1, h2, h3⟩ := h.no rfl
  refine ⟨fun _ => ⟨h1, by rw [h2, take_succ5 hk], fun i hi => ?_⟩, fun h => by cases h⟩
  rcases Nat.lt_succ_iff_lt_or_eq.1 hi with h | rfl
  · exact h3 i h
  · exact hx
theorem PI.hit {l : List F5} {p q : F5} {k : Nat} {out : List F5} (ss : SS l) (h : PI l p k q false out) (hk : k < l.length) (hx : K (l.getD k z5) = K p) : q = p ∧ (nn p + nn (l.getD k z5) = 0 → PI l p (k + 1) (wn p (nn p + nn (l.getD k z5))) true out) ∧ (nn p + nn (l.getD k z5) ≠ 0 → PI l p (k + 1) (wn p (nn p + nn (l.getD k z5))) true (out ++ [wn p (nn p + nn (l.getD k z5))])) := by
  obtain ⟨h1, h2, h3⟩ := h.no rfl
  have e : put l p = l.take k ++ (if nn p + nn (l.getD k z5) = 0 then l.drop (k + 1) else wn p (nn p + nn (l.getD k z5)) :: l.drop (k + 1)) := by
    have := put_pre (B := l.drop k) (take_lt (Nat.le_of_lt hk) h3)
    rw [List.take_append_drop, drop_succ5 hk, put, if_neg (by omega), if_pos hx] at this
    exact this
  have up : ∀ i, k + 1 ≤ i → i < l.length → K p < K (l.getD i z5) := fun i h4 h5 => by rw [← hx]; exact SS_get ss (by omega) h5
  refine ⟨h1, fun h0 => ⟨(fun h => by cases h), fun _ => ⟨same_wn p _, ?_, up⟩⟩, fun h0 => ⟨(fun h => by cases h), fun _ => ⟨same_wn p _, ?_, up⟩⟩⟩
  · rw [e, if_pos h0, h2]
  · rw [e, if_neg h0, h2, List.append_assoc]; rfl
theorem PI.past {l : List F5} {p q : F5} {k : Nat} {out : List F5} (ss : SS l) (h : PI l p k q false out) (hk : k < l.length) (hx : K p < K (l.getD k z5)) : q = p ∧ (nn p = 0 → PI l p (k + 1) q true (out ++ [l.getD k z5])) ∧ (nn p ≠ 0 → PI l p (k + 1) q true ((out ++ [q]) ++ [l.getD k z5])) := by
  obtain ⟨h1, h2, h3⟩ := h.no rfl
  have e : put l p = l.take k ++ (if nn p = 0 then l.getD k z5 :: l.drop (k + 1) else p :: l.getD k z5 :: l.drop (k + 1)) := by
    have := put_pre (B := l.drop k) (take_lt (Nat.le_of_lt hk) h3)
    rw [List.take_append_drop, drop_succ5 hk, put, if_neg (by omega), if_neg (by omega)] at this
    exact this
  have up : ∀ i, k + 1 ≤ i → i < l.length → K p < K (l.getD i z5) := fun i h4 h5 => by have := SS_get ss (show k < i by omega) h5; omega
  subst h1
  refine ⟨rfl, fun h0 => ⟨(fun h => by cases h), fun _ => ⟨⟨rfl, rfl, rfl, rfl⟩, ?_, up⟩⟩, fun h0 => ⟨(fun h => by cases h), fun _ => ⟨⟨rfl, rfl, rfl, rfl⟩, ?_, up⟩⟩⟩
  · rw [e, if_pos h0, h2, List.append_assoc]; rfl
  · rw [e, if_neg h0, h2, List.append_assoc, List.append_assoc]; rfl
theorem PI.on {l : List F5} {p q : F5} {k : Nat} {out : List F5} (h : PI l p k q true out) (hk : k < l.length) : K q = K p ∧ K p < K (l.getD k z5) ∧ PI l p (k + 1) q true (out ++ [l.getD k z5]) := by
  obtain ⟨h1, h2, h3⟩ := h.yes rfl
  refine ⟨h1.K, h3 k (Nat.le_refl _) hk, (fun h => by cases h), fun _ => ⟨h1, ?_, fun i h4 h5 => h3 i (by omega) h5⟩⟩
  rw [← h2, drop_succ5 hk, List.append_assoc]; rfl
theorem PI.endT {l : List F5} {p q : F5} {out : List F5} (h : PI l p l.length q true out) : out = put l p := by
  have := (h.yes rfl).2.1
  simpa using this
theorem PI.endF {l : List F5} {p q : F5} {out : List F5} (h : PI l p l.length q false out) : q = p ∧ (nn p = 0 → out = put l p) ∧ (nn p ≠ 0 → out ++ [q] = put l p) := by
  obtain ⟨h1, h2, h3⟩ := h.no rfl
  have e : put l p = l ++ put [] p := by
    have := put_pre (A := l) (B := []) (p := p) (by have := take_lt (Nat.le_refl _) h3; rw [List.take_length] at this; exact this)
    rw [List.append_nil] at this
    exact this
  rw [List.take_length] at h2
  subst h1
  refine ⟨rfl, fun h0 => ?_, fun h0 => ?_⟩
  · rw [e, put, if_pos h0, h2, List.append_nil]
  · rw [e, put, if_neg h0, h2]

end Go.Proofs.Ytnkdjnfbllkgiaa.led
