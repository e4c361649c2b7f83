/-
  Plain mathematics: the sums of the classes are the sum of all. Conditions: none.
-/
import Derived.Test.YtnkdjnfbllkgiaaBal
import Derived.Test.YtnkdjnfbllkgiaaLed2
namespace Go.Proofs.Ytnkdjnfbllkgiaa.led
theorem csm_sum {l : List F5} (h : LV l) (c : Nat) : ∀ k, k ≤ l.length → csm l 1 c k + csm l 2 c k + csm l 3 c k = csk l c k
  | 0, _ => by simp [csm, csk]
  | k + 1, hk => by
    have ih := csm_sum h c k (by omega)
    have hi := (plok_in (h.2 k (by omega)).pl).a
    rw [csm, csm, csm, csk]
    generalize l.getD k z5 = x at hi
    by_cases hc : x.2.2.2.1 = (c : Int)
    · obtain e | e | e : x.1 = 1 ∨ x.1 = 2 ∨ x.1 = 3 := by omega
      · rw [if_pos ⟨e, hc⟩, if_neg (fun q => by have := q.1; omega), if_neg (fun q => by have := q.1; omega), if_pos hc]; omega
      · rw [if_neg (fun q => by have := q.1; omega), if_pos ⟨e, hc⟩, if_neg (fun q => by have := q.1; omega), if_pos hc]; omega
      · rw [if_neg (fun q => by have := q.1; omega), if_neg (fun q => by have := q.1; omega), if_pos ⟨e, hc⟩, if_pos hc]; omega
    · rw [if_neg (fun q => hc q.2), if_neg (fun q => hc q.2), if_neg (fun q => hc q.2), if_neg hc]
      omega
theorem at4_acct {l : List F5} (h : LV l) {p : F5} (hn : at4 l p ≠ 0) : acct p.1 p.2.1 p.2.2.1 = true := by
  by_cases q : ∃ x ∈ l, same x p
  · obtain ⟨x, hx, hs⟩ := q
    have := (LV_mem h hx).1
    unfold plok at this
    rw [Bool.and_eq_true] at this
    rw [← hs.1, ← hs.2.1, ← hs.2.2.1]
    exact this.1
  · exact absurd (at4_miss fun x hx hs => q ⟨x, hx, hs⟩) hn

end Go.Proofs.Ytnkdjnfbllkgiaa.led
