/-
  Plain mathematics: the balances and the sums behind a batch. Conditions: none.
-/
import Derived.Test.YtnkdjnfbllkgiaaPsM
import Derived.Test.YtnkdjnfbllkgiaaLed2
namespace Go.Proofs.Ytnkdjnfbllkgiaa.led
theorem at4_bal : ∀ {L : List F5} {p : F5}, SS L → (∀ x ∈ L, In x) → In p → at4 L p = bal L (K p)
  | [], _, _, _, _ => rfl
  | x :: l, p, hs, hi, hp => by
    obtain ⟨h1, h2⟩ := List.pairwise_cons.1 hs
    rw [at4]
    by_cases h : same x p
    · rw [if_pos h, ← h.K, bal_head hs]
    · rw [if_neg h, at4_bal h2 (fun y hy => hi y (by simp [hy])) hp, bal, if_neg (fun q => h (K_inj (hi x (by simp)) hp q)), Int.zero_add]
/-- The sum of the first k posts of one balance. -/
def sm (b : List F5) (p : F5) : Nat → Int
  | 0 => 0
  | k + 1 => sm b p k + (if same (b.getD k z5) p then nn (b.getD k z5) else 0)
theorem sm_bound {b : List F5} (h : BV b) (p : F5) : ∀ k, k ≤ b.length → -(1000000000000 * (k : Int)) ≤ sm b p k ∧ sm b p k ≤ 1000000000000 * (k : Int)
  | 0, _ => by simp [sm]
  | k + 1, hk => by
    have h1 := sm_bound h p k (by omega)
    have h2 := inR_iff.1 (h.2 k (by omega)).2
    rw [sm]
    split <;> omega
theorem sm_bal {b : List F5} (h : BV b) {p : F5} (hp : In p) : sm b p b.length = bal b (K p) := by
  have key : ∀ k, k ≤ b.length → sm b p k = bal (b.take k) (K p) := by
    intro k
    induction k with
    | zero => intro _; simp [sm, bal]
    | succ k ih =>
      intro hk
      rw [sm, ih (by omega), take_succ5 (by omega), bal_append]
      have hi := plok_in (h.2 k (by omega)).1
      simp only [bal, Int.add_zero]
      by_cases hs : same (b.getD k z5) p
      · rw [if_pos hs, if_pos hs.K]
      · rw [if_neg hs, if_neg (fun q => hs (K_inj hi hp q))]
  rw [key _ (Nat.le_refl _), List.take_length]
theorem Pst.at4 {l b r : List F5} (h : Pst l b r 0) {p : F5} (hp : In p) : at4 r p = at4 l p + sm b p b.length := by
  obtain ⟨q1, q2, q3, q4, e⟩ := h.zero
  rw [at4_bal (LV_SS q4) (fun x hx => plok_in (LV_mem q4 hx).1) hp, at4_bal (LV_SS q1) (fun x hx => plok_in (LV_mem q1 hx).1) hp, sm_bal q2 hp, e, puts_bal]
theorem Pst.six {l b r : List F5} (h : Pst l b r 0) : six r = six l := by
  obtain ⟨q1, q2, q3, q4, e⟩ := h.zero
  unfold led.six
  refine List.map_congr_left fun c hc => ?_
  have hc6 : c < 6 := List.mem_range.1 hc
  rw [csk_csum, csk_csum, e, puts_csum _ (fun x hx => ⟨(LV_mem q1 hx).1, (LV_mem q1 hx).2.1⟩) (fun x hx => (BV_mem q2 hx).1), q3 c (by omega) (by omega), Int.add_zero]
theorem Pst.trl {l b r : List F5} (h : Pst l b r 0) : trl r = trl l := by
  obtain ⟨q1, q2, q3, q4, e⟩ := h.zero
  rw [trl_t (lv_t q4), trl_t (lv_t q1), h.six]

end Go.Proofs.Ytnkdjnfbllkgiaa.led
