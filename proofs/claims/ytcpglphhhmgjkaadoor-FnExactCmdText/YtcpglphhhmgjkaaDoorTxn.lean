/-
  Plain helpers of this seat's proofs: the numbers of a valid command are no great ones. Conditions: none.
-/
import Derived.Test.YtcpglphhhmgjkaaDoorTxm
import Derived.Test.YtcpglphhhmgjkaaDoorCmf
namespace Go.Proofs.YtcpglphhhmgjkaaDoor.cm
open Go.ChangeShapes Go.WideShapes Go.ChangeAt Go.RowKit
open gen
open four (F4)
theorem inR_small {n a b : Int} (h : inR n a b = true) (ha : 0 ≤ a) (hb : b ≤ 1000000000000) : Small n := by
  unfold inR at h
  simp only [Bool.and_eq_true, decide_eq_true_eq] at h
  exact ⟨by omega, by omega⟩
theorem dB_p {p : Prop} (h : dB p = true) : p := by
  by_cases q : p
  · exact q
  · rw [dB_f q] at h; cases h
theorem sm_1 {s : Sc} (h : s.k = 1) (hf : fl s = true) (_hi : idB s = true) : ∀ j, j < cnt s.k → Small ((nums s).getD j 0) := by
  rw [fl_1 h] at hf
  have h0 := hf
  rw [show cnt s.k = 1 from by rw [h]; rfl]
  intro j hj
  match j, hj with
  | 0, _ => exact inR_small h0 (by decide) (by decide)
theorem sm_2 {s : Sc} (h : s.k = 2) (hf : fl s = true) (_hi : idB s = true) : ∀ j, j < cnt s.k → Small ((nums s).getD j 0) := by
  rw [fl_2 h] at hf
  simp only [Bool.and_eq_true] at hf
  obtain ⟨⟨⟨⟨h0, h1⟩, h2⟩, h3⟩, h4⟩ := hf
  rw [show cnt s.k = 4 from by rw [h]; rfl]
  intro j hj
  match j, hj with
  | 0, _ => exact inR_small h0 (by decide) (by decide)
  | 1, _ => exact inR_small h1 (by decide) (by decide)
  | 2, _ => exact inR_small h3 (by decide) (by decide)
  | 3, _ => exact inR_small h4 (by decide) (by decide)
theorem sm_3 {s : Sc} (h : s.k = 3) (hf : fl s = true) (hi : idB s = true) : ∀ j, j < cnt s.k → Small ((nums s).getD j 0) := by
  rw [fl_3 h] at hf
  rw [show idB s = inR s.a 1 999 from by unfold idB; rw [h]; rfl] at hi
  have h0 := hf
  rw [show cnt s.k = 2 from by rw [h]; rfl]
  intro j hj
  match j, hj with
  | 0, _ => exact inR_small hi (by decide) (by decide)
  | 1, _ => exact inR_small h0 (by decide) (by decide)
theorem sm_4 {s : Sc} (h : s.k = 4) (hf : fl s = true) (hi : idB s = true) : ∀ j, j < cnt s.k → Small ((nums s).getD j 0) := by
  rw [fl_4 h] at hf
  rw [show idB s = inR s.a 1 999 from by unfold idB; rw [h]; rfl] at hi
  simp only [Bool.and_eq_true] at hf
  obtain ⟨h0, h1⟩ := hf
  rw [show cnt s.k = 3 from by rw [h]; rfl]
  intro j hj
  match j, hj with
  | 0, _ => exact inR_small hi (by decide) (by decide)
  | 1, _ => exact inR_small h0 (by decide) (by decide)
  | 2, _ => exact inR_small h1 (by decide) (by decide)
theorem sm_5 {s : Sc} (h : s.k = 5) (hf : fl s = true) (hi : idB s = true) : ∀ j, j < cnt s.k → Small ((nums s).getD j 0) := by
  rw [fl_5 h] at hf
  rw [show idB s = inR s.a 1 999 from by unfold idB; rw [h]; rfl] at hi
  simp only [Bool.and_eq_true] at hf
  obtain ⟨⟨⟨⟨h0, h1⟩, h2⟩, h3⟩, h4⟩ := hf
  rw [show cnt s.k = 6 from by rw [h]; rfl]
  intro j hj
  match j, hj with
  | 0, _ => exact inR_small hi (by decide) (by decide)
  | 1, _ => exact inR_small h0 (by decide) (by decide)
  | 2, _ => exact inR_small h1 (by decide) (by decide)
  | 3, _ => exact inR_small h2 (by decide) (by decide)
  | 4, _ => exact inR_small h3 (by decide) (by decide)
  | 5, _ => exact inR_small h4 (by decide) (by decide)
theorem sm_6 {s : Sc} (h : s.k = 6) (hf : fl s = true) (hi : idB s = true) : ∀ j, j < cnt s.k → Small ((nums s).getD j 0) := by
  rw [fl_6 h] at hf
  rw [show idB s = inR s.a 1 999 from by unfold idB; rw [h]; rfl] at hi
  simp only [Bool.and_eq_true] at hf
  obtain ⟨h0, h1⟩ := hf
  rw [show cnt s.k = 3 from by rw [h]; rfl]
  intro j hj
  match j, hj with
  | 0, _ => exact inR_small hi (by decide) (by decide)
  | 1, _ => exact inR_small h0 (by decide) (by decide)
  | 2, _ => exact inR_small h1 (by decide) (by decide)
theorem sm_7 {s : Sc} (h : s.k = 7) (hf : fl s = true) (hi : idB s = true) : ∀ j, j < cnt s.k → Small ((nums s).getD j 0) := by
  rw [fl_7 h] at hf
  rw [show idB s = inR s.a 1 999 from by unfold idB; rw [h]; rfl] at hi
  simp only [Bool.and_eq_true] at hf
  obtain ⟨h0, h1⟩ := hf
  rw [show cnt s.k = 3 from by rw [h]; rfl]
  intro j hj
  match j, hj with
  | 0, _ => exact inR_small hi (by decide) (by decide)
  | 1, _ => exact inR_small h0 (by decide) (by decide)
  | 2, _ => exact inR_small h1 (by decide) (by decide)
theorem sm_8 {s : Sc} (h : s.k = 8) (hf : fl s = true) (hi : idB s = true) : ∀ j, j < cnt s.k → Small ((nums s).getD j 0) := by
  rw [fl_8 h] at hf
  rw [show idB s = inR s.a 1 999 from by unfold idB; rw [h]; rfl] at hi
  simp only [Bool.and_eq_true] at hf
  obtain ⟨h0, h1⟩ := hf
  rw [show cnt s.k = 3 from by rw [h]; rfl]
  intro j hj
  match j, hj with
  | 0, _ => exact inR_small hi (by decide) (by decide)
  | 1, _ => exact inR_small h0 (by decide) (by decide)
  | 2, _ => exact inR_small h1 (by decide) (by decide)
theorem sm_9 {s : Sc} (h : s.k = 9) (hf : fl s = true) (hi : idB s = true) : ∀ j, j < cnt s.k → Small ((nums s).getD j 0) := by
  rw [fl_9 h] at hf
  rw [show idB s = inR s.a 1 999 from by unfold idB; rw [h]; rfl] at hi
  have h0 := hf
  rw [show cnt s.k = 2 from by rw [h]; rfl]
  intro j hj
  match j, hj with
  | 0, _ => exact inR_small hi (by decide) (by decide)
  | 1, _ => exact inR_small h0 (by decide) (by decide)
theorem sm_10 {s : Sc} (h : s.k = 10) (hf : fl s = true) (hi : idB s = true) : ∀ j, j < cnt s.k → Small ((nums s).getD j 0) := by
  rw [fl_10 h] at hf
  rw [show idB s = inR s.a 1 999 from by unfold idB; rw [h]; rfl] at hi
  have h0 := hf
  rw [show cnt s.k = 2 from by rw [h]; rfl]
  intro j hj
  match j, hj with
  | 0, _ => exact inR_small hi (by decide) (by decide)
  | 1, _ => exact inR_small h0 (by decide) (by decide)
theorem sm_11 {s : Sc} (h : s.k = 11) (hf : fl s = true) (hi : idB s = true) : ∀ j, j < cnt s.k → Small ((nums s).getD j 0) := by
  rw [fl_11 h] at hf
  rw [show idB s = inR s.a 1 999 from by unfold idB; rw [h]; rfl] at hi
  have h0 := hf
  rw [show cnt s.k = 2 from by rw [h]; rfl]
  intro j hj
  match j, hj with
  | 0, _ => exact inR_small hi (by decide) (by decide)
  | 1, _ => exact inR_small h0 (by decide) (by decide)
theorem sm_12 {s : Sc} (h : s.k = 12) (hf : fl s = true) (hi : idB s = true) : ∀ j, j < cnt s.k → Small ((nums s).getD j 0) := by
  rw [fl_12 h] at hf
  rw [show idB s = inR s.a 1 999 from by unfold idB; rw [h]; rfl] at hi
  simp only [Bool.and_eq_true] at hf
  obtain ⟨h0, h1⟩ := hf
  rw [show cnt s.k = 3 from by rw [h]; rfl]
  intro j hj
  match j, hj with
  | 0, _ => exact inR_small hi (by decide) (by decide)
  | 1, _ => exact inR_small h0 (by decide) (by decide)
  | 2, _ => exact inR_small h1 (by decide) (by decide)
theorem sm_13 {s : Sc} (h : s.k = 13) (_hf : fl s = true) (hi : idB s = true) : ∀ j, j < cnt s.k → Small ((nums s).getD j 0) := by
  rw [show idB s = inR s.a 1 999 from by unfold idB; rw [h]; rfl] at hi
  rw [show cnt s.k = 1 from by rw [h]; rfl]
  intro j hj
  match j, hj with
  | 0, _ => exact inR_small hi (by decide) (by decide)
theorem ok_small {s : Sc} {l : List F4} (h : ok s l = true) : inR s.k 1 13 = true ∧ s.key.size ≤ 12 ∧ l.length ≤ 8 ∧ (∀ j, j < cnt s.k → Small ((nums s).getD j 0)) ∧ ∀ i, i < l.length → Small (l.getD i four.zz).1 ∧ Small (l.getD i four.zz).2.1 := by
  unfold ok at h
  simp only [Bool.and_eq_true] at h
  obtain ⟨⟨⟨⟨⟨hk, hq⟩, hf⟩, hi⟩, -⟩, ht⟩ := h
  have T := dB_p ht
  unfold Its at T
  refine ⟨hk, (dB_p hq).2.1, ?_, ?_, ?_⟩
  · by_cases q : s.k = 5
    · rw [if_pos q] at T; exact T.2.1
    · rw [if_neg q] at T; omega
  · have q : s.k = 1 ∨ s.k = 2 ∨ s.k = 3 ∨ s.k = 4 ∨ s.k = 5 ∨ s.k = 6 ∨ s.k = 7 ∨ s.k = 8 ∨ s.k = 9 ∨ s.k = 10 ∨ s.k = 11 ∨ s.k = 12 ∨ s.k = 13 := by
      unfold kind inR at hk
      simp at hk
      omega
    rcases q with h | h | h | h | h | h | h | h | h | h | h | h | h
    · exact sm_1 h hf hi
    · exact sm_2 h hf hi
    · exact sm_3 h hf hi
    · exact sm_4 h hf hi
    · exact sm_5 h hf hi
    · exact sm_6 h hf hi
    · exact sm_7 h hf hi
    · exact sm_8 h hf hi
    · exact sm_9 h hf hi
    · exact sm_10 h hf hi
    · exact sm_11 h hf hi
    · exact sm_12 h hf hi
    · exact sm_13 h hf hi
  · intro i hl
    by_cases q : s.k = 5
    · rw [if_pos q] at T
      have v := (T.2.2 i hl).1
      unfold iok at v
      simp only [Bool.and_eq_true] at v
      exact ⟨inR_small v.1.1.1 (by decide) (by decide), inR_small v.1.1.2 (by decide) (by decide)⟩
    · rw [if_neg q] at T; omega
end Go.Proofs.YtcpglphhhmgjkaaDoor.cm
