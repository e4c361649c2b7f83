/-
  Plain helpers of this seat's proofs: later months as a function. Conditions: none.
-/
import Derived.Test.YtmnmijiikjpdnaaSdu
import Derived.Test.YtmnmijiikjpdnaaRws
namespace Go.Proofs.Ytmnmijiikjpdnaa.mf
open Go.ChangeShapes Go.WideShapes Go.ChangeAt Go.RowKit
/-- The month behind a month. -/
theorem month_next (Y M : Int) (h0 : 0 ≤ Y) (h1 : 1 ≤ M) (h2 : M ≤ 12) (Y' M' : Int) (hY : (M < 12 ∧ Y' = Y ∧ M' = M + 1) ∨ (M = 12 ∧ Y' = Y + 1 ∧ M' = 1)) :
    cal.NY Y' + cal.cum Y' M' = cal.NY Y + cal.cum Y M + cal.mlen Y M := by
  have cs := cal.cum_succ Y M h1 h2
  rcases hY with ⟨_, rfl, rfl⟩ | ⟨rfl, rfl, rfl⟩
  · omega
  · have ns := cal.NY_succ Y h0
    have c13 := cal.cum_13 Y
    have c1 := cal.cum_1 (Y + 1)
    rw [show (12 : Int) + 1 = 13 from rfl] at cs
    omega
/-- The answer, taken apart. -/
theorem res_cases (y m d n : Int) : monthsOn.res y m d n = -1 ∨ (monthsOn.res y m d n = cal.dayN (y + (m - 1 + n) / 12) ((m - 1 + n) % 12 + 1) (monthsOn.dd y m d n) ∧
    cal.okD (y + (m - 1 + n) / 12) ((m - 1 + n) % 12 + 1) (monthsOn.dd y m d n)) := by
  unfold monthsOn.res
  by_cases h : dayOf.ok (y + (m - 1 + n) / 12) ((m - 1 + n) % 12 + 1) (monthsOn.dd y m d n) = true
  · right
    rw [if_pos h]
    simp only [dayOf.ok, decide_eq_true_eq] at h
    exact ⟨if_pos h, h⟩
  · left; rw [if_neg h]
theorem dd_bd (y m d n : Int) : (d ≤ cal.mlen (y + (m - 1 + n) / 12) ((m - 1 + n) % 12 + 1) ∧ monthsOn.dd y m d n = d) ∨ (cal.mlen (y + (m - 1 + n) / 12) ((m - 1 + n) % 12 + 1) < d ∧ monthsOn.dd y m d n = cal.mlen (y + (m - 1 + n) / 12) ((m - 1 + n) % 12 + 1)) := by
  unfold monthsOn.dd
  by_cases h : d ≤ cal.mlen (y + (m - 1 + n) / 12) ((m - 1 + n) % 12 + 1)
  · left; exact ⟨h, if_pos h⟩
  · right; exact ⟨by omega, if_neg h⟩
theorem res_nonneg {y m d n : Int} (h : ¬ monthsOn.res y m d n = -1) : ∃ Y M D, cal.isDate (monthsOn.res y m d n) Y M D ∧ Y = y + (m - 1 + n) / 12 ∧ M = (m - 1 + n) % 12 + 1 ∧ D = monthsOn.dd y m d n := by
  rcases res_cases y m d n with k | ⟨e, k⟩
  · exact absurd k h
  · exact ⟨_, _, _, ⟨k, e.symm⟩, rfl, rfl, rfl⟩
theorem zero_months {t y m d : Int} (hd : cal.isDate t y m d) : monthsOn.res y m d 0 = t := by
  obtain ⟨o, e⟩ := hd
  have o' := o
  obtain ⟨h1, h2, h3, h4, h5, h6, h7⟩ := o
  have eY : y + (m - 1 + 0) / 12 = y := by omega
  have eM : (m - 1 + 0) % 12 + 1 = m := by omega
  have eD : monthsOn.dd y m d 0 = d := by unfold monthsOn.dd; rw [eY, eM, if_pos h6]
  have k : dayOf.ok y m d = true := by simp only [dayOf.ok, decide_eq_true_eq]; exact o'
  have k2 : dayOf.val y m d = cal.dayN y m d := by unfold dayOf.val; exact if_pos ⟨h1, h2, h3, h4, h5, h6, h7⟩
  unfold monthsOn.res
  rw [eD, eY, eM, if_pos k]
  rw [k2, e]
theorem next_facts {y m d n : Int} (o : cal.okD y m d) (n1 : 0 ≤ n) (hx : ¬ monthsOn.res y m d n = -1) (hn : ¬ monthsOn.res y m d (n + 1) = -1) :
    monthsOn.res y m d n < monthsOn.res y m d (n + 1) ∧ monthsOn.res y m d (n + 1) - monthsOn.res y m d n ≤ 31 := by
  obtain ⟨h1, h2, h3, h4, h5, h6, h7⟩ := o
  rcases res_cases y m d n with k | ⟨e, k⟩
  · exact absurd k hx
  rcases res_cases y m d (n + 1) with k' | ⟨e', k'⟩
  · exact absurd k' hn
  have mn := month_next (y + (m - 1 + n) / 12) ((m - 1 + n) % 12 + 1) (by omega) (by omega) (by omega) (y + (m - 1 + (n + 1)) / 12) ((m - 1 + (n + 1)) % 12 + 1) (by omega)
  have b := cal.mlen_bd (y + (m - 1 + n) / 12) ((m - 1 + n) % 12 + 1)
  have b' := cal.mlen_bd (y + (m - 1 + (n + 1)) / 12) ((m - 1 + (n + 1)) % 12 + 1)
  have q := dd_bd y m d n
  have q' := dd_bd y m d (n + 1)
  rw [e, e']
  unfold cal.dayN
  generalize cal.NY (y + (m - 1 + n) / 12) = A at *
  generalize cal.NY (y + (m - 1 + (n + 1)) / 12) = A' at *
  generalize cal.cum (y + (m - 1 + n) / 12) ((m - 1 + n) % 12 + 1) = B at *
  generalize cal.cum (y + (m - 1 + (n + 1)) / 12) ((m - 1 + (n + 1)) % 12 + 1) = B' at *
  generalize cal.mlen (y + (m - 1 + n) / 12) ((m - 1 + n) % 12 + 1) = L at *
  generalize cal.mlen (y + (m - 1 + (n + 1)) / 12) ((m - 1 + (n + 1)) % 12 + 1) = L' at *
  generalize monthsOn.dd y m d n = D at *
  generalize monthsOn.dd y m d (n + 1) = D' at *
  omega
theorem res_lo (y m d n : Int) : -1 ≤ monthsOn.res y m d n ∧ monthsOn.res y m d n ≤ 100000 := by
  rcases res_cases y m d n with k | ⟨e, k⟩
  · omega
  · have := cal.day_nonneg k
    have := k.2.2.2.2.2.2
    omega
theorem date_ex (t : Int) : ∃ p : Int × Int × Int, 0 ≤ t ∧ t ≤ 100000 → cal.isDate t p.1 p.2.1 p.2.2 := by
  by_cases h : 0 ≤ t ∧ t ≤ 100000
  · obtain ⟨y, m, d, hd⟩ := cal.date_exists t h.1 h.2
    exact ⟨(y, m, d), fun _ => hd⟩
  · exact ⟨(0, 0, 0), fun k => absurd k h⟩
/-- The date of a day. -/
noncomputable def dt (t : Int) : Int × Int × Int := Classical.choose (date_ex t)
theorem dt_is {t : Int} (h0 : 0 ≤ t) (h1 : t ≤ 100000) : cal.isDate t (dt t).1 (dt t).2.1 (dt t).2.2 := Classical.choose_spec (date_ex t) ⟨h0, h1⟩
/-- So many months later. -/
noncomputable def mf (t n : Int) : Int := if t < 0 ∨ 100000 < t ∨ n < 0 ∨ 600 < n then -1 else monthsOn.res (dt t).1 (dt t).2.1 (dt t).2.2 n
theorem mf_no {t n : Int} (h : t < 0 ∨ 100000 < t ∨ n < 0 ∨ 600 < n) : mf t n = -1 := if_pos h
theorem mf_yes {t n : Int} (h : ¬ (t < 0 ∨ 100000 < t ∨ n < 0 ∨ 600 < n)) : mf t n = monthsOn.res (dt t).1 (dt t).2.1 (dt t).2.2 n := if_neg h
theorem mf_bd (t n : Int) : -1 ≤ mf t n ∧ mf t n ≤ 100000 := by
  by_cases h : t < 0 ∨ 100000 < t ∨ n < 0 ∨ 600 < n
  · rw [mf_no h]; omega
  · rw [mf_yes h]; exact res_lo _ _ _ _
theorem monS (t : Int) : due.MonS t (mf t) := fun n w c => by
  by_cases h : t < 0 ∨ 100000 < t ∨ n < 0 ∨ 600 < n
  · rw [mf_no h]; exact (monthsOn.spec_no t n w h).mono fun e w' ⟨h1, h2⟩ => ⟨h1, h2 ▸ Below.refl _ _⟩
  · rw [mf_yes h]; exact monthsOn.spec_yes t n _ _ _ w c (dt_is (by omega) (by omega)) (by omega) (by omega)
theorem mf_step {t n : Int} (h0 : 0 ≤ n) (h1 : mf t n ≠ -1) (h2 : mf t (n + 1) ≠ -1) : mf t n < mf t (n + 1) ∧ mf t (n + 1) - mf t n ≤ 31 := by
  by_cases h : t < 0 ∨ 100000 < t ∨ n < 0 ∨ 600 < n
  · exact absurd (mf_no h) h1
  · by_cases k : t < 0 ∨ 100000 < t ∨ n + 1 < 0 ∨ 600 < n + 1
    · exact absurd (mf_no k) h2
    · rw [mf_yes h] at h1 ⊢
      rw [mf_yes k] at h2 ⊢
      exact next_facts (dt_is (by omega) (by omega)).1 h0 h1 h2
theorem mf_zero {t : Int} (h0 : 0 ≤ t) (h1 : t ≤ 100000) : mf t 0 = t := by
  rw [mf_yes (by omega)]; exact zero_months (dt_is h0 h1)
/-- The first of the due days. -/
theorem mf_one {t : Int} (h : mf t 1 ≠ -1) : 0 ≤ t ∧ t < mf t 1 ∧ mf t 1 ≤ t + 31 := by
  by_cases k : t < 0 ∨ 100000 < t
  · exact absurd (mf_no (by omega)) h
  · have z := mf_zero (t := t) (by omega) (by omega)
    have := mf_step (t := t) (n := 0) (Int.le_refl _) (by rw [z]; omega) h
    rw [z] at this
    simp only [Int.zero_add] at this
    omega
def Dz (d n : Int) : Prop := 1 ≤ n ∧ n ≤ 24 ∧ ∀ i : Nat, (i : Int) < n → mf d ((i : Int) + 1) ≠ -1
open Classical in
/-- The due days. -/
noncomputable def dz (d n : Int) : List Int := if Dz d n then due.pre (mf d) n.toNat else []
theorem dz_zs (d n : Int) : due.Zs (mf d) n (dz d n) := by
  unfold dz
  by_cases h : Dz d n
  · rw [if_pos h]; exact .inr ⟨h.1, h.2.1, h.2.2, rfl⟩
  · rw [if_neg h]
    refine .inl ⟨?_, rfl⟩
    by_cases h1 : n < 1
    · exact .inl h1
    · by_cases h2 : 24 < n
      · exact .inr (.inl h2)
      · refine .inr (.inr (Classical.byContradiction fun c => h ⟨by omega, by omega, fun i hi e => c ⟨i, hi, e⟩⟩))
theorem dz_len (d n : Int) : (dz d n).length ≤ 24 := by
  unfold dz
  by_cases h : Dz d n
  · rw [if_pos h, due.pre_len]; have := h.1; have := h.2.1; omega
  · rw [if_neg h]; simp
theorem dz_pos {d n : Int} (h : 0 < (dz d n).length) : Dz d n := by
  unfold dz at h
  by_cases k : Dz d n
  · exact k
  · rw [if_neg k] at h; simp at h
theorem dz_yes {d n : Int} (h : Dz d n) : (dz d n).length = n.toNat ∧ ∀ i, i < n.toNat → (dz d n).getD i 0 = mf d ((i : Int) + 1) := by
  unfold dz
  rw [if_pos h, due.pre_len]
  refine ⟨rfl, fun i hi => ?_⟩
  unfold due.pre
  rw [List.getD_eq_getElem?_getD, List.getElem?_map, List.getElem?_range hi]; rfl
theorem dz_up {d n : Int} (h : Dz d n) (i : Nat) (hi : i + 1 < n.toNat) : mf d ((i : Int) + 1) < mf d (((i + 1 : Nat) : Int) + 1) := by
  have a := h.2.2 i (by omega)
  have b := h.2.2 (i + 1) (by omega)
  have e : ((i + 1 : Nat) : Int) = (i : Int) + 1 := by omega
  rw [e] at b ⊢
  exact (mf_step (by omega) a b).1
/-- A list of numbers, in memory of its own. -/
def GotD (w : World) (zs : List Int) (e : Ending) (w' : World) : Prop := ∃ a cap g, e = .returned (.slice a zs.length cap) ∧ rows.Row w' a cap g zs ∧ (0 < zs.length → w.heap.size ≤ g ∧ g < w'.heap.size) ∧ Below w.heap.size w w'
theorem dueS (d n : Int) (w : World) : Calls Try.prog 73 #[.int .i64 d, .int .i64 n] w (GotD w (dz d n)) := by
  refine (due.spec d n (mf d) w (monS d) (fun n => (mf_bd d n).1) (base.mon w)).mono ?_
  rintro e w' ⟨v, zs, rfl, hz, ho, hb⟩
  obtain rfl := due.zs_fun hz (dz_zs d n)
  obtain ⟨a, cap, g, rfl, hr, hg⟩ := rows.of_owns ho
  exact ⟨a, cap, g, rfl, hr, hg, hb⟩
end Go.Proofs.Ytmnmijiikjpdnaa.mf
