/-
  Proved: for every code, the law of later months holds of the drawn day and number; the law laws.FnMonths returns true and its arguments read as before. Conditions: none beyond the given row (the listed tables are as the program's text lays them).
-/
import Derived.Test.YtlpeadkkkmpccabDoorDraw5
import Derived.Test.YtlpeadkkkmpccabDoorMonthsOn
namespace Go.Proofs.YtlpeadkkkmpccabDoor.fnMonths
open Go.ChangeShapes Go.WideShapes Go.ChangeAt Go.RowKit
open Go.ChangeMaps (open_string shut_string)

theorem walk_big (a : Option Addr) (len cap : Nat) (w : World) (hl : len ≤ maxLen) (hb : 1048576 < len) : Calls Tryd.prog 6 #[.slice a len cap] w fun e w' => e = .returned (.bool true) ∧ Below w.heap.size w w' := by
  go_enter Tryd.func6, Tryd.ntmps6
  go_wp2_with fail
  refine (draw.bigT a len cap w hb hl).mono ?_
  rintro e w' ⟨rfl, rfl⟩
  go_wp2
  go_ret
  exact ⟨rfl, Below.refl _ _⟩

/-- The month behind a month. -/
theorem month_next (Y M : Int) (h0 : 0 ≤ Y) (h1 : 1 ≤ M) (h2 : M ≤ 12) (Y' M' : Int) (hY : (M < 12 ∧ Y' = Y ∧ M' = M + 1) ∨ (M = 12 ∧ Y' = Y + 1 ∧ M' = 1)) :
    cal.NY Y' + cal.cum Y' M' = cal.NY Y + cal.cum Y M + cal.mlen Y M := by
  have cs := cal.cum_succ Y M h1 h2
  rcases hY with ⟨_, rfl, rfl⟩ | ⟨rfl, rfl, rfl⟩
  · omega
  · have ns := cal.NY_succ Y h0
    have c13 := cal.cum_13 Y
    have c1 := cal.cum_1 (Y + 1)
    rw [show (12 : Int) + 1 = 13 from rfl] at cs
    omega

/-- The answer, taken apart. -/
theorem res_cases (y m d n : Int) : monthsOn.res y m d n = -1 ∨ (monthsOn.res y m d n = cal.dayN (y + (m - 1 + n) / 12) ((m - 1 + n) % 12 + 1) (monthsOn.dd y m d n) ∧
    cal.okD (y + (m - 1 + n) / 12) ((m - 1 + n) % 12 + 1) (monthsOn.dd y m d n)) := by
  unfold monthsOn.res
  by_cases h : dayOf.ok (y + (m - 1 + n) / 12) ((m - 1 + n) % 12 + 1) (monthsOn.dd y m d n) = true
  · right
    rw [if_pos h]
    simp only [dayOf.ok, decide_eq_true_eq] at h
    exact ⟨if_pos h, h⟩
  · left; rw [if_neg h]

theorem dd_bd (y m d n : Int) : (d ≤ cal.mlen (y + (m - 1 + n) / 12) ((m - 1 + n) % 12 + 1) ∧ monthsOn.dd y m d n = d) ∨ (cal.mlen (y + (m - 1 + n) / 12) ((m - 1 + n) % 12 + 1) < d ∧ monthsOn.dd y m d n = cal.mlen (y + (m - 1 + n) / 12) ((m - 1 + n) % 12 + 1)) := by
  unfold monthsOn.dd
  by_cases h : d ≤ cal.mlen (y + (m - 1 + n) / 12) ((m - 1 + n) % 12 + 1)
  · left; exact ⟨h, if_pos h⟩
  · right; exact ⟨by omega, if_neg h⟩

theorem res_nonneg {y m d n : Int} (h : ¬ monthsOn.res y m d n = -1) : ∃ Y M D, cal.isDate (monthsOn.res y m d n) Y M D ∧ Y = y + (m - 1 + n) / 12 ∧ M = (m - 1 + n) % 12 + 1 ∧ D = monthsOn.dd y m d n := by
  rcases res_cases y m d n with k | ⟨e, k⟩
  · exact absurd k h
  · exact ⟨_, _, _, ⟨k, e.symm⟩, rfl, rfl, rfl⟩

theorem zero_months {t y m d : Int} (hd : cal.isDate t y m d) : monthsOn.res y m d 0 = t := by
  obtain ⟨o, e⟩ := hd
  have o' := o
  obtain ⟨h1, h2, h3, h4, h5, h6, h7⟩ := o
  have eY : y + (m - 1 + 0) / 12 = y := by omega
  have eM : (m - 1 + 0) % 12 + 1 = m := by omega
  have eD : monthsOn.dd y m d 0 = d := by unfold monthsOn.dd; rw [eY, eM, if_pos h6]
  have k : dayOf.ok y m d = true := by simp only [dayOf.ok, decide_eq_true_eq]; exact o'
  have k2 : dayOf.val y m d = cal.dayN y m d := by unfold dayOf.val; exact if_pos ⟨h1, h2, h3, h4, h5, h6, h7⟩
  unfold monthsOn.res
  rw [eD, eY, eM, if_pos k]
  rw [k2, e]

/-- What the law asks of later months. -/
theorem facts {y m d n Y M D : Int} (o : cal.okD y m d) (_n1 : 0 ≤ n) (hY : Y = y + (m - 1 + n) / 12) (hM : M = (m - 1 + n) % 12 + 1) (hD : D = monthsOn.dd y m d n) :
    12 * Y + M = 12 * y + m + n ∧ (D = d ∨ (D < d ∧ 28 ≤ D)) ∧ (n % 12 = 0 → D = d ∨ (m = 2 ∧ d = 29)) := by
  obtain ⟨h1, h2, h3, h4, h5, h6, h7⟩ := o
  have b := cal.mlen_bd Y M
  have b0 := cal.mlen_bd y m
  refine ⟨by omega, ?_, fun hn => ?_⟩
  · rcases dd_bd y m d n with ⟨a, e⟩ | ⟨a, e⟩
    · left; omega
    · right; rw [← hY, ← hM] at a e; omega
  · rcases dd_bd y m d n with ⟨a, e⟩ | ⟨a, e⟩
    · left; omega
    · right
      have hm : M = m := by omega
      rw [← hY, ← hM, hm] at a
      by_cases h : m = 2
      · subst h
        have l1 := cal.lp_01 y
        have l2 := cal.lp_01 Y
        have e1 : cal.mlen y 2 = 28 + cal.lp y := rfl
        have e2 : cal.mlen Y 2 = 28 + cal.lp Y := rfl
        omega
      · rw [base.mlen_other Y m h] at a
        rw [base.mlen_other y m h] at h6
        omega

theorem next_facts {y m d n : Int} (o : cal.okD y m d) (n1 : 0 ≤ n) (hx : ¬ monthsOn.res y m d n = -1) (hn : ¬ monthsOn.res y m d (n + 1) = -1) :
    monthsOn.res y m d n < monthsOn.res y m d (n + 1) ∧ monthsOn.res y m d (n + 1) - monthsOn.res y m d n ≤ 31 := by
  obtain ⟨h1, h2, h3, h4, h5, h6, h7⟩ := o
  rcases res_cases y m d n with k | ⟨e, k⟩
  · exact absurd k hx
  rcases res_cases y m d (n + 1) with k' | ⟨e', k'⟩
  · exact absurd k' hn
  have mn := month_next (y + (m - 1 + n) / 12) ((m - 1 + n) % 12 + 1) (by omega) (by omega) (by omega) (y + (m - 1 + (n + 1)) / 12) ((m - 1 + (n + 1)) % 12 + 1) (by omega)
  have b := cal.mlen_bd (y + (m - 1 + n) / 12) ((m - 1 + n) % 12 + 1)
  have b' := cal.mlen_bd (y + (m - 1 + (n + 1)) / 12) ((m - 1 + (n + 1)) % 12 + 1)
  have q := dd_bd y m d n
  have q' := dd_bd y m d (n + 1)
  rw [e, e']
  unfold cal.dayN
  generalize cal.NY (y + (m - 1 + n) / 12) = A at *
  generalize cal.NY (y + (m - 1 + (n + 1)) / 12) = A' at *
  generalize cal.cum (y + (m - 1 + n) / 12) ((m - 1 + n) % 12 + 1) = B at *
  generalize cal.cum (y + (m - 1 + (n + 1)) / 12) ((m - 1 + (n + 1)) % 12 + 1) = B' at *
  generalize cal.mlen (y + (m - 1 + n) / 12) ((m - 1 + n) % 12 + 1) = L at *
  generalize cal.mlen (y + (m - 1 + (n + 1)) / 12) ((m - 1 + (n + 1)) % 12 + 1) = L' at *
  generalize monthsOn.dd y m d n = D at *
  generalize monthsOn.dd y m d (n + 1) = D' at *
  omega

theorem res_lo (y m d n : Int) : -1 ≤ monthsOn.res y m d n ∧ monthsOn.res y m d n ≤ 100000 := by
  rcases res_cases y m d n with k | ⟨e, k⟩
  · omega
  · have := cal.day_nonneg k
    have := k.2.2.2.2.2.2
    omega

/-- The number behind the next one. -/
theorem next_call (t n y m d : Int) (hd : cal.isDate t y m d) (n1 : 0 ≤ n) (n2 : n ≤ 600) (hx : ¬ monthsOn.res y m d n = -1) : ∃ r : Int, (r = -1 ∨ (monthsOn.res y m d n < r ∧ r - monthsOn.res y m d n ≤ 31)) ∧
    ∀ w, base.Mon w → Calls Tryd.prog 28 #[.int .i64 t, .int .i64 (n + 1)] w fun e w' => e = .returned (.int .i64 r) ∧ w = w' := by
  by_cases h : n = 600
  · subst h
    exact ⟨-1, .inl rfl, fun w _ => monthsOn.impl_no t (600 + 1) w (by omega)⟩
  · refine ⟨monthsOn.res y m d (n + 1), ?_, fun w c => monthsOn.impl_yes t (n + 1) y m d w c hd (by omega) (by omega)⟩
    by_cases k : monthsOn.res y m d (n + 1) = -1
    · exact .inl k
    · exact .inr (next_facts hd.1 n1 hx k)
end Go.Proofs.YtlpeadkkkmpccabDoor.fnMonths
