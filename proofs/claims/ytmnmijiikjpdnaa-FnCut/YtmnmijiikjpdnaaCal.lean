/-
  Plain mathematics of the Gregorian calendar from 1970 on: no program in sight. Conditions: none.
-/
import Derived.WalkKit
namespace Go.Proofs.Ytmnmijiikjpdnaa.cal

/-- A leap year, by truncated remainders. -/
def lpB (y : Int) : Bool := (y.tmod 4 == 0 && y.tmod 100 != 0) || y.tmod 400 == 0
def lp (y : Int) : Int := if lpB y = true then 1 else 0
/-- The length of a month 1 .. 12. -/
def mlen (y m : Int) : Int := if m = 2 then 28 + lp y else if m = 4 ∨ m = 6 ∨ m = 9 ∨ m = 11 then 30 else 31
def lyb (y : Int) : Int := (y - 1) / 4 - (y - 1) / 100 + (y - 1) / 400
/-- The day of January 1. -/
def NY (y : Int) : Int := (y - 1970) * 365 + lyb y - 477
/-- The days of a year ahead of a month 1 .. 13. -/
def cum (y m : Int) : Int :=
  if m ≤ 1 then 0 else if m = 2 then 31 else (if m = 3 then 59 else if m = 4 then 90 else if m = 5 then 120 else if m = 6 then 151 else if m = 7 then 181 else if m = 8 then 212
  else if m = 9 then 243 else if m = 10 then 273 else if m = 11 then 304 else if m = 12 then 334 else 365) + lp y
def dayN (y m d : Int) : Int := NY y + cum y m + d - 1
def okD (y m d : Int) : Prop := 1970 ≤ y ∧ y ≤ 2243 ∧ 1 ≤ m ∧ m ≤ 12 ∧ 1 ≤ d ∧ d ≤ mlen y m ∧ dayN y m d ≤ 100000
def isDate (n y m d : Int) : Prop := okD y m d ∧ dayN y m d = n

theorem lp_01 (y : Int) : 0 ≤ lp y ∧ lp y ≤ 1 := by unfold lp; split <;> omega
theorem lpB_pos (y : Int) (h : 0 ≤ y) : lpB y = true ↔ (y % 4 = 0 ∧ y % 100 ≠ 0) ∨ y % 400 = 0 := by
  unfold lpB
  rw [Int.tmod_eq_emod_of_nonneg h, Int.tmod_eq_emod_of_nonneg h, Int.tmod_eq_emod_of_nonneg h]
  simp
theorem lp_eq (y : Int) (h : 0 ≤ y) : lp y = if (y % 4 = 0 ∧ y % 100 ≠ 0) ∨ y % 400 = 0 then 1 else 0 := by
  unfold lp
  by_cases c : (y % 4 = 0 ∧ y % 100 ≠ 0) ∨ y % 400 = 0
  · rw [if_pos ((lpB_pos y h).2 c), if_pos c]
  · rw [if_neg (fun e => c ((lpB_pos y h).1 e)), if_neg c]
theorem NY_1970 : NY 1970 = 0 := by decide
theorem NY_2244 : NY 2244 = 100076 := by decide
theorem NY_succ (y : Int) (h : 0 ≤ y) : NY (y + 1) = NY y + 365 + lp y := by
  rw [lp_eq y h]
  unfold NY lyb
  split <;> omega
theorem NY_mono (a b : Int) (_h0 : 0 ≤ a) (h : a ≤ b) : NY a + 365 * (b - a) ≤ NY b := by
  unfold NY lyb
  omega
theorem NY_lt (a b : Int) (h0 : 0 ≤ a) (h : a < b) : NY (a + 1) ≤ NY b := by
  have := NY_mono (a + 1) b (by omega) (by omega)
  omega
theorem NY_bd (y : Int) (h : 1969 ≤ y) (h2 : y ≤ 2301) : -365 ≤ NY y ∧ NY y ≤ 120896 := by
  unfold NY lyb; omega
theorem mlen_bd (y m : Int) : 28 ≤ mlen y m ∧ mlen y m ≤ 31 := by
  have := lp_01 y
  unfold mlen; split
  · omega
  · split <;> omega
theorem cum_1 (y : Int) : cum y 1 = 0 := rfl
theorem cum_13 (y : Int) : cum y 13 = 365 + lp y := rfl
theorem cum_succ (y m : Int) (h1 : 1 ≤ m) (h2 : m ≤ 12) : cum y (m + 1) = cum y m + mlen y m := by
  obtain rfl | rfl | rfl | rfl | rfl | rfl | rfl | rfl | rfl | rfl | rfl | rfl : m = 1 ∨ m = 2 ∨ m = 3 ∨ m = 4 ∨ m = 5 ∨ m = 6 ∨ m = 7 ∨ m = 8 ∨ m = 9 ∨ m = 10 ∨ m = 11 ∨ m = 12 := by omega
  all_goals (simp [cum, mlen]; try omega)
theorem cum_mono (y a b : Int) (h0 : 1 ≤ a) (h : a ≤ b) (hb : b ≤ 13) : cum y a + 28 * (b - a) ≤ cum y b := by
  have key : ∀ (k : Nat) (c : Int), c = a + k → c ≤ 13 → cum y a + 28 * (c - a) ≤ cum y c := by
    intro k
    induction k with
    | zero => intro c hc _; have : c = a := by omega
              subst this; omega
    | succ k ih =>
      intro c hc h13
      have i := ih (c - 1) (by omega) (by omega)
      have s := cum_succ y (c - 1) (by omega) (by omega)
      have m := mlen_bd y (c - 1)
      rw [show c - 1 + 1 = c from by omega] at s
      omega
  exact key (b - a).toNat b (by omega) hb
theorem cum_bd (y m : Int) (h1 : 1 ≤ m) (h2 : m ≤ 13) : 0 ≤ cum y m ∧ cum y m ≤ 366 := by
  have a := cum_mono y 1 m (by omega) h1 h2
  have b := cum_mono y m 13 h1 h2 (by omega)
  rw [cum_1] at a
  rw [cum_13] at b
  have := lp_01 y
  omega

/-- A date lies within its month and its year. -/
theorem in_month {y m d : Int} (h : okD y m d) : NY y + cum y m ≤ dayN y m d ∧ dayN y m d < NY y + cum y (m + 1) := by
  obtain ⟨h1, h2, h3, h4, h5, h6, _⟩ := h
  have := cum_succ y m h3 h4
  unfold dayN; omega
theorem in_year {y m d : Int} (h : okD y m d) : NY y ≤ dayN y m d ∧ dayN y m d < NY (y + 1) := by
  have a := in_month h
  obtain ⟨h1, h2, h3, h4, h5, h6, _⟩ := h
  have b := cum_bd y m h3 (by omega)
  have c := cum_mono y (m + 1) 13 (by omega) (by omega) (by omega)
  rw [cum_13] at c
  have s := NY_succ y (by omega)
  omega
theorem day_nonneg {y m d : Int} (h : okD y m d) : 0 ≤ dayN y m d := by
  have a := in_year h
  have m := NY_mono 1970 y (by omega) h.1
  rw [NY_1970] at m
  have := h.1
  omega
/-- One day, one date. -/
theorem date_unique {n y m d y' m' d' : Int} (h : isDate n y m d) (h' : isDate n y' m' d') : y = y' ∧ m = m' ∧ d = d' := by
  obtain ⟨o, e⟩ := h
  obtain ⟨o', e'⟩ := h'
  have a := in_year o
  have a' := in_year o'
  have hy : y = y' := by
    by_cases c : y < y'
    · have := NY_lt y y' (by have := o.1; omega) c; omega
    · by_cases c' : y' < y
      · have := NY_lt y' y (by have := o'.1; omega) c'; omega
      · omega
  subst hy
  have b := in_month o
  have b' := in_month o'
  obtain ⟨_, _, h3, h4, h5, h6, _⟩ := o
  obtain ⟨_, _, h3', h4', h5', h6', _⟩ := o'
  have hm : m = m' := by
    by_cases c : m < m'
    · have := cum_mono y (m + 1) m' (by omega) (by omega) (by omega); omega
    · by_cases c' : m' < m
      · have := cum_mono y (m' + 1) m (by omega) (by omega) (by omega); omega
      · omega
  subst hm
  unfold dayN at e e'
  exact ⟨rfl, rfl, by omega⟩
/-- The next day's date. -/
theorem date_next {n y m d : Int} (h : isDate n y m d) (hn : n < 100000) :
    (d < mlen y m ∧ isDate (n + 1) y m (d + 1)) ∨ (d = mlen y m ∧ m < 12 ∧ isDate (n + 1) y (m + 1) 1) ∨ (d = mlen y m ∧ m = 12 ∧ isDate (n + 1) (y + 1) 1 1) := by
  obtain ⟨o, e⟩ := h
  have iy := in_year o
  obtain ⟨h1, h2, h3, h4, h5, h6, h7⟩ := o
  by_cases c : d < mlen y m
  · left
    refine ⟨c, ⟨h1, h2, h3, h4, by omega, by omega, ?_⟩, ?_⟩ <;> unfold dayN at * <;> omega
  · right
    have c' : d = mlen y m := by omega
    have s := cum_succ y m h3 h4
    by_cases k : m < 12
    · left
      have b := mlen_bd y (m + 1)
      refine ⟨c', k, ⟨h1, h2, by omega, by omega, by omega, by omega, ?_⟩, ?_⟩ <;> unfold dayN at * <;> omega
    · right
      have k' : m = 12 := by omega
      subst k'
      have t := cum_13 y
      rw [show (12 : Int) + 1 = 13 from rfl, t] at s
      have ns := NY_succ y (by omega)
      have b := mlen_bd (y + 1) 1
      have hy : y + 1 ≤ 2243 := by
        by_cases q : y = 2243
        · subst q
          have := NY_2244
          unfold dayN at e
          rw [show (2243 : Int) + 1 = 2244 from rfl] at ns
          omega
        · omega
      have c1 := cum_1 (y + 1)
      refine ⟨c', rfl, ⟨by omega, hy, by omega, by omega, by omega, by omega, ?_⟩, ?_⟩ <;> unfold dayN at * <;> omega
/-- Each day has a date. -/
theorem date_exists (n : Int) (h0 : 0 ≤ n) (h : n ≤ 100000) : ∃ y m d, isDate n y m d := by
  have key : ∀ k : Nat, (k : Int) ≤ 100000 → ∃ y m d, isDate k y m d := by
    intro k
    induction k with
    | zero => intro _; exact ⟨1970, 1, 1, by unfold isDate okD; refine ⟨⟨by omega, by omega, by omega, by omega, by omega, by decide, by decide⟩, by decide⟩⟩
    | succ k ih =>
      intro hk
      obtain ⟨y, m, d, hd⟩ := ih (by omega)
      have := date_next hd (by omega)
      rw [show ((k : Int) + 1) = ((k + 1 : Nat) : Int) from by omega] at this
      rcases this with ⟨_, a⟩ | ⟨_, _, a⟩ | ⟨_, _, a⟩
      · exact ⟨_, _, _, a⟩
      · exact ⟨_, _, _, a⟩
      · exact ⟨_, _, _, a⟩
  obtain ⟨k, rfl⟩ := Int.eq_ofNat_of_zero_le h0
  exact key k h

/-- A day's later months: the same day of the month, or the last one. -/
def monY (y m n : Int) : Int := y + (m - 1 + n) / 12
def monM (m n : Int) : Int := (m - 1 + n) % 12 + 1
def monD (y m d n : Int) : Int := min d (mlen (monY y m n) (monM m n))
end Go.Proofs.Ytmnmijiikjpdnaa.cal
