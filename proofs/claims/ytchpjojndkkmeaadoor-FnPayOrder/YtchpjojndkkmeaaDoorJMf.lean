/-
  Plain helpers of this seat's proofs: later months as a function. Conditions: none.
-/
import Derived.Test.YtchpjojndkkmeaaDoorRows
import Derived.Test.YtchpjojndkkmeaaDoorLift
import Derived.Test.YtchpjojndkkmeaaDoorRws
import Derived.WalkKit
namespace Go.Proofs.YtchpjojndkkmeaaDoor.cal

/-- A leap year, by truncated remainders. -/
def lpB (y : Int) : Bool := (y.tmod 4 == 0 && y.tmod 100 != 0) || y.tmod 400 == 0
def lp (y : Int) : Int := if lpB y = true then 1 else 0
/-- The length of a month 1 .. 12. -/
def mlen (y m : Int) : Int := if m = 2 then 28 + lp y else if m = 4 ∨ m = 6 ∨ m = 9 ∨ m = 11 then 30 else 31
def lyb (y : Int) : Int := (y - 1) / 4 - (y - 1) / 100 + (y - 1) / 400
/-- The day of January 1. -/
def NY (y : Int) : Int := (y - 1970) * 365 + lyb y - 477
/-- The days of a year ahead of a month 1 .. 13. -/
def cum (y m : Int) : Int :=
  if m ≤ 1 then 0 else if m = 2 then 31 else (if m = 3 then 59 else if m = 4 then 90 else if m = 5 then 120 else if m = 6 then 151 else if m = 7 then 181 else if m = 8 then 212
  else if m = 9 then 243 else if m = 10 then 273 else if m = 11 then 304 else if m = 12 then 334 else 365) + lp y
def dayN (y m d : Int) : Int := NY y + cum y m + d - 1
def okD (y m d : Int) : Prop := 1970 ≤ y ∧ y ≤ 2243 ∧ 1 ≤ m ∧ m ≤ 12 ∧ 1 ≤ d ∧ d ≤ mlen y m ∧ dayN y m d ≤ 100000
def isDate (n y m d : Int) : Prop := okD y m d ∧ dayN y m d = n

theorem lp_01 (y : Int) : 0 ≤ lp y ∧ lp y ≤ 1 := by unfold lp; split <;> omega
theorem lpB_pos (y : Int) (h : 0 ≤ y) : lpB y = true ↔ (y % 4 = 0 ∧ y % 100 ≠ 0) ∨ y % 400 = 0 := by
  unfold lpB
  rw [Int.tmod_eq_emod_of_nonneg h, Int.tmod_eq_emod_of_nonneg h, Int.tmod_eq_emod_of_nonneg h]
  simp
theorem lp_eq (y : Int) (h : 0 ≤ y) : lp y = if (y % 4 = 0 ∧ y % 100 ≠ 0) ∨ y % 400 = 0 then 1 else 0 := by
  unfold lp
  by_cases c : (y % 4 = 0 ∧ y % 100 ≠ 0) ∨ y % 400 = 0
  · rw [if_pos ((lpB_pos y h).2 c), if_pos c]
  · rw [if_neg (fun e => c ((lpB_pos y h).1 e)), if_neg c]
theorem NY_1970 : NY 1970 = 0 := by decide
theorem NY_2244 : NY 2244 = 100076 := by decide
theorem NY_succ (y : Int) (h : 0 ≤ y) : NY (y + 1) = NY y + 365 + lp y := by
  rw [lp_eq y h]
  unfold NY lyb
  split <;> omega
theorem NY_mono (a b : Int) (_h0 : 0 ≤ a) (h : a ≤ b) : NY a + 365 * (b - a) ≤ NY b := by
  unfold NY lyb
  omega
theorem NY_lt (a b : Int) (h0 : 0 ≤ a) (h : a < b) : NY (a + 1) ≤ NY b := by
  have := NY_mono (a + 1) b (by omega) (by omega)
  omega
theorem NY_bd (y : Int) (h : 1969 ≤ y) (h2 : y ≤ 2301) : -365 ≤ NY y ∧ NY y ≤ 120896 := by
  unfold NY lyb; omega
theorem mlen_bd (y m : Int) : 28 ≤ mlen y m ∧ mlen y m ≤ 31 := by
  have := lp_01 y
  unfold mlen; split
  · omega
  · split <;> omega
theorem cum_1 (y : Int) : cum y 1 = 0 := rfl
theorem cum_13 (y : Int) : cum y 13 = 365 + lp y := rfl
theorem cum_succ (y m : Int) (h1 : 1 ≤ m) (h2 : m ≤ 12) : cum y (m + 1) = cum y m + mlen y m := by
  obtain rfl | rfl | rfl | rfl | rfl | rfl | rfl | rfl | rfl | rfl | rfl | rfl : m = 1 ∨ m = 2 ∨ m = 3 ∨ m = 4 ∨ m = 5 ∨ m = 6 ∨ m = 7 ∨ m = 8 ∨ m = 9 ∨ m = 10 ∨ m = 11 ∨ m = 12 := by omega
  all_goals (simp [cum, mlen]; try omega)
theorem cum_mono (y a b : Int) (h0 : 1 ≤ a) (h : a ≤ b) (hb : b ≤ 13) : cum y a + 28 * (b - a) ≤ cum y b := by
  have key : ∀ (k : Nat) (c : Int), c = a + k → c ≤ 13 → cum y a + 28 * (c - a) ≤ cum y c := by
    intro k
    induction k with
    | zero => intro c hc _; have : c = a := by omega
              subst this; omega
    | succ k ih =>
      intro c hc h13
      have i := ih (c - 1) (by omega) (by omega)
      have s := cum_succ y (c - 1) (by omega) (by omega)
      have m := mlen_bd y (c - 1)
      rw [show c - 1 + 1 = c from by omega] at s
      omega
  exact key (b - a).toNat b (by omega) hb
theorem cum_bd (y m : Int) (h1 : 1 ≤ m) (h2 : m ≤ 13) : 0 ≤ cum y m ∧ cum y m ≤ 366 := by
  have a := cum_mono y 1 m (by omega) h1 h2
  have b := cum_mono y m 13 h1 h2 (by omega)
  rw [cum_1] at a
  rw [cum_13] at b
  have := lp_01 y
  omega

/-- A date lies within its month and its year. -/
theorem in_month {y m d : Int} (h : okD y m d) : NY y + cum y m ≤ dayN y m d ∧ dayN y m d < NY y + cum y (m + 1) := by
  obtain ⟨h1, h2, h3, h4, h5, h6, _⟩ := h
  have := cum_succ y m h3 h4
  unfold dayN; omega
theorem in_year {y m d : Int} (h : okD y m d) : NY y ≤ dayN y m d ∧ dayN y m d < NY (y + 1) := by
  have a := in_month h
  obtain ⟨h1, h2, h3, h4, h5, h6, _⟩ := h
  have b := cum_bd y m h3 (by omega)
  have c := cum_mono y (m + 1) 13 (by omega) (by omega) (by omega)
  rw [cum_13] at c
  have s := NY_succ y (by omega)
  omega
theorem day_nonneg {y m d : Int} (h : okD y m d) : 0 ≤ dayN y m d := by
  have a := in_year h
  have m := NY_mono 1970 y (by omega) h.1
  rw [NY_1970] at m
  have := h.1
  omega
/-- One day, one date. -/
theorem date_unique {n y m d y' m' d' : Int} (h : isDate n y m d) (h' : isDate n y' m' d') : y = y' ∧ m = m' ∧ d = d' := by
  obtain ⟨o, e⟩ := h
  obtain ⟨o', e'⟩ := h'
  have a := in_year o
  have a' := in_year o'
  have hy : y = y' := by
    by_cases c : y < y'
    · have := NY_lt y y' (by have := o.1; omega) c; omega
    · by_cases c' : y' < y
      · have := NY_lt y' y (by have := o'.1; omega) c'; omega
      · omega
  subst hy
  have b := in_month o
  have b' := in_month o'
  obtain ⟨_, _, h3, h4, h5, h6, _⟩ := o
  obtain ⟨_, _, h3', h4', h5', h6', _⟩ := o'
  have hm : m = m' := by
    by_cases c : m < m'
    · have := cum_mono y (m + 1) m' (by omega) (by omega) (by omega); omega
    · by_cases c' : m' < m
      · have := cum_mono y (m' + 1) m (by omega) (by omega) (by omega); omega
      · omega
  subst hm
  unfold dayN at e e'
  exact ⟨rfl, rfl, by omega⟩
/-- The next day's date. -/
theorem date_next {n y m d : Int} (h : isDate n y m d) (hn : n < 100000) :
    (d < mlen y m ∧ isDate (n + 1) y m (d + 1)) ∨ (d = mlen y m ∧ m < 12 ∧ isDate (n + 1) y (m + 1) 1) ∨ (d = mlen y m ∧ m = 12 ∧ isDate (n + 1) (y + 1) 1 1) := by
  obtain ⟨o, e⟩ := h
  have iy := in_year o
  obtain ⟨h1, h2, h3, h4, h5, h6, h7⟩ := o
  by_cases c : d < mlen y m
  · left
    refine ⟨c, ⟨h1, h2, h3, h4, by omega, by omega, ?_⟩, ?_⟩ <;> unfold dayN at * <;> omega
  · right
    have c' : d = mlen y m := by omega
    have s := cum_succ y m h3 h4
    by_cases k : m < 12
    · left
      have b := mlen_bd y (m + 1)
      refine ⟨c', k, ⟨h1, h2, by omega, by omega, by omega, by omega, ?_⟩, ?_⟩ <;> unfold dayN at * <;> omega
    · right
      have k' : m = 12 := by omega
      subst k'
      have t := cum_13 y
      rw [show (12 : Int) + 1 = 13 from rfl, t] at s
      have ns := NY_succ y (by omega)
      have b := mlen_bd (y + 1) 1
      have hy : y + 1 ≤ 2243 := by
        by_cases q : y = 2243
        · subst q
          have := NY_2244
          unfold dayN at e
          rw [show (2243 : Int) + 1 = 2244 from rfl] at ns
          omega
        · omega
      have c1 := cum_1 (y + 1)
      refine ⟨c', rfl, ⟨by omega, hy, by omega, by omega, by omega, by omega, ?_⟩, ?_⟩ <;> unfold dayN at * <;> omega
/-- Each day has a date. -/
theorem date_exists (n : Int) (h0 : 0 ≤ n) (h : n ≤ 100000) : ∃ y m d, isDate n y m d := by
  have key : ∀ k : Nat, (k : Int) ≤ 100000 → ∃ y m d, isDate k y m d := by
    intro k
    induction k with
    | zero => intro _; exact ⟨1970, 1, 1, by unfold isDate okD; refine ⟨⟨by omega, by omega, by omega, by omega, by omega, by decide, by decide⟩, by decide⟩⟩
    | succ k ih =>
      intro hk
      obtain ⟨y, m, d, hd⟩ := ih (by omega)
      have := date_next hd (by omega)
      rw [show ((k : Int) + 1) = ((k + 1 : Nat) : Int) from by omega] at this
      rcases this with ⟨_, a⟩ | ⟨_, _, a⟩ | ⟨_, _, a⟩
      · exact ⟨_, _, _, a⟩
      · exact ⟨_, _, _, a⟩
      · exact ⟨_, _, _, a⟩
  obtain ⟨k, rfl⟩ := Int.eq_ofNat_of_zero_le h0
  exact key k h

/-- A day's later months: the same day of the month, or the last one. -/
def monY (y m n : Int) : Int := y + (m - 1 + n) / 12
def monM (m n : Int) : Int := (m - 1 + n) % 12 + 1
def monD (y m d n : Int) : Int := min d (mlen (monY y m n) (monM m n))
end Go.Proofs.YtchpjojndkkmeaaDoor.cal

namespace Go.Proofs.YtchpjojndkkmeaaDoor.base
open Go.ChangeShapes Go.WideShapes Go.ChangeAt Go.RowKit
/-- Nothing is asked of the memory. -/
structure Mon (_w : World) : Prop where
  lt : True
theorem Mon.below {B : Nat} {w w' : World} (_c : Mon w) (_hb : Below B w w') (_hB : True) : Mon w' := ⟨trivial⟩
theorem mon (w : World) : Mon w := ⟨trivial⟩
theorem tm {a k n : Int} (hk : k ∣ n) (h : ¬ a.tmod k = 0) : ¬ a.tmod n = 0 := fun e =>
  h (Int.tmod_eq_zero_of_dvd (Int.dvd_trans hk (Int.dvd_of_tmod_eq_zero e)))
theorem ret_bool {a b : Bool} (h : a = b) : Ending.returned (.bool a) = .returned (.bool b) := by rw [h]
theorem ret_int {a b : Int} (h : a = b) : Ending.returned (.int .i64 a) = .returned (.int .i64 b) := by rw [h]
theorem leap_cases (y : Int) : (∃ _h : cal.lpB y = true, (y.tmod 4 = 0 ∧ y.tmod 100 = 0 ∧ y.tmod 400 = 0) ∨ (y.tmod 4 = 0 ∧ ¬ y.tmod 100 = 0 ∧ ¬ y.tmod 400 = 0)) ∨
    (∃ _h : cal.lpB y = false, (y.tmod 4 = 0 ∧ y.tmod 100 = 0 ∧ ¬ y.tmod 400 = 0) ∨ (¬ y.tmod 4 = 0 ∧ ¬ y.tmod 100 = 0 ∧ ¬ y.tmod 400 = 0)) := by
  by_cases h4 : y.tmod 4 = 0
  · by_cases h100 : y.tmod 100 = 0
    · by_cases h400 : y.tmod 400 = 0
      · left; exact ⟨by simp [cal.lpB, h4, h100, h400], .inl ⟨h4, h100, h400⟩⟩
      · right; exact ⟨by simp [cal.lpB, h4, h100, h400], .inl ⟨h4, h100, h400⟩⟩
    · have h400 : ¬ y.tmod 400 = 0 := tm (by omega) h100
      left; exact ⟨by simp [cal.lpB, h4, h100, h400], .inr ⟨h4, h100, h400⟩⟩
  · have h100 : ¬ y.tmod 100 = 0 := tm (by omega) h4
    have h400 : ¬ y.tmod 400 = 0 := tm (by omega) h4
    right; exact ⟨by simp [cal.lpB, h4, h100, h400], .inr ⟨h4, h100, h400⟩⟩
theorem leap_spec (y : Int) (w : World) : Calls Tryd.prog 71 #[.int .i64 y] w fun e w' => e = .returned (.bool (cal.lpB y)) ∧ w = w' := by
  rcases leap_cases y with ⟨hr, ⟨h4, h100, h400⟩ | ⟨h4, h100, h400⟩⟩ | ⟨hr, ⟨h4, h100, h400⟩ | ⟨h4, h100, h400⟩⟩
  · have b4 : (y.tmod 4 == 0) = true := by simp [h4]
    have b100 : (y.tmod 100 == 0) = true := by simp [h100]
    have c100 : (y.tmod 100 != 0) = false := by simp [h100]
    have b400 : (y.tmod 400 == 0) = true := by simp [h400]
    have HR := Lib.hid hr
    clear h4 h100 h400 hr
    go_enter Tryd.func71, Tryd.ntmps71
    go_wp2
    go_ret
    exact ⟨ret_bool HR.out.symm, rfl⟩
  · have b4 : (y.tmod 4 == 0) = true := by simp [h4]
    have b100 : (y.tmod 100 == 0) = false := by simp [h100]
    have c100 : (y.tmod 100 != 0) = true := by simp [h100]
    have b400 : (y.tmod 400 == 0) = false := by simp [h400]
    have HR := Lib.hid hr
    clear h4 h100 h400 hr
    go_enter Tryd.func71, Tryd.ntmps71
    go_wp2
    go_ret
    exact ⟨ret_bool HR.out.symm, rfl⟩
  · have b4 : (y.tmod 4 == 0) = true := by simp [h4]
    have b100 : (y.tmod 100 == 0) = true := by simp [h100]
    have c100 : (y.tmod 100 != 0) = false := by simp [h100]
    have b400 : (y.tmod 400 == 0) = false := by simp [h400]
    have HR := Lib.hid hr
    clear h4 h100 h400 hr
    go_enter Tryd.func71, Tryd.ntmps71
    go_wp2
    go_ret
    exact ⟨ret_bool HR.out.symm, rfl⟩
  · have b4 : (y.tmod 4 == 0) = false := by simp [h4]
    have b100 : (y.tmod 100 == 0) = false := by simp [h100]
    have c100 : (y.tmod 100 != 0) = true := by simp [h100]
    have b400 : (y.tmod 400 == 0) = false := by simp [h400]
    have HR := Lib.hid hr
    clear h4 h100 h400 hr
    go_enter Tryd.func71, Tryd.ntmps71
    go_wp2
    go_ret
    exact ⟨ret_bool HR.out.symm, rfl⟩
theorem mlen_other (y m : Int) (h : m ≠ 2) : cal.mlen y m = if m = 4 ∨ m = 6 ∨ m = 9 ∨ m = 11 then 30 else 31 := by unfold cal.mlen; rw [if_neg h]
theorem mlen_leap (y : Int) (h : cal.lpB y = true) : cal.mlen y 2 = 29 := by unfold cal.mlen cal.lp; rw [if_pos rfl, if_pos h]; rfl
theorem mlen_no (y : Int) (h : cal.lpB y = false) : cal.mlen y 2 = 28 := by unfold cal.mlen cal.lp; rw [if_pos rfl, if_neg (by simp [h])]; rfl
theorem mlen_spec_2t (y : Int) (w : World) (_c : Mon w) (hl : cal.lpB y = true) : Calls Tryd.prog 55 #[.int .i64 y, .int .i64 2] w fun e w' => e = .returned (.int .i64 (cal.mlen y 2)) ∧ Below w.heap.size w w' := by
  rw [mlen_leap y hl]
  have hc : Calls Tryd.prog 71 #[.int .i64 y] w fun e w' => e = .returned (.bool true) ∧ w = w' := by have := leap_spec y w; rw [hl] at this; exact this
  have HC := Lib.hid hc
  clear hl hc
  go_enter Tryd.func55, Tryd.ntmps55
  go_wp2_with fail
  refine HC.out.mono ?_
  rintro e w' ⟨rfl, rfl⟩
  go_wp2
  go_ret
  exact ⟨rfl, Below.refl _ _⟩
theorem mlen_spec_2f (y : Int) (w : World) (_c : Mon w) (hl : cal.lpB y = false) : Calls Tryd.prog 55 #[.int .i64 y, .int .i64 2] w fun e w' => e = .returned (.int .i64 (cal.mlen y 2)) ∧ Below w.heap.size w w' := by
  rw [mlen_no y hl]
  have hc : Calls Tryd.prog 71 #[.int .i64 y] w fun e w' => e = .returned (.bool false) ∧ w = w' := by have := leap_spec y w; rw [hl] at this; exact this
  have HC := Lib.hid hc
  clear hl hc
  go_enter Tryd.func55, Tryd.ntmps55
  go_wp2_with fail
  refine HC.out.mono ?_
  rintro e w' ⟨rfl, rfl⟩
  go_wp2
  go_ret
  exact ⟨rfl, (Below.refl _ _).alloc (Nat.le_refl _) _⟩
set_option maxHeartbeats 1000000 in
theorem mlen_spec (y m : Int) (w : World) (c : Mon w) (h1 : 1 ≤ m) (h2 : m ≤ 12) : Calls Tryd.prog 55 #[.int .i64 y, .int .i64 m] w fun e w' => e = .returned (.int .i64 (cal.mlen y m)) ∧ Below w.heap.size w w' := by
  by_cases e2 : m = 2
  · subst e2
    cases hl : cal.lpB y with
    | true => exact mlen_spec_2t y w c hl
    | false => exact mlen_spec_2f y w c hl
  · rw [mlen_other y m e2]
    obtain rfl | rfl | rfl | rfl | rfl | rfl | rfl | rfl | rfl | rfl | rfl : m = 1 ∨ m = 3 ∨ m = 4 ∨ m = 5 ∨ m = 6 ∨ m = 7 ∨ m = 8 ∨ m = 9 ∨ m = 10 ∨ m = 11 ∨ m = 12 := by omega
    all_goals
      clear e2 h1 h2
      go_enter Tryd.func55, Tryd.ntmps55
      go_wp2
      go_ret
      exact ⟨rfl, (Below.refl _ _).alloc (Nat.le_refl _) _⟩
theorem ylen_spec (y : Int) (w : World) : Calls Tryd.prog 70 #[.int .i64 y] w fun e w' => e = .returned (.int .i64 (365 + cal.lp y)) ∧ w = w' := by
  cases hl : cal.lpB y with
  | true =>
    have hp : cal.lp y = 1 := by unfold cal.lp; rw [if_pos hl]
    rw [hp]
    have hc := leap_spec y w
    rw [hl] at hc
    have HC := Lib.hid hc
    clear hl hc hp
    go_enter Tryd.func70, Tryd.ntmps70
    go_wp2_with fail
    refine HC.out.mono ?_
    rintro e w' ⟨rfl, rfl⟩
    go_wp2
    go_ret
    exact ⟨rfl, rfl⟩
  | false =>
    have hp : cal.lp y = 0 := by unfold cal.lp; rw [if_neg (by simp [hl])]
    rw [hp]
    have hc := leap_spec y w
    rw [hl] at hc
    have HC := Lib.hid hc
    clear hl hc hp
    go_enter Tryd.func70, Tryd.ntmps70
    go_wp2_with fail
    refine HC.out.mono ?_
    rintro e w' ⟨rfl, rfl⟩
    go_wp2
    go_ret
    exact ⟨rfl, rfl⟩
end Go.Proofs.YtchpjojndkkmeaaDoor.base
namespace Go.Proofs.YtchpjojndkkmeaaDoor.dayOf
open Go.ChangeShapes Go.WideShapes Go.ChangeAt Go.RowKit
theorem ret_ib {a b : Int} {t u : Bool} (h : a = b) (h' : t = u) : Ending.returned (.tuple #[.int .i64 a, .bool t]) = .returned (.tuple #[.int .i64 b, .bool u]) := by rw [h, h']
def dayR (y m d : Int) : Int := if cal.dayN y m d ≤ 100000 then cal.dayN y m d else 0
def dayB (y m d : Int) : Bool := decide (cal.dayN y m d ≤ 100000)
/-- What DayOf answers, at every argument. -/
def val (y m d : Int) : Int := if 1970 ≤ y ∧ y ≤ 2243 ∧ 1 ≤ m ∧ m ≤ 12 ∧ 1 ≤ d ∧ d ≤ cal.mlen y m ∧ cal.dayN y m d ≤ 100000 then cal.dayN y m d else 0
def ok (y m d : Int) : Bool := decide (1970 ≤ y ∧ y ≤ 2243 ∧ 1 ≤ m ∧ m ≤ 12 ∧ 1 ≤ d ∧ d ≤ cal.mlen y m ∧ cal.dayN y m d ≤ 100000)
theorem no_of {y m d : Int} (h : ¬ (1970 ≤ y ∧ y ≤ 2243 ∧ 1 ≤ m ∧ m ≤ 12 ∧ 1 ≤ d ∧ d ≤ cal.mlen y m ∧ cal.dayN y m d ≤ 100000)) : val y m d = 0 ∧ ok y m d = false := ⟨if_neg h, by unfold ok; simp [h]⟩
theorem in_of {y m d : Int} (h1 : 1970 ≤ y) (h2 : y ≤ 2243) (h3 : 1 ≤ m) (h4 : m ≤ 12) (h5 : 1 ≤ d) (h6 : d ≤ cal.mlen y m) : val y m d = dayR y m d ∧ ok y m d = dayB y m d := by
  unfold val ok dayR dayB
  by_cases q : cal.dayN y m d ≤ 100000
  · rw [if_pos ⟨h1, h2, h3, h4, h5, h6, q⟩, if_pos q]; simp [h1, h2, h3, h4, h5, h6, q]
  · rw [if_neg (fun e => q e.2.2.2.2.2.2), if_neg q]; simp [q]
theorem inT (n lo hi : Int) (w : World) (h1 : lo ≤ n) (h2 : n ≤ hi) : Calls Tryd.prog 22 #[.int .i64 n, .int .i64 lo, .int .i64 hi] w fun e w' => e = .returned (.bool true) ∧ w = w' := by
  have t1 : decide (lo ≤ n) = true := by simp; omega
  have t2 : decide (n ≤ hi) = true := by simp; omega
  go_enter Tryd.func22, Tryd.ntmps22
  go_wp2
  go_ret
  exact ⟨rfl, rfl⟩
theorem inF (n lo hi : Int) (w : World) (h : n < lo ∨ hi < n) : Calls Tryd.prog 22 #[.int .i64 n, .int .i64 lo, .int .i64 hi] w fun e w' => e = .returned (.bool false) ∧ w = w' := by
  by_cases h1 : n < lo
  · have t1 : decide (lo ≤ n) = false := by simp; omega
    clear h
    go_enter Tryd.func22, Tryd.ntmps22
    go_wp2
    go_ret
    exact ⟨rfl, rfl⟩
  · have t1 : decide (lo ≤ n) = true := by simp; omega
    have t2 : decide (n ≤ hi) = false := by simp; omega
    clear h
    go_enter Tryd.func22, Tryd.ntmps22
    go_wp2
    go_ret
    exact ⟨rfl, rfl⟩
theorem spec_form (y m d : Int) (w : World) (h : y < 1970 ∨ 2300 < y ∨ m < 1 ∨ 12 < m) : Calls Tryd.prog 54 #[.int .i64 y, .int .i64 m, .int .i64 d] w fun e w' => e = .returned (.tuple #[.int .i64 0, .bool false]) ∧ w = w' := by
  by_cases h1 : y < 1970
  · clear h
    have t1 : decide (1970 ≤ y) = false := by simp; omega
    go_enter Tryd.func54, Tryd.ntmps54
    go_wp2
    go_ret2
    exact ⟨rfl, rfl⟩
  · have t1 : decide (1970 ≤ y) = true := by simp; omega
    by_cases h2 : 2300 < y
    · clear h
      have t2 : decide (y ≤ 2300) = false := by simp; omega
      go_enter Tryd.func54, Tryd.ntmps54
      go_wp2
      go_ret2
      exact ⟨rfl, rfl⟩
    · have t2 : decide (y ≤ 2300) = true := by simp; omega
      by_cases h3 : m < 1
      · clear h
        have t3 : decide (1 ≤ m) = false := by simp; omega
        go_enter Tryd.func54, Tryd.ntmps54
        go_wp2
        go_ret2
        exact ⟨rfl, rfl⟩
      · have h4 : 12 < m := by omega
        have t3 : decide (1 ≤ m) = true := by simp; omega
        have t4 : decide (m ≤ 12) = false := by simp; omega
        clear h
        go_enter Tryd.func54, Tryd.ntmps54
        go_wp2
        go_ret2
        exact ⟨rfl, rfl⟩
theorem spec_d (y m d : Int) (w : World) (c : base.Mon w) (h1 : 1970 ≤ y) (h2 : y ≤ 2300) (h3 : 1 ≤ m) (h4 : m ≤ 12) (h : d < 1 ∨ cal.mlen y m < d) : Calls Tryd.prog 54 #[.int .i64 y, .int .i64 m, .int .i64 d] w fun e w' => e = .returned (.tuple #[.int .i64 0, .bool false]) ∧ Below w.heap.size w w' := by
  have C := Lib.hid c
  clear c
  have t1 : decide (1970 ≤ y) = true := by simp; omega
  have t2 : decide (y ≤ 2300) = true := by simp; omega
  have t3 : decide (1 ≤ m) = true := by simp; omega
  have t4 : decide (m ≤ 12) = true := by simp; omega
  by_cases h5 : d < 1
  · have t5 : decide (1 ≤ d) = false := by simp; omega
    clear h
    go_enter Tryd.func54, Tryd.ntmps54
    go_wp2_with fail
    refine (inT y 1970 2300 w (by omega) (by omega)).mono ?_
    rintro e w' ⟨rfl, rfl⟩
    go_wp2_with fail
    refine (inT m 1 12 w (by omega) (by omega)).mono ?_
    rintro e w' ⟨rfl, rfl⟩
    go_wp2_with fail
    refine (base.mlen_spec y m w C.out h3 h4).mono ?_
    rintro e w1 ⟨rfl, hb⟩
    go_wp2_with fail
    refine (inF d 1 (cal.mlen y m) w1 (by omega)).mono ?_
    rintro e w' ⟨rfl, rfl⟩
    go_wp2
    go_ret2
    exact ⟨rfl, hb⟩
  · have t5 : decide (1 ≤ d) = true := by simp; omega
    have h6 : cal.mlen y m < d := by omega
    have t6 : decide (d ≤ cal.mlen y m) = false := by simp; omega
    clear h
    go_enter Tryd.func54, Tryd.ntmps54
    go_wp2_with fail
    refine (inT y 1970 2300 w (by omega) (by omega)).mono ?_
    rintro e w' ⟨rfl, rfl⟩
    go_wp2_with fail
    refine (inT m 1 12 w (by omega) (by omega)).mono ?_
    rintro e w' ⟨rfl, rfl⟩
    go_wp2_with fail
    refine (base.mlen_spec y m w C.out h3 h4).mono ?_
    rintro e w1 ⟨rfl, hb⟩
    go_wp2_with fail
    refine (inF d 1 (cal.mlen y m) w1 (by omega)).mono ?_
    rintro e w' ⟨rfl, rfl⟩
    go_wp2
    go_ret2
    exact ⟨rfl, hb⟩
set_option maxHeartbeats 1000000 in
theorem spec_in (y m d : Int) (w : World) (c : base.Mon w) (h1 : 1970 ≤ y) (h2 : y ≤ 2300) (h3 : 1 ≤ m) (h4 : m ≤ 12) (h5 : 1 ≤ d) (h6 : d ≤ cal.mlen y m) :
    Calls Tryd.prog 54 #[.int .i64 y, .int .i64 m, .int .i64 d] w fun e w' => e = .returned (.tuple #[.int .i64 (dayR y m d), .bool (dayB y m d)]) ∧ Below w.heap.size w w' := by
  have lt := c.lt
  have C := Lib.hid c
  clear c
  obtain ⟨m1, m2⟩ := cal.mlen_bd y m
  obtain ⟨n1, n2⟩ := cal.NY_bd y (by omega) (by omega)
  obtain ⟨c1, c2⟩ := cal.cum_bd y m (by omega) (by omega)
  have n0 := cal.NY_mono 1970 y (by omega) h1
  rw [cal.NY_1970] at n0
  have fin : (d - 1 + cal.NY y + cal.cum y m ≤ 100000 ∧ dayR y m d = d - 1 + cal.NY y + cal.cum y m ∧ dayB y m d = true) ∨ (100000 < d - 1 + cal.NY y + cal.cum y m ∧ dayR y m d = 0 ∧ dayB y m d = false) := by
    have e : cal.dayN y m d = d - 1 + cal.NY y + cal.cum y m := by unfold cal.dayN; omega
    unfold dayR dayB
    rw [e]
    by_cases q : d - 1 + cal.NY y + cal.cum y m ≤ 100000
    · left; exact ⟨q, if_pos q, by simp [q]⟩
    · right; exact ⟨by omega, if_neg q, by simp [q]⟩
  have FIN := Lib.hid fin
  clear fin
  have t1 : decide (1970 ≤ y) = true := by simp; omega
  have t2 : decide (y ≤ 2300) = true := by simp; omega
  have t3 : decide (1 ≤ m) = true := by simp; omega
  have t4 : decide (m ≤ 12) = true := by simp; omega
  have t5 : decide (1 ≤ d) = true := by simp; omega
  have t6 : decide (d ≤ cal.mlen y m) = true := by simp; omega
  go_enter Tryd.func54, Tryd.ntmps54
  go_wp2_with fail
  refine (inT y 1970 2300 w (by omega) (by omega)).mono ?_
  rintro e w' ⟨rfl, rfl⟩
  go_wp2_with fail
  refine (inT m 1 12 w (by omega) (by omega)).mono ?_
  rintro e w' ⟨rfl, rfl⟩
  go_wp2_with fail
  refine (base.mlen_spec y m w C.out h3 h4).mono ?_
  rintro e w1 ⟨rfl, hb⟩
  go_wp2_with fail
  refine (inT d 1 (cal.mlen y m) w1 (by omega) (by omega)).mono ?_
  rintro e w' ⟨rfl, rfl⟩
  go_wp2
  go_loop [8, 9] (fun n i => ∃ k : Int, 1970 ≤ k ∧ k ≤ y ∧ i = .int .i64 k ∧ n = .int .i64 (d - 1 + cal.NY k)) (fun _ i => (y - intOf i).toNat)
  case atStart => exact ⟨1970, by omega, by omega, rfl, by simp [cal.NY_1970]⟩
  case round =>
    obtain ⟨k, k1, k2, rfl, rfl⟩ := hrel
    obtain ⟨e1, e2⟩ := cal.lp_01 k
    obtain ⟨f1, f2⟩ := cal.NY_bd k (by omega) (by omega)
    by_cases hlt : k < y
    · have HS := Lib.hid (cal.NY_succ k (by omega))
      go_wp2_with fail
      refine (base.ylen_spec k w1).mono ?_
      rintro e w' ⟨rfl, rfl⟩
      go_wp2
      go_round
      case rel => exact ⟨k + 1, by omega, by omega, rfl, by rw [HS.out]; go_num⟩
      case measure => simp [intOf]; omega
    · obtain rfl : k = y := by omega
      clear k1 k2 e1 e2 f1 f2
      go_wp2
      go_loopw [8, 10] (fun n i wr => Below w.heap.size w wr ∧ ∃ q : Int, 1 ≤ q ∧ q ≤ m ∧ i = .int .i64 q ∧ n = .int .i64 (d - 1 + cal.NY k + cal.cum k q)) (fun _ i _ => (m - intOf i).toNat)
      case atStart => exact ⟨hb, 1, by omega, by omega, rfl, by simp [cal.cum_1]⟩
      case round =>
        obtain ⟨hB, q, k1, k2, rfl, rfl⟩ := hrel
        obtain ⟨e1, e2⟩ := cal.mlen_bd k q
        obtain ⟨f1, f2⟩ := cal.cum_bd k q (by omega) (by omega)
        by_cases hlt : q < m
        · have HS := Lib.hid (cal.cum_succ k q (by omega) (by omega))
          go_wp2_with fail
          refine (base.mlen_spec k q _ (C.out.below hB lt) k1 (by omega)).mono ?_
          rintro e w' ⟨rfl, hb2⟩
          go_wp2
          go_roundw
          case rel => exact ⟨hB.trans (hb2.mono hB.size), q + 1, by omega, by omega, rfl, by rw [HS.out]; go_num⟩
          case measure => simp [intOf]; omega
        · obtain rfl : q = m := by omega
          rcases FIN.out with ⟨z, e, e'⟩ | ⟨z, e, e'⟩
          · have HE := Lib.hid e; have HE' := Lib.hid e'; clear e e'
            have q0 : decide (0 ≤ d - 1 + cal.NY k + cal.cum k q) = true := by simp; omega
            have q1 : decide (d - 1 + cal.NY k + cal.cum k q ≤ 100000) = true := by simp; omega
            go_wp2
            go_ret2
            exact ⟨ret_ib HE.out.symm HE'.out.symm, hB⟩
          · have HE := Lib.hid e; have HE' := Lib.hid e'; clear e e'
            have q0 : decide (0 ≤ d - 1 + cal.NY k + cal.cum k q) = true := by simp; omega
            have q1 : decide (d - 1 + cal.NY k + cal.cum k q ≤ 100000) = false := by simp; omega
            go_wp2
            go_ret2
            exact ⟨ret_ib HE.out.symm HE'.out.symm, hB⟩
theorem far {y m d : Int} (h2 : 2243 < y) (h3 : 1 ≤ m) (h4 : m ≤ 12) (h5 : 1 ≤ d) : 100000 < cal.dayN y m d := by
  have a := cal.NY_mono 2244 y (by omega) (by omega)
  rw [cal.NY_2244] at a
  obtain ⟨c1, c2⟩ := cal.cum_bd y m (by omega) (by omega)
  unfold cal.dayN; omega
theorem spec (y m d : Int) (w : World) (c : base.Mon w) : Calls Tryd.prog 54 #[.int .i64 y, .int .i64 m, .int .i64 d] w fun e w' => e = .returned (.tuple #[.int .i64 (val y m d), .bool (ok y m d)]) ∧ Below w.heap.size w w' := by
  by_cases hf : y < 1970 ∨ 2300 < y ∨ m < 1 ∨ 12 < m
  · obtain ⟨e1, e2⟩ := no_of (y := y) (m := m) (d := d) (by omega)
    rw [e1, e2]; exact (spec_form y m d w hf).mono fun e w' ⟨h1, h2⟩ => ⟨h1, h2 ▸ Below.refl _ _⟩
  · by_cases hd : d < 1 ∨ cal.mlen y m < d
    · obtain ⟨e1, e2⟩ := no_of (y := y) (m := m) (d := d) (by omega)
      rw [e1, e2]; exact spec_d y m d w c (by omega) (by omega) (by omega) (by omega) hd
    · have hin := spec_in y m d w c (by omega) (by omega) (by omega) (by omega) (by omega) (by omega)
      by_cases h43 : 2243 < y
      · obtain ⟨e1, e2⟩ := no_of (y := y) (m := m) (d := d) (by omega)
        have hf := far (d := d) h43 (show 1 ≤ m by omega) (by omega) (by omega)
        have e3 : dayR y m d = 0 := if_neg (by omega)
        have e4 : dayB y m d = false := by unfold dayB; simp; omega
        rw [e3, e4] at hin
        rw [e1, e2]; exact hin
      · obtain ⟨e1, e2⟩ := in_of (y := y) (m := m) (d := d) (by omega) (by omega) (by omega) (by omega) (by omega) (by omega)
        rw [e1, e2]; exact hin
end Go.Proofs.YtchpjojndkkmeaaDoor.dayOf
namespace Go.Proofs.YtchpjojndkkmeaaDoor.dateOf
open Go.ChangeShapes Go.WideShapes Go.ChangeAt Go.RowKit
theorem ret_3 {a b c a' b' c' : Int} (h : a = a') (h' : b = b') (h'' : c = c') : Ending.returned (.tuple #[.int .i64 a, .int .i64 b, .int .i64 c]) = .returned (.tuple #[.int .i64 a', .int .i64 b', .int .i64 c']) := by rw [h, h', h'']
theorem spec_no (n : Int) (w : World) (h : n < 0 ∨ 100000 < n) : Calls Tryd.prog 66 #[.int .i64 n] w fun e w' => e = .returned (.tuple #[.int .i64 0, .int .i64 0, .int .i64 0]) ∧ w = w' := by
  by_cases h1 : n < 0
  · have t1 : decide (0 ≤ n) = false := by simp; omega
    clear h
    go_enter Tryd.func66, Tryd.ntmps66
    go_wp2
    go_ret3
    exact ⟨rfl, rfl⟩
  · have t1 : decide (0 ≤ n) = true := by simp; omega
    have t2 : decide (n ≤ 100000) = false := by simp; omega
    clear h
    go_enter Tryd.func66, Tryd.ntmps66
    go_wp2
    go_ret3
    exact ⟨rfl, rfl⟩
theorem l2DayT (n : Int) (w : World) (h1 : 0 ≤ n) (h2 : n ≤ 100000) : Calls Tryd.prog 65 #[.int .i64 n] w fun e w' => e = .returned (.bool true) ∧ w = w' := by
  have t1 : decide (0 ≤ n) = true := by simp; omega
  have t2 : decide (n ≤ 100000) = true := by simp; omega
  go_enter Tryd.func65, Tryd.ntmps65
  go_wp2
  go_ret
  exact ⟨rfl, rfl⟩
set_option maxHeartbeats 1000000 in
theorem spec (n y m d : Int) (w : World) (c : base.Mon w) (hd : cal.isDate n y m d) : Calls Tryd.prog 66 #[.int .i64 n] w fun e w' => e = .returned (.tuple #[.int .i64 y, .int .i64 m, .int .i64 d]) ∧ Below w.heap.size w w' := by
  have lt := c.lt
  have C := Lib.hid c
  clear c
  obtain ⟨o, hn⟩ := hd
  have z0 := cal.day_nonneg o
  have z1 := cal.in_year o
  have z2 := cal.in_month o
  have hdd : d = n - cal.NY y - cal.cum y m + 1 := by unfold cal.dayN at hn; omega
  have HD := Lib.hid hdd
  rw [hn] at z0 z1 z2
  obtain ⟨h1, h2, h3, h4, h5, h6, h7⟩ := o
  rw [hn] at h7
  clear hn hdd
  obtain ⟨z1, z3⟩ := z1
  obtain ⟨z2, z4⟩ := z2
  have t1 : decide (0 ≤ n) = true := by simp; omega
  have t2 : decide (n ≤ 100000) = true := by simp; omega
  obtain ⟨n1, n2⟩ := cal.NY_bd y (by omega) (by omega)
  go_enter Tryd.func66, Tryd.ntmps66
  go_wp2_with fail
  refine (l2DayT n w (by omega) (by omega)).mono ?_
  rintro e w' ⟨rfl, rfl⟩
  go_wp2
  go_loop [0, 5] (fun r i => ∃ k : Int, 1970 ≤ k ∧ k ≤ y ∧ i = .int .i64 k ∧ r = .int .i64 (n - cal.NY k)) (fun _ i => (y - intOf i).toNat)
  case atStart => exact ⟨1970, by omega, by omega, rfl, by simp [cal.NY_1970]⟩
  case round =>
    obtain ⟨k, k1, k2, rfl, rfl⟩ := hrel
    obtain ⟨f1, f2⟩ := cal.NY_bd k (by omega) (by omega)
    obtain ⟨l1, l2⟩ := cal.lp_01 k
    have hs := cal.NY_succ k (by omega)
    by_cases hlt : k < y
    · have hm := cal.NY_lt k y (by omega) hlt
      have hz : 365 + cal.lp k ≤ n - cal.NY k := by omega
      have t3 : decide (365 + cal.lp k ≤ n - cal.NY k) = true := by simp; omega
      have HS := Lib.hid hs
      clear hs hm
      go_wp2_with fail
      refine (base.ylen_spec k w).mono ?_
      rintro e w' ⟨rfl, rfl⟩
      go_wp2_with fail
      refine (base.ylen_spec k w).mono ?_
      rintro e w' ⟨rfl, rfl⟩
      go_wp2
      go_round
      case rel => exact ⟨k + 1, by omega, by omega, rfl, by rw [HS.out]; go_num⟩
      case measure => simp [intOf]; omega
    · obtain rfl : k = y := by omega
      have hz : n - cal.NY k < 365 + cal.lp k := by omega
      have t3 : decide (365 + cal.lp k ≤ n - cal.NY k) = false := by simp; omega
      clear hs
      go_wp2_with fail
      refine (base.ylen_spec k w).mono ?_
      rintro e w' ⟨rfl, rfl⟩
      go_wp2
      go_loopw [0, 6] (fun r i wr => Below w.heap.size w wr ∧ ∃ q : Int, 1 ≤ q ∧ q ≤ m ∧ i = .int .i64 q ∧ r = .int .i64 (n - cal.NY k - cal.cum k q)) (fun _ i _ => (m - intOf i).toNat)
      case atStart => exact ⟨Below.refl _ _, 1, by omega, by omega, rfl, by simp [cal.cum_1]⟩
      case round =>
        obtain ⟨hB, q, q1, q2, rfl, rfl⟩ := hrel
        obtain ⟨e1, e2⟩ := cal.mlen_bd k q
        obtain ⟨g1, g2⟩ := cal.cum_bd k q (by omega) (by omega)
        have hs := cal.cum_succ k q (by omega) (by omega)
        by_cases hq : q < m
        · have hm := cal.cum_mono k (q + 1) m (by omega) (by omega) (by omega)
          have hz : cal.mlen k q ≤ n - cal.NY k - cal.cum k q := by omega
          have t4 : decide (cal.mlen k q ≤ n - cal.NY k - cal.cum k q) = true := by simp; omega
          have HS := Lib.hid hs
          clear hs hm
          go_wp2_with fail
          refine (base.mlen_spec k q _ (C.out.below hB lt) q1 (by omega)).mono ?_
          rintro e w1 ⟨rfl, hb1⟩
          have hB1 := hB.trans (hb1.mono hB.size)
          go_wp2_with fail
          refine (base.mlen_spec k q w1 (C.out.below hB1 lt) q1 (by omega)).mono ?_
          rintro e w2 ⟨rfl, hb2⟩
          go_wp2
          go_roundw
          case rel => exact ⟨hB1.trans (hb2.mono hB1.size), q + 1, by omega, by omega, rfl, by rw [HS.out]; go_num⟩
          case measure => simp [intOf]; omega
        · obtain rfl : q = m := by omega
          have hz : n - cal.NY k - cal.cum k q < cal.mlen k q := by omega
          have t4 : decide (cal.mlen k q ≤ n - cal.NY k - cal.cum k q) = false := by simp; omega
          clear hs
          go_wp2_with fail
          refine (base.mlen_spec k q _ (C.out.below hB lt) q1 (by omega)).mono ?_
          rintro e w1 ⟨rfl, hb1⟩
          go_wp2
          go_ret3
          exact ⟨ret_3 rfl rfl HD.out.symm, hB.trans (hb1.mono hB.size)⟩
end Go.Proofs.YtchpjojndkkmeaaDoor.dateOf
namespace Go.Proofs.YtchpjojndkkmeaaDoor.monthsOn
open Go.ChangeShapes Go.WideShapes Go.ChangeAt Go.RowKit
/-- The day of the month, so many months later. -/
def dd (y m d n : Int) : Int := if d ≤ cal.mlen (y + (m - 1 + n) / 12) ((m - 1 + n) % 12 + 1) then d else cal.mlen (y + (m - 1 + n) / 12) ((m - 1 + n) % 12 + 1)
/-- What MonthsOn answers of a day with this date. -/
def res (y m d n : Int) : Int := if dayOf.ok (y + (m - 1 + n) / 12) ((m - 1 + n) % 12 + 1) (dd y m d n) = true then dayOf.val (y + (m - 1 + n) / 12) ((m - 1 + n) % 12 + 1) (dd y m d n) else -1
theorem spec_no (t n : Int) (w : World) (h : t < 0 ∨ 100000 < t ∨ n < 0 ∨ 600 < n) : Calls Tryd.prog 42 #[.int .i64 t, .int .i64 n] w fun e w' => e = .returned (.int .i64 (-1)) ∧ w = w' := by
  by_cases h1 : t < 0
  · have t1 : decide (0 ≤ t) = false := by simp; omega
    clear h
    go_enter Tryd.func42, Tryd.ntmps42
    go_wp2
    go_ret
    exact ⟨rfl, rfl⟩
  · have t1 : decide (0 ≤ t) = true := by simp; omega
    by_cases h2 : 100000 < t
    · have t2 : decide (t ≤ 100000) = false := by simp; omega
      clear h
      go_enter Tryd.func42, Tryd.ntmps42
      go_wp2
      go_ret
      exact ⟨rfl, rfl⟩
    · have t2 : decide (t ≤ 100000) = true := by simp; omega
      by_cases h3 : n < 0
      · have t3 : decide (n < 0) = true := by simp; omega
        have t4 : decide (0 ≤ n) = false := by simp; omega
        clear h
        go_enter Tryd.func42, Tryd.ntmps42
        go_wp2
        go_ret
        exact ⟨rfl, rfl⟩
      · have t3 : decide (n < 0) = false := by simp; omega
        have t4 : decide (0 ≤ n) = true := by simp; omega
        have t5 : decide (600 < n) = true := by simp; omega
        have t6 : decide (n ≤ 600) = false := by simp; omega
        clear h
        go_enter Tryd.func42, Tryd.ntmps42
        go_wp2
        go_ret
        exact ⟨rfl, rfl⟩
set_option maxHeartbeats 2000000 in
theorem spec_yes (t n y m d : Int) (w : World) (c : base.Mon w) (hd : cal.isDate t y m d) (n1 : 0 ≤ n) (n2 : n ≤ 600) : Calls Tryd.prog 42 #[.int .i64 t, .int .i64 n] w fun e w' => e = .returned (.int .i64 (res y m d n)) ∧ Below w.heap.size w w' := by
  have lt := c.lt
  have C := Lib.hid c
  clear c
  have HD := Lib.hid hd
  obtain ⟨o, hn⟩ := hd
  have z0 := cal.day_nonneg o
  rw [hn] at z0
  obtain ⟨h1, h2, h3, h4, h5, h6, h7⟩ := o
  rw [hn] at h7
  clear hn
  have t1 : decide (n < 0) = false := by simp; omega
  have t2 : decide (600 < n) = false := by simp; omega
  have hr : res y m d n = if dayOf.ok (y + (m - 1 + n) / 12) ((m - 1 + n) % 12 + 1) (dd y m d n) = true then dayOf.val (y + (m - 1 + n) / 12) ((m - 1 + n) % 12 + 1) (dd y m d n) else -1 := rfl
  by_cases hm : d ≤ cal.mlen (y + (m - 1 + n) / 12) ((m - 1 + n) % 12 + 1)
  · have hdd : dd y m d n = d := if_pos hm
    rw [hdd] at hr
    cases hok : dayOf.ok (y + (m - 1 + n) / 12) ((m - 1 + n) % 12 + 1) d with
    | true =>
      have HR := Lib.hid (hr.trans (if_pos hok))
      have HDO := fun w1 (c1 : base.Mon w1) => Lib.hid (dayOf.spec (y + (m - 1 + n) / 12) ((m - 1 + n) % 12 + 1) d w1 c1)
      have HO := Lib.hid hok
      clear hr hdd hok
      have HDO2 := Lib.hid HDO
      clear HDO
      go_enter Tryd.func42, Tryd.ntmps42
      go_wp2_with fail
      refine (dateOf.l2DayT t w (by omega) (by omega)).mono ?_
      rintro e w' ⟨rfl, rfl⟩
      go_wp2_with fail
      refine (dayOf.inT n 0 600 w (by omega) (by omega)).mono ?_
      rintro e w' ⟨rfl, rfl⟩
      go_wp2_with fail
      refine (dateOf.spec t y m d w C.out HD.out).mono ?_
      rintro e w1 ⟨rfl, b1⟩
      go_wp2_with fail
      refine (base.mlen_spec (y + (m - 1 + n) / 12) ((m - 1 + n) % 12 + 1) w1 (C.out.below b1 lt) (by omega) (by omega)).mono ?_
      rintro e w2 ⟨rfl, b2⟩
      have b3 := b1.trans (b2.mono b1.size)
      go_wp2_with fail
      refine (HDO2.out w2 (C.out.below b3 lt)).out.mono ?_
      rintro e w3 ⟨rfl, b4⟩
      rw [HO.out]
      go_wp2
      go_ret
      exact ⟨base.ret_int HR.out.symm, b3.trans (b4.mono b3.size)⟩
    | false =>
      have HR := Lib.hid (hr.trans (if_neg (by simp [hok])))
      have HDO := fun w1 (c1 : base.Mon w1) => Lib.hid (dayOf.spec (y + (m - 1 + n) / 12) ((m - 1 + n) % 12 + 1) d w1 c1)
      have HO := Lib.hid hok
      clear hr hdd hok
      have HDO2 := Lib.hid HDO
      clear HDO
      go_enter Tryd.func42, Tryd.ntmps42
      go_wp2_with fail
      refine (dateOf.l2DayT t w (by omega) (by omega)).mono ?_
      rintro e w' ⟨rfl, rfl⟩
      go_wp2_with fail
      refine (dayOf.inT n 0 600 w (by omega) (by omega)).mono ?_
      rintro e w' ⟨rfl, rfl⟩
      go_wp2_with fail
      refine (dateOf.spec t y m d w C.out HD.out).mono ?_
      rintro e w1 ⟨rfl, b1⟩
      go_wp2_with fail
      refine (base.mlen_spec (y + (m - 1 + n) / 12) ((m - 1 + n) % 12 + 1) w1 (C.out.below b1 lt) (by omega) (by omega)).mono ?_
      rintro e w2 ⟨rfl, b2⟩
      have b3 := b1.trans (b2.mono b1.size)
      go_wp2_with fail
      refine (HDO2.out w2 (C.out.below b3 lt)).out.mono ?_
      rintro e w3 ⟨rfl, b4⟩
      rw [HO.out]
      go_wp2
      go_ret
      exact ⟨base.ret_int HR.out.symm, b3.trans (b4.mono b3.size)⟩
  · have hdd : dd y m d n = (cal.mlen (y + (m - 1 + n) / 12) ((m - 1 + n) % 12 + 1)) := if_neg hm
    rw [hdd] at hr
    cases hok : dayOf.ok (y + (m - 1 + n) / 12) ((m - 1 + n) % 12 + 1) (cal.mlen (y + (m - 1 + n) / 12) ((m - 1 + n) % 12 + 1)) with
    | true =>
      have HR := Lib.hid (hr.trans (if_pos hok))
      have HDO := fun w1 (c1 : base.Mon w1) => Lib.hid (dayOf.spec (y + (m - 1 + n) / 12) ((m - 1 + n) % 12 + 1) (cal.mlen (y + (m - 1 + n) / 12) ((m - 1 + n) % 12 + 1)) w1 c1)
      have HO := Lib.hid hok
      clear hr hdd hok
      have HDO2 := Lib.hid HDO
      clear HDO
      go_enter Tryd.func42, Tryd.ntmps42
      go_wp2_with fail
      refine (dateOf.l2DayT t w (by omega) (by omega)).mono ?_
      rintro e w' ⟨rfl, rfl⟩
      go_wp2_with fail
      refine (dayOf.inT n 0 600 w (by omega) (by omega)).mono ?_
      rintro e w' ⟨rfl, rfl⟩
      go_wp2_with fail
      refine (dateOf.spec t y m d w C.out HD.out).mono ?_
      rintro e w1 ⟨rfl, b1⟩
      go_wp2_with fail
      refine (base.mlen_spec (y + (m - 1 + n) / 12) ((m - 1 + n) % 12 + 1) w1 (C.out.below b1 lt) (by omega) (by omega)).mono ?_
      rintro e w2 ⟨rfl, b2⟩
      have b3 := b1.trans (b2.mono b1.size)
      go_wp2_with fail
      refine (HDO2.out w2 (C.out.below b3 lt)).out.mono ?_
      rintro e w3 ⟨rfl, b4⟩
      rw [HO.out]
      go_wp2
      go_ret
      exact ⟨base.ret_int HR.out.symm, b3.trans (b4.mono b3.size)⟩
    | false =>
      have HR := Lib.hid (hr.trans (if_neg (by simp [hok])))
      have HDO := fun w1 (c1 : base.Mon w1) => Lib.hid (dayOf.spec (y + (m - 1 + n) / 12) ((m - 1 + n) % 12 + 1) (cal.mlen (y + (m - 1 + n) / 12) ((m - 1 + n) % 12 + 1)) w1 c1)
      have HO := Lib.hid hok
      clear hr hdd hok
      have HDO2 := Lib.hid HDO
      clear HDO
      go_enter Tryd.func42, Tryd.ntmps42
      go_wp2_with fail
      refine (dateOf.l2DayT t w (by omega) (by omega)).mono ?_
      rintro e w' ⟨rfl, rfl⟩
      go_wp2_with fail
      refine (dayOf.inT n 0 600 w (by omega) (by omega)).mono ?_
      rintro e w' ⟨rfl, rfl⟩
      go_wp2_with fail
      refine (dateOf.spec t y m d w C.out HD.out).mono ?_
      rintro e w1 ⟨rfl, b1⟩
      go_wp2_with fail
      refine (base.mlen_spec (y + (m - 1 + n) / 12) ((m - 1 + n) % 12 + 1) w1 (C.out.below b1 lt) (by omega) (by omega)).mono ?_
      rintro e w2 ⟨rfl, b2⟩
      have b3 := b1.trans (b2.mono b1.size)
      go_wp2_with fail
      refine (HDO2.out w2 (C.out.below b3 lt)).out.mono ?_
      rintro e w3 ⟨rfl, b4⟩
      rw [HO.out]
      go_wp2
      go_ret
      exact ⟨base.ret_int HR.out.symm, b3.trans (b4.mono b3.size)⟩
end Go.Proofs.YtchpjojndkkmeaaDoor.monthsOn

namespace Go.Proofs.YtchpjojndkkmeaaDoor.due
open Go.ChangeShapes Go.WideShapes Go.ChangeAt Go.RowKit
theorem info2 : (Tryd.prog.info? 2).map (fun i => (i.zero, i.size, i.bytes)) = some (some (.int .i64 0), 1, 8) := by kernel_rfl
def MonS (t : Int) (f : Int → Int) : Prop := ∀ n w, base.Mon w → Calls Tryd.prog 42 #[.int .i64 t, .int .i64 n] w fun e w' => e = .returned (.int .i64 (f n)) ∧ Below w.heap.size w w'
/-- The first so many due days. -/
def pre (f : Int → Int) (m : Nat) : List Int := (List.range m).map fun (i : Nat) => f ((i : Int) + 1)
theorem pre_succ (f : Int → Int) (m : Nat) : pre f (m + 1) = pre f m ++ [f ((m : Int) + 1)] := by unfold pre; rw [List.range_succ, List.map_append]; rfl
theorem pre_len (f : Int → Int) (m : Nat) : (pre f m).length = m := by simp [pre]
/-- What DueDays answers. -/
def Zs (f : Int → Int) (n : Int) (zs : List Int) : Prop :=
  ((n < 1 ∨ 24 < n ∨ ∃ i : Nat, (i : Int) < n ∧ f ((i : Int) + 1) = -1) ∧ zs = []) ∨ (1 ≤ n ∧ n ≤ 24 ∧ (∀ i : Nat, (i : Int) < n → f ((i : Int) + 1) ≠ -1) ∧ zs = pre f n.toNat)
theorem zs_fun {f : Int → Int} {n : Int} {a b : List Int} (ha : Zs f n a) (hb : Zs f n b) : a = b := by
  rcases ha with ⟨ha, rfl⟩ | ⟨h1, h2, h3, rfl⟩ <;> rcases hb with ⟨hb, rfl⟩ | ⟨g1, g2, g3, rfl⟩
  · rfl
  · exfalso
    rcases ha with h | h | ⟨i, hi, h⟩
    · omega
    · omega
    · exact g3 i hi h
  · exfalso
    rcases hb with h | h | ⟨i, hi, h⟩
    · omega
    · omega
    · exact h3 i hi h
  · rfl
/-- A list of numbers, in memory of its own. -/
def GotL (w : World) (f : Int → Int) (n : Int) (e : Ending) (w' : World) : Prop :=
  ∃ v zs, e = .returned v ∧ Zs f n zs ∧ w'.ownsRow w.heap.size 2 1 v zs.length (zs.map (Value.int .i64)) ∧ Below w.heap.size w w'
theorem owns_below {w w' : World} {B : Nat} {e : TypeId} {size : Nat} {v : Value} {n : Nat} {xs : List Value} (h : w.ownsRow B e size v n xs) (hb : Below w.heap.size w w') : w'.ownsRow B e size v n xs := by
  obtain ⟨h1, h2⟩ := h
  refine ⟨h1, ?_⟩
  rcases h2 with h2 | ⟨g, cap, cur, hv, hg, hh, r⟩
  · exact Or.inl h2
  · exact Or.inr ⟨g, cap, cur, hv, hg, by rw [hb.block g (Array.getElem?_eq_some_iff.1 hh).1]; exact hh, r⟩
/-- One more. -/
theorem owns_more {w : World} {B : Nat} {v : Value} {f : Int → Int} {m : Nat} (h : w.ownsRow B 2 1 v (m + 1) ((pre f m).map (Value.int .i64) ++ [.int .i64 (f ((m : Int) + 1))])) : w.ownsRow B 2 1 v (m + 1) ((pre f (m + 1)).map (Value.int .i64)) := by
  rw [pre_succ, List.map_append]; exact h
theorem owns_empty (w : World) : (w.alloc (.cells #[] 2)).ownsRow w.heap.size 2 1 (.slice (some ⟨w.heap.size, 0, none⟩) 0 0) 0 [] := by
  refine ⟨rfl, .inr ⟨w.heap.size, 0, #[], rfl, Nat.le_refl _, ?_, Nat.le_refl _, Nat.zero_le _, rfl, rfl⟩⟩
  show (w.heap.push _)[w.heap.size]? = _
  simp
set_option maxHeartbeats 1000000 in
theorem spec (t n : Int) (f : Int → Int) (w : World) (hf : MonS t f) (hlo : ∀ n, -1 ≤ f n) (c : base.Mon w) : Calls Tryd.prog 21 #[.int .i64 t, .int .i64 n] w (GotL w f n) := by
  have F := Lib.hid hf
  have C := Lib.hid c
  have lt0 := c.lt
  have HLO := Lib.hid hlo
  clear hf c hlo
  by_cases h : n < 1 ∨ 24 < n
  · have H := Lib.hid h
    clear h
    go_enter Tryd.func21, Tryd.ntmps21
    go_wp2_with fail
    refine (dayOf.inF n 1 24 w H.out).mono ?_
    rintro e w' ⟨rfl, rfl⟩
    go_wp2
    go_ret
    exact ⟨_, [], rfl, .inl ⟨H.out.elim .inl (fun h => .inr (.inl h)), rfl⟩, World.ownsRow_nil _ _ _ _, Below.refl _ _⟩
  · obtain ⟨N, rfl⟩ := Int.eq_ofNat_of_zero_le (show 0 ≤ n by omega)
    have N1 : 1 ≤ N := by omega
    have N2 : N ≤ 24 := by omega
    have t1 : decide ((N : Int) < 1) = false := by simp; omega
    have t2 : decide ((24 : Int) < (N : Int)) = false := by simp; omega
    clear h
    obtain ⟨i0, hi, hz0, hz1, hz2⟩ := info_parts info2
    go_enter Tryd.func21, Tryd.ntmps21
    go_wp2_with fail
    refine (dayOf.inT N 1 24 w (by omega) (by omega)).mono ?_
    rintro e w' ⟨rfl, rfl⟩
    have B0 := Lib.hid ((Below.refl w.heap.size w).alloc (Nat.le_refl _) (.cells #[] 2))
    have OWN0 := Lib.hid (owns_empty w)
    go_wp2
    go_loopw [5, 6] (fun v i wr => Below w.heap.size w wr ∧ ∃ m : Nat, m ≤ N ∧ i = .int .i64 ((m : Int) + 1) ∧ (∀ j : Nat, j < m → f ((j : Int) + 1) ≠ -1) ∧ wr.ownsRow w.heap.size 2 1 v m ((pre f m).map (Value.int .i64))) (fun _ i _ => (N + 1 - (intOf i).toNat))
    case atStart => exact ⟨B0.out, 0, by omega, by go_num, fun j h => by omega, OWN0.out⟩
    case round =>
      obtain ⟨hB, m, hm, rfl, hne, hown⟩ := hrel
      have BB := Lib.hid hB
      have NE := Lib.hid hne
      have OWN := Lib.hid hown
      have CR := Lib.hid (C.out.below hB lt0)
      have hsz := hB.size
      clear hB hne hown
      by_cases hlt : m < N
      · have u1 : decide ((m : Int) + 1 ≤ (N : Int)) = true := by simp; omega
        go_wp2_with fail
        refine (F.out ((m : Int) + 1) _ CR.out).mono ?_
        rintro e w1 ⟨rfl, b1⟩
        have OWN := Lib.hid (owns_below OWN.out b1)
        have BB := Lib.hid (BB.out.trans (b1.mono hsz))
        have hsz := BB.out.size
        clear b1
        have lo := HLO.out ((m : Int) + 1)
        by_cases hq : f ((m : Int) + 1) = -1
        · have q1 : decide (f ((m : Int) + 1) < 0) = true := by simp; omega
          have HQ := Lib.hid hq
          clear hq
          go_wp2
          go_ret
          exact ⟨_, [], rfl, .inl ⟨.inr (.inr ⟨m, by omega, HQ.out⟩), rfl⟩, World.ownsRow_nil _ _ _ _, BB.out⟩
        · have q1 : decide (f ((m : Int) + 1) < 0) = false := by simp; omega
          have HQ := Lib.hid hq
          clear hq
          go_wp2_with (at_builtin; refine wpList_append_own _ rfl _ _ 37 rfl w.heap.size 2 i0 (.int .i64 0) 1 8 Tryd.underlying37 hi hz0 hz1 hz2 rfl (by decide) _ _ _ rfl (OWN.out.alloc _) ⟨w1.heap.size, 0, none⟩ 1 1 [.int .i64 (f ((m : Int) + 1))] rfl rfl ?c1 ?c2 ?c3 ?c4 ?c5 ?_)
          case c1 =>
            intro j u hj
            match j, hj with
            | 0, hj => simp at hj; subst hj; simp [Addr.add]
          case c2 => intro u hu; simp at hu; subst hu; rfl
          case c3 => unfold maxLen; omega
          case c4 => omega
          case c5 => simp; omega
          · intro v' w2 hown' hgrow _
            have OWN2 := Lib.hid (owns_more hown')
            have B2 := Lib.hid ((BB.out.alloc hsz _).grown hgrow (by simp; omega) (fun k hk => by
              rcases OWN.out.2 with ⟨rfl, _⟩ | ⟨g, cap, cur, rfl, hg, _⟩
              · cases hk
              · cases hk; exact hg))
            have NE2 : Hid (∀ j : Nat, j < m + 1 → f ((j : Int) + 1) ≠ -1) := Lib.hid fun j hj => by
              by_cases e : j = m
              · subst e; exact HQ.out
              · exact NE.out j (by omega)
            clear hown' hgrow
            go_wp2
            go_roundw
            case rel => exact ⟨B2.out, m + 1, by omega, by go_num, NE2.out, OWN2.out⟩
            case measure => simp [intOf]; omega
      · have u1 : decide ((m : Int) + 1 ≤ (N : Int)) = false := by simp; omega
        obtain rfl : m = N := by omega
        go_wp2
        go_ret
        exact ⟨_, pre f m, rfl, .inr ⟨by omega, by omega, fun i hi => NE.out i (by omega), by rw [Int.toNat_natCast]⟩, by rw [pre_len]; exact OWN.out, BB.out⟩
end Go.Proofs.YtchpjojndkkmeaaDoor.due

namespace Go.Proofs.YtchpjojndkkmeaaDoor.mf
open Go.ChangeShapes Go.WideShapes Go.ChangeAt Go.RowKit
/-- The month behind a month. -/
theorem month_next (Y M : Int) (h0 : 0 ≤ Y) (h1 : 1 ≤ M) (h2 : M ≤ 12) (Y' M' : Int) (hY : (M < 12 ∧ Y' = Y ∧ M' = M + 1) ∨ (M = 12 ∧ Y' = Y + 1 ∧ M' = 1)) :
    cal.NY Y' + cal.cum Y' M' = cal.NY Y + cal.cum Y M + cal.mlen Y M := by
  have cs := cal.cum_succ Y M h1 h2
  rcases hY with ⟨_, rfl, rfl⟩ | ⟨rfl, rfl, rfl⟩
  · omega
  · have ns := cal.NY_succ Y h0
    have c13 := cal.cum_13 Y
    have c1 := cal.cum_1 (Y + 1)
    rw [show (12 : Int) + 1 = 13 from rfl] at cs
    omega
/-- The answer, taken apart. -/
theorem res_cases (y m d n : Int) : monthsOn.res y m d n = -1 ∨ (monthsOn.res y m d n = cal.dayN (y + (m - 1 + n) / 12) ((m - 1 + n) % 12 + 1) (monthsOn.dd y m d n) ∧
    cal.okD (y + (m - 1 + n) / 12) ((m - 1 + n) % 12 + 1) (monthsOn.dd y m d n)) := by
  unfold monthsOn.res
  by_cases h : dayOf.ok (y + (m - 1 + n) / 12) ((m - 1 + n) % 12 + 1) (monthsOn.dd y m d n) = true
  · right
    rw [if_pos h]
    simp only [dayOf.ok, decide_eq_true_eq] at h
    exact ⟨if_pos h, h⟩
  · left; rw [if_neg h]
theorem dd_bd (y m d n : Int) : (d ≤ cal.mlen (y + (m - 1 + n) / 12) ((m - 1 + n) % 12 + 1) ∧ monthsOn.dd y m d n = d) ∨ (cal.mlen (y + (m - 1 + n) / 12) ((m - 1 + n) % 12 + 1) < d ∧ monthsOn.dd y m d n = cal.mlen (y + (m - 1 + n) / 12) ((m - 1 + n) % 12 + 1)) := by
  unfold monthsOn.dd
  by_cases h : d ≤ cal.mlen (y + (m - 1 + n) / 12) ((m - 1 + n) % 12 + 1)
  · left; exact ⟨h, if_pos h⟩
  · right; exact ⟨by omega, if_neg h⟩
theorem res_nonneg {y m d n : Int} (h : ¬ monthsOn.res y m d n = -1) : ∃ Y M D, cal.isDate (monthsOn.res y m d n) Y M D ∧ Y = y + (m - 1 + n) / 12 ∧ M = (m - 1 + n) % 12 + 1 ∧ D = monthsOn.dd y m d n := by
  rcases res_cases y m d n with k | ⟨e, k⟩
  · exact absurd k h
  · exact ⟨_, _, _, ⟨k, e.symm⟩, rfl, rfl, rfl⟩
theorem zero_months {t y m d : Int} (hd : cal.isDate t y m d) : monthsOn.res y m d 0 = t := by
  obtain ⟨o, e⟩ := hd
  have o' := o
  obtain ⟨h1, h2, h3, h4, h5, h6, h7⟩ := o
  have eY : y + (m - 1 + 0) / 12 = y := by omega
  have eM : (m - 1 + 0) % 12 + 1 = m := by omega
  have eD : monthsOn.dd y m d 0 = d := by unfold monthsOn.dd; rw [eY, eM, if_pos h6]
  have k : dayOf.ok y m d = true := by simp only [dayOf.ok, decide_eq_true_eq]; exact o'
  have k2 : dayOf.val y m d = cal.dayN y m d := by unfold dayOf.val; exact if_pos ⟨h1, h2, h3, h4, h5, h6, h7⟩
  unfold monthsOn.res
  rw [eD, eY, eM, if_pos k]
  rw [k2, e]
theorem next_facts {y m d n : Int} (o : cal.okD y m d) (n1 : 0 ≤ n) (hx : ¬ monthsOn.res y m d n = -1) (hn : ¬ monthsOn.res y m d (n + 1) = -1) :
    monthsOn.res y m d n < monthsOn.res y m d (n + 1) ∧ monthsOn.res y m d (n + 1) - monthsOn.res y m d n ≤ 31 := by
  obtain ⟨h1, h2, h3, h4, h5, h6, h7⟩ := o
  rcases res_cases y m d n with k | ⟨e, k⟩
  · exact absurd k hx
  rcases res_cases y m d (n + 1) with k' | ⟨e', k'⟩
  · exact absurd k' hn
  have mn := month_next (y + (m - 1 + n) / 12) ((m - 1 + n) % 12 + 1) (by omega) (by omega) (by omega) (y + (m - 1 + (n + 1)) / 12) ((m - 1 + (n + 1)) % 12 + 1) (by omega)
  have b := cal.mlen_bd (y + (m - 1 + n) / 12) ((m - 1 + n) % 12 + 1)
  have b' := cal.mlen_bd (y + (m - 1 + (n + 1)) / 12) ((m - 1 + (n + 1)) % 12 + 1)
  have q := dd_bd y m d n
  have q' := dd_bd y m d (n + 1)
  rw [e, e']
  unfold cal.dayN
  generalize cal.NY (y + (m - 1 + n) / 12) = A at *
  generalize cal.NY (y + (m - 1 + (n + 1)) / 12) = A' at *
  generalize cal.cum (y + (m - 1 + n) / 12) ((m - 1 + n) % 12 + 1) = B at *
  generalize cal.cum (y + (m - 1 + (n + 1)) / 12) ((m - 1 + (n + 1)) % 12 + 1) = B' at *
  generalize cal.mlen (y + (m - 1 + n) / 12) ((m - 1 + n) % 12 + 1) = L at *
  generalize cal.mlen (y + (m - 1 + (n + 1)) / 12) ((m - 1 + (n + 1)) % 12 + 1) = L' at *
  generalize monthsOn.dd y m d n = D at *
  generalize monthsOn.dd y m d (n + 1) = D' at *
  omega
theorem res_lo (y m d n : Int) : -1 ≤ monthsOn.res y m d n ∧ monthsOn.res y m d n ≤ 100000 := by
  rcases res_cases y m d n with k | ⟨e, k⟩
  · omega
  · have := cal.day_nonneg k
    have := k.2.2.2.2.2.2
    omega
theorem date_ex (t : Int) : ∃ p : Int × Int × Int, 0 ≤ t ∧ t ≤ 100000 → cal.isDate t p.1 p.2.1 p.2.2 := by
  by_cases h : 0 ≤ t ∧ t ≤ 100000
  · obtain ⟨y, m, d, hd⟩ := cal.date_exists t h.1 h.2
    exact ⟨(y, m, d), fun _ => hd⟩
  · exact ⟨(0, 0, 0), fun k => absurd k h⟩
/-- The date of a day. -/
noncomputable def dt (t : Int) : Int × Int × Int := Classical.choose (date_ex t)
theorem dt_is {t : Int} (h0 : 0 ≤ t) (h1 : t ≤ 100000) : cal.isDate t (dt t).1 (dt t).2.1 (dt t).2.2 := Classical.choose_spec (date_ex t) ⟨h0, h1⟩
/-- So many months later. -/
noncomputable def mf (t n : Int) : Int := if t < 0 ∨ 100000 < t ∨ n < 0 ∨ 600 < n then -1 else monthsOn.res (dt t).1 (dt t).2.1 (dt t).2.2 n
theorem mf_no {t n : Int} (h : t < 0 ∨ 100000 < t ∨ n < 0 ∨ 600 < n) : mf t n = -1 := if_pos h
theorem mf_yes {t n : Int} (h : ¬ (t < 0 ∨ 100000 < t ∨ n < 0 ∨ 600 < n)) : mf t n = monthsOn.res (dt t).1 (dt t).2.1 (dt t).2.2 n := if_neg h
theorem mf_bd (t n : Int) : -1 ≤ mf t n ∧ mf t n ≤ 100000 := by
  by_cases h : t < 0 ∨ 100000 < t ∨ n < 0 ∨ 600 < n
  · rw [mf_no h]; omega
  · rw [mf_yes h]; exact res_lo _ _ _ _
theorem monS (t : Int) : due.MonS t (mf t) := fun n w c => by
  by_cases h : t < 0 ∨ 100000 < t ∨ n < 0 ∨ 600 < n
  · rw [mf_no h]; exact (monthsOn.spec_no t n w h).mono fun e w' ⟨h1, h2⟩ => ⟨h1, h2 ▸ Below.refl _ _⟩
  · rw [mf_yes h]; exact monthsOn.spec_yes t n _ _ _ w c (dt_is (by omega) (by omega)) (by omega) (by omega)
theorem mf_step {t n : Int} (h0 : 0 ≤ n) (h1 : mf t n ≠ -1) (h2 : mf t (n + 1) ≠ -1) : mf t n < mf t (n + 1) ∧ mf t (n + 1) - mf t n ≤ 31 := by
  by_cases h : t < 0 ∨ 100000 < t ∨ n < 0 ∨ 600 < n
  · exact absurd (mf_no h) h1
  · by_cases k : t < 0 ∨ 100000 < t ∨ n + 1 < 0 ∨ 600 < n + 1
    · exact absurd (mf_no k) h2
    · rw [mf_yes h] at h1 ⊢
      rw [mf_yes k] at h2 ⊢
      exact next_facts (dt_is (by omega) (by omega)).1 h0 h1 h2
theorem mf_zero {t : Int} (h0 : 0 ≤ t) (h1 : t ≤ 100000) : mf t 0 = t := by
  rw [mf_yes (by omega)]; exact zero_months (dt_is h0 h1)
/-- The first of the due days. -/
theorem mf_one {t : Int} (h : mf t 1 ≠ -1) : 0 ≤ t ∧ t < mf t 1 ∧ mf t 1 ≤ t + 31 := by
  by_cases k : t < 0 ∨ 100000 < t
  · exact absurd (mf_no (by omega)) h
  · have z := mf_zero (t := t) (by omega) (by omega)
    have := mf_step (t := t) (n := 0) (Int.le_refl _) (by rw [z]; omega) h
    rw [z] at this
    simp only [Int.zero_add] at this
    omega
def Dz (d n : Int) : Prop := 1 ≤ n ∧ n ≤ 24 ∧ ∀ i : Nat, (i : Int) < n → mf d ((i : Int) + 1) ≠ -1
open Classical in
/-- The due days. -/
noncomputable def dz (d n : Int) : List Int := if Dz d n then due.pre (mf d) n.toNat else []
theorem dz_zs (d n : Int) : due.Zs (mf d) n (dz d n) := by
  unfold dz
  by_cases h : Dz d n
  · rw [if_pos h]; exact .inr ⟨h.1, h.2.1, h.2.2, rfl⟩
  · rw [if_neg h]
    refine .inl ⟨?_, rfl⟩
    by_cases h1 : n < 1
    · exact .inl h1
    · by_cases h2 : 24 < n
      · exact .inr (.inl h2)
      · refine .inr (.inr (Classical.byContradiction fun c => h ⟨by omega, by omega, fun i hi e => c ⟨i, hi, e⟩⟩))
theorem dz_len (d n : Int) : (dz d n).length ≤ 24 := by
  unfold dz
  by_cases h : Dz d n
  · rw [if_pos h, due.pre_len]; have := h.1; have := h.2.1; omega
  · rw [if_neg h]; simp
theorem dz_pos {d n : Int} (h : 0 < (dz d n).length) : Dz d n := by
  unfold dz at h
  by_cases k : Dz d n
  · exact k
  · rw [if_neg k] at h; simp at h
theorem dz_yes {d n : Int} (h : Dz d n) : (dz d n).length = n.toNat ∧ ∀ i, i < n.toNat → (dz d n).getD i 0 = mf d ((i : Int) + 1) := by
  unfold dz
  rw [if_pos h, due.pre_len]
  refine ⟨rfl, fun i hi => ?_⟩
  unfold due.pre
  rw [List.getD_eq_getElem?_getD, List.getElem?_map, List.getElem?_range hi]; rfl
theorem dz_up {d n : Int} (h : Dz d n) (i : Nat) (hi : i + 1 < n.toNat) : mf d ((i : Int) + 1) < mf d (((i + 1 : Nat) : Int) + 1) := by
  have a := h.2.2 i (by omega)
  have b := h.2.2 (i + 1) (by omega)
  have e : ((i + 1 : Nat) : Int) = (i : Int) + 1 := by omega
  rw [e] at b ⊢
  exact (mf_step (by omega) a b).1
/-- A list of numbers, in memory of its own. -/
def GotD (w : World) (zs : List Int) (e : Ending) (w' : World) : Prop := ∃ a cap g, e = .returned (.slice a zs.length cap) ∧ rows.Row w' a cap g zs ∧ (0 < zs.length → w.heap.size ≤ g ∧ g < w'.heap.size) ∧ Below w.heap.size w w'
theorem dueS (d n : Int) (w : World) : Calls Tryd.prog 21 #[.int .i64 d, .int .i64 n] w (GotD w (dz d n)) := by
  refine (due.spec d n (mf d) w (monS d) (fun n => (mf_bd d n).1) (base.mon w)).mono ?_
  rintro e w' ⟨v, zs, rfl, hz, ho, hb⟩
  obtain rfl := due.zs_fun hz (dz_zs d n)
  obtain ⟨a, cap, g, rfl, hr, hg⟩ := rows.of_owns ho
  exact ⟨a, cap, g, rfl, hr, hg, hb⟩
end Go.Proofs.YtchpjojndkkmeaaDoor.mf
