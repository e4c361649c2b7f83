/-
  Plain helpers of this seat's proofs: contracts of the model's functions on dates. Conditions: none.
-/
import Derived.Test.YtmnmijiikjpdnaaRows
import Derived.Test.YtmnmijiikjpdnaaLift
import Derived.Test.YtmnmijiikjpdnaaCal
namespace Go.Proofs.Ytmnmijiikjpdnaa.base
open Go.ChangeShapes Go.WideShapes Go.ChangeAt Go.RowKit
/-- Nothing is asked of the memory. -/
structure Mon (_w : World) : Prop where
  lt : True
theorem Mon.below {B : Nat} {w w' : World} (_c : Mon w) (_hb : Below B w w') (_hB : True) : Mon w' := ⟨trivial⟩
theorem mon (w : World) : Mon w := ⟨trivial⟩
theorem tm {a k n : Int} (hk : k ∣ n) (h : ¬ a.tmod k = 0) : ¬ a.tmod n = 0 := fun e =>
  h (Int.tmod_eq_zero_of_dvd (Int.dvd_trans hk (Int.dvd_of_tmod_eq_zero e)))
theorem ret_bool {a b : Bool} (h : a = b) : Ending.returned (.bool a) = .returned (.bool b) := by rw [h]
theorem ret_int {a b : Int} (h : a = b) : Ending.returned (.int .i64 a) = .returned (.int .i64 b) := by rw [h]
theorem leap_cases (y : Int) : (∃ _h : cal.lpB y = true, (y.tmod 4 = 0 ∧ y.tmod 100 = 0 ∧ y.tmod 400 = 0) ∨ (y.tmod 4 = 0 ∧ ¬ y.tmod 100 = 0 ∧ ¬ y.tmod 400 = 0)) ∨
    (∃ _h : cal.lpB y = false, (y.tmod 4 = 0 ∧ y.tmod 100 = 0 ∧ ¬ y.tmod 400 = 0) ∨ (¬ y.tmod 4 = 0 ∧ ¬ y.tmod 100 = 0 ∧ ¬ y.tmod 400 = 0)) := by
  by_cases h4 : y.tmod 4 = 0
  · by_cases h100 : y.tmod 100 = 0
    · by_cases h400 : y.tmod 400 = 0
      · left; exact ⟨by simp [cal.lpB, h4, h100, h400], .inl ⟨h4, h100, h400⟩⟩
      · right; exact ⟨by simp [cal.lpB, h4, h100, h400], .inl ⟨h4, h100, h400⟩⟩
    · have h400 : ¬ y.tmod 400 = 0 := tm (by omega) h100
      left; exact ⟨by simp [cal.lpB, h4, h100, h400], .inr ⟨h4, h100, h400⟩⟩
  · have h100 : ¬ y.tmod 100 = 0 := tm (by omega) h4
    have h400 : ¬ y.tmod 400 = 0 := tm (by omega) h4
    right; exact ⟨by simp [cal.lpB, h4, h100, h400], .inr ⟨h4, h100, h400⟩⟩
theorem leap_spec (y : Int) (w : World) : Calls Try.prog 84 #[.int .i64 y] w fun e w' => e = .returned (.bool (cal.lpB y)) ∧ w = w' := by
  rcases leap_cases y with ⟨hr, ⟨h4, h100, h400⟩ | ⟨h4, h100, h400⟩⟩ | ⟨hr, ⟨h4, h100, h400⟩ | ⟨h4, h100, h400⟩⟩
  · have b4 : (y.tmod 4 == 0) = true := by simp [h4]
    have b100 : (y.tmod 100 == 0) = true := by simp [h100]
    have c100 : (y.tmod 100 != 0) = false := by simp [h100]
    have b400 : (y.tmod 400 == 0) = true := by simp [h400]
    have HR := Lib.hid hr
    clear h4 h100 h400 hr
    go_enter Try.func84, Try.ntmps84
    go_wp2
    go_ret
    exact ⟨ret_bool HR.out.symm, rfl⟩
  · have b4 : (y.tmod 4 == 0) = true := by simp [h4]
    have b100 : (y.tmod 100 == 0) = false := by simp [h100]
    have c100 : (y.tmod 100 != 0) = true := by simp [h100]
    have b400 : (y.tmod 400 == 0) = false := by simp [h400]
    have HR := Lib.hid hr
    clear h4 h100 h400 hr
    go_enter Try.func84, Try.ntmps84
    go_wp2
    go_ret
    exact ⟨ret_bool HR.out.symm, rfl⟩
  · have b4 : (y.tmod 4 == 0) = true := by simp [h4]
    have b100 : (y.tmod 100 == 0) = true := by simp [h100]
    have c100 : (y.tmod 100 != 0) = false := by simp [h100]
    have b400 : (y.tmod 400 == 0) = false := by simp [h400]
    have HR := Lib.hid hr
    clear h4 h100 h400 hr
    go_enter Try.func84, Try.ntmps84
    go_wp2
    go_ret
    exact ⟨ret_bool HR.out.symm, rfl⟩
  · have b4 : (y.tmod 4 == 0) = false := by simp [h4]
    have b100 : (y.tmod 100 == 0) = false := by simp [h100]
    have c100 : (y.tmod 100 != 0) = true := by simp [h100]
    have b400 : (y.tmod 400 == 0) = false := by simp [h400]
    have HR := Lib.hid hr
    clear h4 h100 h400 hr
    go_enter Try.func84, Try.ntmps84
    go_wp2
    go_ret
    exact ⟨ret_bool HR.out.symm, rfl⟩
theorem mlen_other (y m : Int) (h : m ≠ 2) : cal.mlen y m = if m = 4 ∨ m = 6 ∨ m = 9 ∨ m = 11 then 30 else 31 := by unfold cal.mlen; rw [if_neg h]
theorem mlen_leap (y : Int) (h : cal.lpB y = true) : cal.mlen y 2 = 29 := by unfold cal.mlen cal.lp; rw [if_pos rfl, if_pos h]; rfl
theorem mlen_no (y : Int) (h : cal.lpB y = false) : cal.mlen y 2 = 28 := by unfold cal.mlen cal.lp; rw [if_pos rfl, if_neg (by simp [h])]; rfl
theorem mlen_spec_2t (y : Int) (w : World) (_c : Mon w) (hl : cal.lpB y = true) : Calls Try.prog 82 #[.int .i64 y, .int .i64 2] w fun e w' => e = .returned (.int .i64 (cal.mlen y 2)) ∧ Below w.heap.size w w' := by
  rw [mlen_leap y hl]
  have hc : Calls Try.prog 84 #[.int .i64 y] w fun e w' => e = .returned (.bool true) ∧ w = w' := by have := leap_spec y w; rw [hl] at this; exact this
  have HC := Lib.hid hc
  clear hl hc
  go_enter Try.func82, Try.ntmps82
  go_wp2_with fail
  refine HC.out.mono ?_
  rintro e w' ⟨rfl, rfl⟩
  go_wp2
  go_ret
  exact ⟨rfl, Below.refl _ _⟩
theorem mlen_spec_2f (y : Int) (w : World) (_c : Mon w) (hl : cal.lpB y = false) : Calls Try.prog 82 #[.int .i64 y, .int .i64 2] w fun e w' => e = .returned (.int .i64 (cal.mlen y 2)) ∧ Below w.heap.size w w' := by
  rw [mlen_no y hl]
  have hc : Calls Try.prog 84 #[.int .i64 y] w fun e w' => e = .returned (.bool false) ∧ w = w' := by have := leap_spec y w; rw [hl] at this; exact this
  have HC := Lib.hid hc
  clear hl hc
  go_enter Try.func82, Try.ntmps82
  go_wp2_with fail
  refine HC.out.mono ?_
  rintro e w' ⟨rfl, rfl⟩
  go_wp2
  go_ret
  exact ⟨rfl, (Below.refl _ _).alloc (Nat.le_refl _) _⟩
set_option maxHeartbeats 1000000 in
theorem mlen_spec (y m : Int) (w : World) (c : Mon w) (h1 : 1 ≤ m) (h2 : m ≤ 12) : Calls Try.prog 82 #[.int .i64 y, .int .i64 m] w fun e w' => e = .returned (.int .i64 (cal.mlen y m)) ∧ Below w.heap.size w w' := by
  by_cases e2 : m = 2
  · subst e2
    cases hl : cal.lpB y with
    | true => exact mlen_spec_2t y w c hl
    | false => exact mlen_spec_2f y w c hl
  · rw [mlen_other y m e2]
    obtain rfl | rfl | rfl | rfl | rfl | rfl | rfl | rfl | rfl | rfl | rfl : m = 1 ∨ m = 3 ∨ m = 4 ∨ m = 5 ∨ m = 6 ∨ m = 7 ∨ m = 8 ∨ m = 9 ∨ m = 10 ∨ m = 11 ∨ m = 12 := by omega
    all_goals
      clear e2 h1 h2
      go_enter Try.func82, Try.ntmps82
      go_wp2
      go_ret
      exact ⟨rfl, (Below.refl _ _).alloc (Nat.le_refl _) _⟩
theorem ylen_spec (y : Int) (w : World) : Calls Try.prog 83 #[.int .i64 y] w fun e w' => e = .returned (.int .i64 (365 + cal.lp y)) ∧ w = w' := by
  cases hl : cal.lpB y with
  | true =>
    have hp : cal.lp y = 1 := by unfold cal.lp; rw [if_pos hl]
    rw [hp]
    have hc := leap_spec y w
    rw [hl] at hc
    have HC := Lib.hid hc
    clear hl hc hp
    go_enter Try.func83, Try.ntmps83
    go_wp2_with fail
    refine HC.out.mono ?_
    rintro e w' ⟨rfl, rfl⟩
    go_wp2
    go_ret
    exact ⟨rfl, rfl⟩
  | false =>
    have hp : cal.lp y = 0 := by unfold cal.lp; rw [if_neg (by simp [hl])]
    rw [hp]
    have hc := leap_spec y w
    rw [hl] at hc
    have HC := Lib.hid hc
    clear hl hc hp
    go_enter Try.func83, Try.ntmps83
    go_wp2_with fail
    refine HC.out.mono ?_
    rintro e w' ⟨rfl, rfl⟩
    go_wp2
    go_ret
    exact ⟨rfl, rfl⟩
end Go.Proofs.Ytmnmijiikjpdnaa.base
namespace Go.Proofs.Ytmnmijiikjpdnaa.dayOf
open Go.ChangeShapes Go.WideShapes Go.ChangeAt Go.RowKit
theorem ret_ib {a b : Int} {t u : Bool} (h : a = b) (h' : t = u) : Ending.returned (.tuple #[.int .i64 a, .bool t]) = .returned (.tuple #[.int .i64 b, .bool u]) := by rw [h, h']
def dayR (y m d : Int) : Int := if cal.dayN y m d ≤ 100000 then cal.dayN y m d else 0
def dayB (y m d : Int) : Bool := decide (cal.dayN y m d ≤ 100000)
/-- What DayOf answers, at every argument. -/
def val (y m d : Int) : Int := if 1970 ≤ y ∧ y ≤ 2243 ∧ 1 ≤ m ∧ m ≤ 12 ∧ 1 ≤ d ∧ d ≤ cal.mlen y m ∧ cal.dayN y m d ≤ 100000 then cal.dayN y m d else 0
def ok (y m d : Int) : Bool := decide (1970 ≤ y ∧ y ≤ 2243 ∧ 1 ≤ m ∧ m ≤ 12 ∧ 1 ≤ d ∧ d ≤ cal.mlen y m ∧ cal.dayN y m d ≤ 100000)
theorem no_of {y m d : Int} (h : ¬ (1970 ≤ y ∧ y ≤ 2243 ∧ 1 ≤ m ∧ m ≤ 12 ∧ 1 ≤ d ∧ d ≤ cal.mlen y m ∧ cal.dayN y m d ≤ 100000)) : val y m d = 0 ∧ ok y m d = false := ⟨if_neg h, by unfold ok; simp [h]⟩
theorem in_of {y m d : Int} (h1 : 1970 ≤ y) (h2 : y ≤ 2243) (h3 : 1 ≤ m) (h4 : m ≤ 12) (h5 : 1 ≤ d) (h6 : d ≤ cal.mlen y m) : val y m d = dayR y m d ∧ ok y m d = dayB y m d := by
  unfold val ok dayR dayB
  by_cases q : cal.dayN y m d ≤ 100000
  · rw [if_pos ⟨h1, h2, h3, h4, h5, h6, q⟩, if_pos q]; simp [h1, h2, h3, h4, h5, h6, q]
  · rw [if_neg (fun e => q e.2.2.2.2.2.2), if_neg q]; simp [q]
theorem inT (n lo hi : Int) (w : World) (h1 : lo ≤ n) (h2 : n ≤ hi) : Calls Try.prog 58 #[.int .i64 n, .int .i64 lo, .int .i64 hi] w fun e w' => e = .returned (.bool true) ∧ w = w' := by
  have t1 : decide (lo ≤ n) = true := by simp; omega
  have t2 : decide (n ≤ hi) = true := by simp; omega
  go_enter Try.func58, Try.ntmps58
  go_wp2
  go_ret
  exact ⟨rfl, rfl⟩
theorem inF (n lo hi : Int) (w : World) (h : n < lo ∨ hi < n) : Calls Try.prog 58 #[.int .i64 n, .int .i64 lo, .int .i64 hi] w fun e w' => e = .returned (.bool false) ∧ w = w' := by
  by_cases h1 : n < lo
  · have t1 : decide (lo ≤ n) = false := by simp; omega
    clear h
    go_enter Try.func58, Try.ntmps58
    go_wp2
    go_ret
    exact ⟨rfl, rfl⟩
  · have t1 : decide (lo ≤ n) = true := by simp; omega
    have t2 : decide (n ≤ hi) = false := by simp; omega
    clear h
    go_enter Try.func58, Try.ntmps58
    go_wp2
    go_ret
    exact ⟨rfl, rfl⟩
theorem spec_form (y m d : Int) (w : World) (h : y < 1970 ∨ 2300 < y ∨ m < 1 ∨ 12 < m) : Calls Try.prog 81 #[.int .i64 y, .int .i64 m, .int .i64 d] w fun e w' => e = .returned (.tuple #[.int .i64 0, .bool false]) ∧ w = w' := by
  by_cases h1 : y < 1970
  · clear h
    have t1 : decide (1970 ≤ y) = false := by simp; omega
    go_enter Try.func81, Try.ntmps81
    go_wp2
    go_ret2
    exact ⟨rfl, rfl⟩
  · have t1 : decide (1970 ≤ y) = true := by simp; omega
    by_cases h2 : 2300 < y
    · clear h
      have t2 : decide (y ≤ 2300) = false := by simp; omega
      go_enter Try.func81, Try.ntmps81
      go_wp2
      go_ret2
      exact ⟨rfl, rfl⟩
    · have t2 : decide (y ≤ 2300) = true := by simp; omega
      by_cases h3 : m < 1
      · clear h
        have t3 : decide (1 ≤ m) = false := by simp; omega
        go_enter Try.func81, Try.ntmps81
        go_wp2
        go_ret2
        exact ⟨rfl, rfl⟩
      · have h4 : 12 < m := by omega
        have t3 : decide (1 ≤ m) = true := by simp; omega
        have t4 : decide (m ≤ 12) = false := by simp; omega
        clear h
        go_enter Try.func81, Try.ntmps81
        go_wp2
        go_ret2
        exact ⟨rfl, rfl⟩
theorem spec_d (y m d : Int) (w : World) (c : base.Mon w) (h1 : 1970 ≤ y) (h2 : y ≤ 2300) (h3 : 1 ≤ m) (h4 : m ≤ 12) (h : d < 1 ∨ cal.mlen y m < d) : Calls Try.prog 81 #[.int .i64 y, .int .i64 m, .int .i64 d] w fun e w' => e = .returned (.tuple #[.int .i64 0, .bool false]) ∧ Below w.heap.size w w' := by
  have C := Lib.hid c
  clear c
  have t1 : decide (1970 ≤ y) = true := by simp; omega
  have t2 : decide (y ≤ 2300) = true := by simp; omega
  have t3 : decide (1 ≤ m) = true := by simp; omega
  have t4 : decide (m ≤ 12) = true := by simp; omega
  by_cases h5 : d < 1
  · have t5 : decide (1 ≤ d) = false := by simp; omega
    clear h
    go_enter Try.func81, Try.ntmps81
    go_wp2_with fail
    refine (inT y 1970 2300 w (by omega) (by omega)).mono ?_
    rintro e w' ⟨rfl, rfl⟩
    go_wp2_with fail
    refine (inT m 1 12 w (by omega) (by omega)).mono ?_
    rintro e w' ⟨rfl, rfl⟩
    go_wp2_with fail
    refine (base.mlen_spec y m w C.out h3 h4).mono ?_
    rintro e w1 ⟨rfl, hb⟩
    go_wp2_with fail
    refine (inF d 1 (cal.mlen y m) w1 (by omega)).mono ?_
    rintro e w' ⟨rfl, rfl⟩
    go_wp2
    go_ret2
    exact ⟨rfl, hb⟩
  · have t5 : decide (1 ≤ d) = true := by simp; omega
    have h6 : cal.mlen y m < d := by omega
    have t6 : decide (d ≤ cal.mlen y m) = false := by simp; omega
    clear h
    go_enter Try.func81, Try.ntmps81
    go_wp2_with fail
    refine (inT y 1970 2300 w (by omega) (by omega)).mono ?_
    rintro e w' ⟨rfl, rfl⟩
    go_wp2_with fail
    refine (inT m 1 12 w (by omega) (by omega)).mono ?_
    rintro e w' ⟨rfl, rfl⟩
    go_wp2_with fail
    refine (base.mlen_spec y m w C.out h3 h4).mono ?_
    rintro e w1 ⟨rfl, hb⟩
    go_wp2_with fail
    refine (inF d 1 (cal.mlen y m) w1 (by omega)).mono ?_
    rintro e w' ⟨rfl, rfl⟩
    go_wp2
    go_ret2
    exact ⟨rfl, hb⟩
set_option maxHeartbeats 1000000 in
theorem spec_in (y m d : Int) (w : World) (c : base.Mon w) (h1 : 1970 ≤ y) (h2 : y ≤ 2300) (h3 : 1 ≤ m) (h4 : m ≤ 12) (h5 : 1 ≤ d) (h6 : d ≤ cal.mlen y m) :
    Calls Try.prog 81 #[.int .i64 y, .int .i64 m, .int .i64 d] w fun e w' => e = .returned (.tuple #[.int .i64 (dayR y m d), .bool (dayB y m d)]) ∧ Below w.heap.size w w' := by
  have lt := c.lt
  have C := Lib.hid c
  clear c
  obtain ⟨m1, m2⟩ := cal.mlen_bd y m
  obtain ⟨n1, n2⟩ := cal.NY_bd y (by omega) (by omega)
  obtain ⟨c1, c2⟩ := cal.cum_bd y m (by omega) (by omega)
  have n0 := cal.NY_mono 1970 y (by omega) h1
  rw [cal.NY_1970] at n0
  have fin : (d - 1 + cal.NY y + cal.cum y m ≤ 100000 ∧ dayR y m d = d - 1 + cal.NY y + cal.cum y m ∧ dayB y m d = true) ∨ (100000 < d - 1 + cal.NY y + cal.cum y m ∧ dayR y m d = 0 ∧ dayB y m d = false) := by
    have e : cal.dayN y m d = d - 1 + cal.NY y + cal.cum y m := by unfold cal.dayN; omega
    unfold dayR dayB
    rw [e]
    by_cases q : d - 1 + cal.NY y + cal.cum y m ≤ 100000
    · left; exact ⟨q, if_pos q, by simp [q]⟩
    · right; exact ⟨by omega, if_neg q, by simp [q]⟩
  have FIN := Lib.hid fin
  clear fin
  have t1 : decide (1970 ≤ y) = true := by simp; omega
  have t2 : decide (y ≤ 2300) = true := by simp; omega
  have t3 : decide (1 ≤ m) = true := by simp; omega
  have t4 : decide (m ≤ 12) = true := by simp; omega
  have t5 : decide (1 ≤ d) = true := by simp; omega
  have t6 : decide (d ≤ cal.mlen y m) = true := by simp; omega
  go_enter Try.func81, Try.ntmps81
  go_wp2_with fail
  refine (inT y 1970 2300 w (by omega) (by omega)).mono ?_
  rintro e w' ⟨rfl, rfl⟩
  go_wp2_with fail
  refine (inT m 1 12 w (by omega) (by omega)).mono ?_
  rintro e w' ⟨rfl, rfl⟩
  go_wp2_with fail
  refine (base.mlen_spec y m w C.out h3 h4).mono ?_
  rintro e w1 ⟨rfl, hb⟩
  go_wp2_with fail
  refine (inT d 1 (cal.mlen y m) w1 (by omega) (by omega)).mono ?_
  rintro e w' ⟨rfl, rfl⟩
  go_wp2
  go_loop [8, 9] (fun n i => ∃ k : Int, 1970 ≤ k ∧ k ≤ y ∧ i = .int .i64 k ∧ n = .int .i64 (d - 1 + cal.NY k)) (fun _ i => (y - intOf i).toNat)
  case atStart => exact ⟨1970, by omega, by omega, rfl, by simp [cal.NY_1970]⟩
  case round =>
    obtain ⟨k, k1, k2, rfl, rfl⟩ := hrel
    obtain ⟨e1, e2⟩ := cal.lp_01 k
    obtain ⟨f1, f2⟩ := cal.NY_bd k (by omega) (by omega)
    by_cases hlt : k < y
    · have HS := Lib.hid (cal.NY_succ k (by omega))
      go_wp2_with fail
      refine (base.ylen_spec k w1).mono ?_
      rintro e w' ⟨rfl, rfl⟩
      go_wp2
      go_round
      case rel => exact ⟨k + 1, by omega, by omega, rfl, by rw [HS.out]; go_num⟩
      case measure => simp [intOf]; omega
    · obtain rfl : k = y := by omega
      clear k1 k2 e1 e2 f1 f2
      go_wp2
      go_loopw [8, 10] (fun n i wr => Below w.heap.size w wr ∧ ∃ q : Int, 1 ≤ q ∧ q ≤ m ∧ i = .int .i64 q ∧ n = .int .i64 (d - 1 + cal.NY k + cal.cum k q)) (fun _ i _ => (m - intOf i).toNat)
      case atStart => exact ⟨hb, 1, by omega, by omega, rfl, by simp [cal.cum_1]⟩
      case round =>
        obtain ⟨hB, q, k1, k2, rfl, rfl⟩ := hrel
        obtain ⟨e1, e2⟩ := cal.mlen_bd k q
        obtain ⟨f1, f2⟩ := cal.cum_bd k q (by omega) (by omega)
        by_cases hlt : q < m
        · have HS := Lib.hid (cal.cum_succ k q (by omega) (by omega))
          go_wp2_with fail
          refine (base.mlen_spec k q _ (C.out.below hB lt) k1 (by omega)).mono ?_
          rintro e w' ⟨rfl, hb2⟩
          go_wp2
          go_roundw
          case rel => exact ⟨hB.trans (hb2.mono hB.size), q + 1, by omega, by omega, rfl, by rw [HS.out]; go_num⟩
          case measure => simp [intOf]; omega
        · obtain rfl : q = m := by omega
          rcases FIN.out with ⟨z, e, e'⟩ | ⟨z, e, e'⟩
          · have HE := Lib.hid e; have HE' := Lib.hid e'; clear e e'
            have q0 : decide (0 ≤ d - 1 + cal.NY k + cal.cum k q) = true := by simp; omega
            have q1 : decide (d - 1 + cal.NY k + cal.cum k q ≤ 100000) = true := by simp; omega
            go_wp2
            go_ret2
            exact ⟨ret_ib HE.out.symm HE'.out.symm, hB⟩
          · have HE := Lib.hid e; have HE' := Lib.hid e'; clear e e'
            have q0 : decide (0 ≤ d - 1 + cal.NY k + cal.cum k q) = true := by simp; omega
            have q1 : decide (d - 1 + cal.NY k + cal.cum k q ≤ 100000) = false := by simp; omega
            go_wp2
            go_ret2
            exact ⟨ret_ib HE.out.symm HE'.out.symm, hB⟩
theorem far {y m d : Int} (h2 : 2243 < y) (h3 : 1 ≤ m) (h4 : m ≤ 12) (h5 : 1 ≤ d) : 100000 < cal.dayN y m d := by
  have a := cal.NY_mono 2244 y (by omega) (by omega)
  rw [cal.NY_2244] at a
  obtain ⟨c1, c2⟩ := cal.cum_bd y m (by omega) (by omega)
  unfold cal.dayN; omega
theorem spec (y m d : Int) (w : World) (c : base.Mon w) : Calls Try.prog 81 #[.int .i64 y, .int .i64 m, .int .i64 d] w fun e w' => e = .returned (.tuple #[.int .i64 (val y m d), .bool (ok y m d)]) ∧ Below w.heap.size w w' := by
  by_cases hf : y < 1970 ∨ 2300 < y ∨ m < 1 ∨ 12 < m
  · obtain ⟨e1, e2⟩ := no_of (y := y) (m := m) (d := d) (by omega)
    rw [e1, e2]; exact (spec_form y m d w hf).mono fun e w' ⟨h1, h2⟩ => ⟨h1, h2 ▸ Below.refl _ _⟩
  · by_cases hd : d < 1 ∨ cal.mlen y m < d
    · obtain ⟨e1, e2⟩ := no_of (y := y) (m := m) (d := d) (by omega)
      rw [e1, e2]; exact spec_d y m d w c (by omega) (by omega) (by omega) (by omega) hd
    · have hin := spec_in y m d w c (by omega) (by omega) (by omega) (by omega) (by omega) (by omega)
      by_cases h43 : 2243 < y
      · obtain ⟨e1, e2⟩ := no_of (y := y) (m := m) (d := d) (by omega)
        have hf := far (d := d) h43 (show 1 ≤ m by omega) (by omega) (by omega)
        have e3 : dayR y m d = 0 := if_neg (by omega)
        have e4 : dayB y m d = false := by unfold dayB; simp; omega
        rw [e3, e4] at hin
        rw [e1, e2]; exact hin
      · obtain ⟨e1, e2⟩ := in_of (y := y) (m := m) (d := d) (by omega) (by omega) (by omega) (by omega) (by omega) (by omega)
        rw [e1, e2]; exact hin
end Go.Proofs.Ytmnmijiikjpdnaa.dayOf
namespace Go.Proofs.Ytmnmijiikjpdnaa.dateOf
open Go.ChangeShapes Go.WideShapes Go.ChangeAt Go.RowKit
theorem ret_3 {a b c a' b' c' : Int} (h : a = a') (h' : b = b') (h'' : c = c') : Ending.returned (.tuple #[.int .i64 a, .int .i64 b, .int .i64 c]) = .returned (.tuple #[.int .i64 a', .int .i64 b', .int .i64 c']) := by rw [h, h', h'']
theorem spec_no (n : Int) (w : World) (h : n < 0 ∨ 100000 < n) : Calls Try.prog 80 #[.int .i64 n] w fun e w' => e = .returned (.tuple #[.int .i64 0, .int .i64 0, .int .i64 0]) ∧ w = w' := by
  by_cases h1 : n < 0
  · have t1 : decide (0 ≤ n) = false := by simp; omega
    clear h
    go_enter Try.func80, Try.ntmps80
    go_wp2
    go_ret3
    exact ⟨rfl, rfl⟩
  · have t1 : decide (0 ≤ n) = true := by simp; omega
    have t2 : decide (n ≤ 100000) = false := by simp; omega
    clear h
    go_enter Try.func80, Try.ntmps80
    go_wp2
    go_ret3
    exact ⟨rfl, rfl⟩
theorem l2DayT (n : Int) (w : World) (h1 : 0 ≤ n) (h2 : n ≤ 100000) : Calls Try.prog 49 #[.int .i64 n] w fun e w' => e = .returned (.bool true) ∧ w = w' := by
  have t1 : decide (0 ≤ n) = true := by simp; omega
  have t2 : decide (n ≤ 100000) = true := by simp; omega
  go_enter Try.func49, Try.ntmps49
  go_wp2
  go_ret
  exact ⟨rfl, rfl⟩
set_option maxHeartbeats 1000000 in
theorem spec (n y m d : Int) (w : World) (c : base.Mon w) (hd : cal.isDate n y m d) : Calls Try.prog 80 #[.int .i64 n] w fun e w' => e = .returned (.tuple #[.int .i64 y, .int .i64 m, .int .i64 d]) ∧ Below w.heap.size w w' := by
  have lt := c.lt
  have C := Lib.hid c
  clear c
  obtain ⟨o, hn⟩ := hd
  have z0 := cal.day_nonneg o
  have z1 := cal.in_year o
  have z2 := cal.in_month o
  have hdd : d = n - cal.NY y - cal.cum y m + 1 := by unfold cal.dayN at hn; omega
  have HD := Lib.hid hdd
  rw [hn] at z0 z1 z2
  obtain ⟨h1, h2, h3, h4, h5, h6, h7⟩ := o
  rw [hn] at h7
  clear hn hdd
  obtain ⟨z1, z3⟩ := z1
  obtain ⟨z2, z4⟩ := z2
  have t1 : decide (0 ≤ n) = true := by simp; omega
  have t2 : decide (n ≤ 100000) = true := by simp; omega
  obtain ⟨n1, n2⟩ := cal.NY_bd y (by omega) (by omega)
  go_enter Try.func80, Try.ntmps80
  go_wp2_with fail
  refine (l2DayT n w (by omega) (by omega)).mono ?_
  rintro e w' ⟨rfl, rfl⟩
  go_wp2
  go_loop [0, 5] (fun r i => ∃ k : Int, 1970 ≤ k ∧ k ≤ y ∧ i = .int .i64 k ∧ r = .int .i64 (n - cal.NY k)) (fun _ i => (y - intOf i).toNat)
  case atStart => exact ⟨1970, by omega, by omega, rfl, by simp [cal.NY_1970]⟩
  case round =>
    obtain ⟨k, k1, k2, rfl, rfl⟩ := hrel
    obtain ⟨f1, f2⟩ := cal.NY_bd k (by omega) (by omega)
    obtain ⟨l1, l2⟩ := cal.lp_01 k
    have hs := cal.NY_succ k (by omega)
    by_cases hlt : k < y
    · have hm := cal.NY_lt k y (by omega) hlt
      have hz : 365 + cal.lp k ≤ n - cal.NY k := by omega
      have t3 : decide (365 + cal.lp k ≤ n - cal.NY k) = true := by simp; omega
      have HS := Lib.hid hs
      clear hs hm
      go_wp2_with fail
      refine (base.ylen_spec k w).mono ?_
      rintro e w' ⟨rfl, rfl⟩
      go_wp2_with fail
      refine (base.ylen_spec k w).mono ?_
      rintro e w' ⟨rfl, rfl⟩
      go_wp2
      go_round
      case rel => exact ⟨k + 1, by omega, by omega, rfl, by rw [HS.out]; go_num⟩
      case measure => simp [intOf]; omega
    · obtain rfl : k = y := by omega
      have hz : n - cal.NY k < 365 + cal.lp k := by omega
      have t3 : decide (365 + cal.lp k ≤ n - cal.NY k) = false := by simp; omega
      clear hs
      go_wp2_with fail
      refine (base.ylen_spec k w).mono ?_
      rintro e w' ⟨rfl, rfl⟩
      go_wp2
      go_loopw [0, 6] (fun r i wr => Below w.heap.size w wr ∧ ∃ q : Int, 1 ≤ q ∧ q ≤ m ∧ i = .int .i64 q ∧ r = .int .i64 (n - cal.NY k - cal.cum k q)) (fun _ i _ => (m - intOf i).toNat)
      case atStart => exact ⟨Below.refl _ _, 1, by omega, by omega, rfl, by simp [cal.cum_1]⟩
      case round =>
        obtain ⟨hB, q, q1, q2, rfl, rfl⟩ := hrel
        obtain ⟨e1, e2⟩ := cal.mlen_bd k q
        obtain ⟨g1, g2⟩ := cal.cum_bd k q (by omega) (by omega)
        have hs := cal.cum_succ k q (by omega) (by omega)
        by_cases hq : q < m
        · have hm := cal.cum_mono k (q + 1) m (by omega) (by omega) (by omega)
          have hz : cal.mlen k q ≤ n - cal.NY k - cal.cum k q := by omega
          have t4 : decide (cal.mlen k q ≤ n - cal.NY k - cal.cum k q) = true := by simp; omega
          have HS := Lib.hid hs
          clear hs hm
          go_wp2_with fail
          refine (base.mlen_spec k q _ (C.out.below hB lt) q1 (by omega)).mono ?_
          rintro e w1 ⟨rfl, hb1⟩
          have hB1 := hB.trans (hb1.mono hB.size)
          go_wp2_with fail
          refine (base.mlen_spec k q w1 (C.out.below hB1 lt) q1 (by omega)).mono ?_
          rintro e w2 ⟨rfl, hb2⟩
          go_wp2
          go_roundw
          case rel => exact ⟨hB1.trans (hb2.mono hB1.size), q + 1, by omega, by omega, rfl, by rw [HS.out]; go_num⟩
          case measure => simp [intOf]; omega
        · obtain rfl : q = m := by omega
          have hz : n - cal.NY k - cal.cum k q < cal.mlen k q := by omega
          have t4 : decide (cal.mlen k q ≤ n - cal.NY k - cal.cum k q) = false := by simp; omega
          clear hs
          go_wp2_with fail
          refine (base.mlen_spec k q _ (C.out.below hB lt) q1 (by omega)).mono ?_
          rintro e w1 ⟨rfl, hb1⟩
          go_wp2
          go_ret3
          exact ⟨ret_3 rfl rfl HD.out.symm, hB.trans (hb1.mono hB.size)⟩
end Go.Proofs.Ytmnmijiikjpdnaa.dateOf
namespace Go.Proofs.Ytmnmijiikjpdnaa.monthsOn
open Go.ChangeShapes Go.WideShapes Go.ChangeAt Go.RowKit
/-- The day of the month, so many months later. -/
def dd (y m d n : Int) : Int := if d ≤ cal.mlen (y + (m - 1 + n) / 12) ((m - 1 + n) % 12 + 1) then d else cal.mlen (y + (m - 1 + n) / 12) ((m - 1 + n) % 12 + 1)
/-- What MonthsOn answers of a day with this date. -/
def res (y m d n : Int) : Int := if dayOf.ok (y + (m - 1 + n) / 12) ((m - 1 + n) % 12 + 1) (dd y m d n) = true then dayOf.val (y + (m - 1 + n) / 12) ((m - 1 + n) % 12 + 1) (dd y m d n) else -1
theorem spec_no (t n : Int) (w : World) (h : t < 0 ∨ 100000 < t ∨ n < 0 ∨ 600 < n) : Calls Try.prog 77 #[.int .i64 t, .int .i64 n] w fun e w' => e = .returned (.int .i64 (-1)) ∧ w = w' := by
  by_cases h1 : t < 0
  · have t1 : decide (0 ≤ t) = false := by simp; omega
    clear h
    go_enter Try.func77, Try.ntmps77
    go_wp2
    go_ret
    exact ⟨rfl, rfl⟩
  · have t1 : decide (0 ≤ t) = true := by simp; omega
    by_cases h2 : 100000 < t
    · have t2 : decide (t ≤ 100000) = false := by simp; omega
      clear h
      go_enter Try.func77, Try.ntmps77
      go_wp2
      go_ret
      exact ⟨rfl, rfl⟩
    · have t2 : decide (t ≤ 100000) = true := by simp; omega
      by_cases h3 : n < 0
      · have t3 : decide (n < 0) = true := by simp; omega
        have t4 : decide (0 ≤ n) = false := by simp; omega
        clear h
        go_enter Try.func77, Try.ntmps77
        go_wp2
        go_ret
        exact ⟨rfl, rfl⟩
      · have t3 : decide (n < 0) = false := by simp; omega
        have t4 : decide (0 ≤ n) = true := by simp; omega
        have t5 : decide (600 < n) = true := by simp; omega
        have t6 : decide (n ≤ 600) = false := by simp; omega
        clear h
        go_enter Try.func77, Try.ntmps77
        go_wp2
        go_ret
        exact ⟨rfl, rfl⟩
set_option maxHeartbeats 2000000 in
theorem spec_yes (t n y m d : Int) (w : World) (c : base.Mon w) (hd : cal.isDate t y m d) (n1 : 0 ≤ n) (n2 : n ≤ 600) : Calls Try.prog 77 #[.int .i64 t, .int .i64 n] w fun e w' => e = .returned (.int .i64 (res y m d n)) ∧ Below w.heap.size w w' := by
  have lt := c.lt
  have C := Lib.hid c
  clear c
  have HD := Lib.hid hd
  obtain ⟨o, hn⟩ := hd
  have z0 := cal.day_nonneg o
  rw [hn] at z0
  obtain ⟨h1, h2, h3, h4, h5, h6, h7⟩ := o
  rw [hn] at h7
  clear hn
  have t1 : decide (n < 0) = false := by simp; omega
  have t2 : decide (600 < n) = false := by simp; omega
  have hr : res y m d n = if dayOf.ok (y + (m - 1 + n) / 12) ((m - 1 + n) % 12 + 1) (dd y m d n) = true then dayOf.val (y + (m - 1 + n) / 12) ((m - 1 + n) % 12 + 1) (dd y m d n) else -1 := rfl
  by_cases hm : d ≤ cal.mlen (y + (m - 1 + n) / 12) ((m - 1 + n) % 12 + 1)
  · have hdd : dd y m d n = d := if_pos hm
    rw [hdd] at hr
    cases hok : dayOf.ok (y + (m - 1 + n) / 12) ((m - 1 + n) % 12 + 1) d with
    | true =>
      have HR := Lib.hid (hr.trans (if_pos hok))
      have HDO := fun w1 (c1 : base.Mon w1) => Lib.hid (dayOf.spec (y + (m - 1 + n) / 12) ((m - 1 + n) % 12 + 1) d w1 c1)
      have HO := Lib.hid hok
      clear hr hdd hok
      have HDO2 := Lib.hid HDO
      clear HDO
      go_enter Try.func77, Try.ntmps77
      go_wp2_with fail
      refine (dateOf.l2DayT t w (by omega) (by omega)).mono ?_
      rintro e w' ⟨rfl, rfl⟩
      go_wp2_with fail
      refine (dayOf.inT n 0 600 w (by omega) (by omega)).mono ?_
      rintro e w' ⟨rfl, rfl⟩
      go_wp2_with fail
      refine (dateOf.spec t y m d w C.out HD.out).mono ?_
      rintro e w1 ⟨rfl, b1⟩
      go_wp2_with fail
      refine (base.mlen_spec (y + (m - 1 + n) / 12) ((m - 1 + n) % 12 + 1) w1 (C.out.below b1 lt) (by omega) (by omega)).mono ?_
      rintro e w2 ⟨rfl, b2⟩
      have b3 := b1.trans (b2.mono b1.size)
      go_wp2_with fail
      refine (HDO2.out w2 (C.out.below b3 lt)).out.mono ?_
      rintro e w3 ⟨rfl, b4⟩
      rw [HO.out]
      go_wp2
      go_ret
      exact ⟨base.ret_int HR.out.symm, b3.trans (b4.mono b3.size)⟩
    | false =>
      have HR := Lib.hid (hr.trans (if_neg (by simp [hok])))
      have HDO := fun w1 (c1 : base.Mon w1) => Lib.hid (dayOf.spec (y + (m - 1 + n) / 12) ((m - 1 + n) % 12 + 1) d w1 c1)
      have HO := Lib.hid hok
      clear hr hdd hok
      have HDO2 := Lib.hid HDO
      clear HDO
      go_enter Try.func77, Try.ntmps77
      go_wp2_with fail
      refine (dateOf.l2DayT t w (by omega) (by omega)).mono ?_
      rintro e w' ⟨rfl, rfl⟩
      go_wp2_with fail
      refine (dayOf.inT n 0 600 w (by omega) (by omega)).mono ?_
      rintro e w' ⟨rfl, rfl⟩
      go_wp2_with fail
      refine (dateOf.spec t y m d w C.out HD.out).mono ?_
      rintro e w1 ⟨rfl, b1⟩
      go_wp2_with fail
      refine (base.mlen_spec (y + (m - 1 + n) / 12) ((m - 1 + n) % 12 + 1) w1 (C.out.below b1 lt) (by omega) (by omega)).mono ?_
      rintro e w2 ⟨rfl, b2⟩
      have b3 := b1.trans (b2.mono b1.size)
      go_wp2_with fail
      refine (HDO2.out w2 (C.out.below b3 lt)).out.mono ?_
      rintro e w3 ⟨rfl, b4⟩
      rw [HO.out]
      go_wp2
      go_ret
      exact ⟨base.ret_int HR.out.symm, b3.trans (b4.mono b3.size)⟩
  · have hdd : dd y m d n = (cal.mlen (y + (m - 1 + n) / 12) ((m - 1 + n) % 12 + 1)) := if_neg hm
    rw [hdd] at hr
    cases hok : dayOf.ok (y + (m - 1 + n) / 12) ((m - 1 + n) % 12 + 1) (cal.mlen (y + (m - 1 + n) / 12) ((m - 1 + n) % 12 + 1)) with
    | true =>
      have HR := Lib.hid (hr.trans (if_pos hok))
      have HDO := fun w1 (c1 : base.Mon w1) => Lib.hid (dayOf.spec (y + (m - 1 + n) / 12) ((m - 1 + n) % 12 + 1) (cal.mlen (y + (m - 1 + n) / 12) ((m - 1 + n) % 12 + 1)) w1 c1)
      have HO := Lib.hid hok
      clear hr hdd hok
      have HDO2 := Lib.hid HDO
      clear HDO
      go_enter Try.func77, Try.ntmps77
      go_wp2_with fail
      refine (dateOf.l2DayT t w (by omega) (by omega)).mono ?_
      rintro e w' ⟨rfl, rfl⟩
      go_wp2_with fail
      refine (dayOf.inT n 0 600 w (by omega) (by omega)).mono ?_
      rintro e w' ⟨rfl, rfl⟩
      go_wp2_with fail
      refine (dateOf.spec t y m d w C.out HD.out).mono ?_
      rintro e w1 ⟨rfl, b1⟩
      go_wp2_with fail
      refine (base.mlen_spec (y + (m - 1 + n) / 12) ((m - 1 + n) % 12 + 1) w1 (C.out.below b1 lt) (by omega) (by omega)).mono ?_
      rintro e w2 ⟨rfl, b2⟩
      have b3 := b1.trans (b2.mono b1.size)
      go_wp2_with fail
      refine (HDO2.out w2 (C.out.below b3 lt)).out.mono ?_
      rintro e w3 ⟨rfl, b4⟩
      rw [HO.out]
      go_wp2
      go_ret
      exact ⟨base.ret_int HR.out.symm, b3.trans (b4.mono b3.size)⟩
    | false =>
      have HR := Lib.hid (hr.trans (if_neg (by simp [hok])))
      have HDO := fun w1 (c1 : base.Mon w1) => Lib.hid (dayOf.spec (y + (m - 1 + n) / 12) ((m - 1 + n) % 12 + 1) (cal.mlen (y + (m - 1 + n) / 12) ((m - 1 + n) % 12 + 1)) w1 c1)
      have HO := Lib.hid hok
      clear hr hdd hok
      have HDO2 := Lib.hid HDO
      clear HDO
      go_enter Try.func77, Try.ntmps77
      go_wp2_with fail
      refine (dateOf.l2DayT t w (by omega) (by omega)).mono ?_
      rintro e w' ⟨rfl, rfl⟩
      go_wp2_with fail
      refine (dayOf.inT n 0 600 w (by omega) (by omega)).mono ?_
      rintro e w' ⟨rfl, rfl⟩
      go_wp2_with fail
      refine (dateOf.spec t y m d w C.out HD.out).mono ?_
      rintro e w1 ⟨rfl, b1⟩
      go_wp2_with fail
      refine (base.mlen_spec (y + (m - 1 + n) / 12) ((m - 1 + n) % 12 + 1) w1 (C.out.below b1 lt) (by omega) (by omega)).mono ?_
      rintro e w2 ⟨rfl, b2⟩
      have b3 := b1.trans (b2.mono b1.size)
      go_wp2_with fail
      refine (HDO2.out w2 (C.out.below b3 lt)).out.mono ?_
      rintro e w3 ⟨rfl, b4⟩
      rw [HO.out]
      go_wp2
      go_ret
      exact ⟨base.ret_int HR.out.symm, b3.trans (b4.mono b3.size)⟩
end Go.Proofs.Ytmnmijiikjpdnaa.monthsOn
