/-
  Plain helpers of this seat's proofs: the listed table of month lengths as a walk reads it, and contracts of the small functions on dates. Conditions: none.
-/
import Derived.Test.YtlpeadkkkmpccabDoorCards
import Derived.Test.YtlpeadkkkmpccabDoorTie
import Derived.Test.YtlpeadkkkmpccabDoorLift
import Derived.Test.YtlpeadkkkmpccabDoorCal
namespace Go.Proofs.YtlpeadkkkmpccabDoor.base
open Go.ChangeShapes Go.WideShapes Go.ChangeAt Go.RowKit

theorem own : ownKnob Tryd.prog.godebug = none := by kernel_rfl
theorem laidOut : laidOutB Tryd.prog = true := by kernel_rfl
theorem gMon : Tryd.prog.globalNamed "loop.example/g00714/impl.monthLengths" = some 0 := by kernel_rfl
theorem tMon : (Tryd.prog.globals[0]?).map (·.type) = some 56 := by kernel_rfl
theorem cells2 : Tryd.prog.cellsOf 2 = 1 := by kernel_rfl
theorem cells56 : Tryd.prog.cellsOf 56 = 12 := by kernel_rfl

/-- The table in memory. -/
structure Mon (w : World) : Prop where
  lt : 0 < w.heap.size
  c0 : w.cell? ⟨0, 0, none⟩ = some (.int .i64 31)
  c1 : w.cell? ⟨0, 1, none⟩ = some (.int .i64 28)
  c2 : w.cell? ⟨0, 2, none⟩ = some (.int .i64 31)
  c3 : w.cell? ⟨0, 3, none⟩ = some (.int .i64 30)
  c4 : w.cell? ⟨0, 4, none⟩ = some (.int .i64 31)
  c5 : w.cell? ⟨0, 5, none⟩ = some (.int .i64 30)
  c6 : w.cell? ⟨0, 6, none⟩ = some (.int .i64 31)
  c7 : w.cell? ⟨0, 7, none⟩ = some (.int .i64 31)
  c8 : w.cell? ⟨0, 8, none⟩ = some (.int .i64 30)
  c9 : w.cell? ⟨0, 9, none⟩ = some (.int .i64 31)
  c10 : w.cell? ⟨0, 10, none⟩ = some (.int .i64 30)
  c11 : w.cell? ⟨0, 11, none⟩ = some (.int .i64 31)

theorem lt_of_cell {W : World} {b o : Nat} {v : Value} (e0 : W.cell? ⟨b, o, none⟩ = some v) : b < W.heap.size := by
  unfold World.cell? at e0
  cases hh : W.heap[b]? with
  | none => simp [hh] at e0
  | some o => exact (Array.getElem?_eq_some_iff.1 hh).1

theorem mon_of {W : World} {rest : List (String × DataW Unit)} (h : laidMet Tryd.prog (("loop.example/g00714/impl.monthLengths", Rows.laid_loop_example_g00714_impl_monthLengths) :: rest) W) : Mon W := by
  have hT : Lib.TabIs Tryd.prog W "loop.example/g00714/impl.monthLengths" .i64 [31, 28, 31, 30, 31, 30, 31, 31, 30, 31, 30, 31] :=
    Lib.tabIs_of_head (rest := rest) gMon tMon Tryd.underlying56 Tryd.underlying2 cells2 cells56 h
  exact ⟨lt_of_cell (hT.cell gMon 0 (by decide)), hT.cell gMon 0 (by decide), hT.cell gMon 1 (by decide), hT.cell gMon 2 (by decide), hT.cell gMon 3 (by decide), hT.cell gMon 4 (by decide), hT.cell gMon 5 (by decide), hT.cell gMon 6 (by decide), hT.cell gMon 7 (by decide), hT.cell gMon 8 (by decide), hT.cell gMon 9 (by decide), hT.cell gMon 10 (by decide), hT.cell gMon 11 (by decide)⟩

/-- The row's list of one. -/
theorem mon_one {W : World} (h : laidMetH Tryd.prog Rows.fnExactDayOfRow.laid W) : Mon W := by
  rw [MakeChecks.laidMetH_plain _ _ _ (by kernel_rfl)] at h
  exact mon_of h

theorem Mon.below {B : Nat} {w w' : World} (c : Mon w) (hb : Below B w w') (hB : 0 < B) : Mon w' :=
  ⟨Nat.lt_of_lt_of_le c.lt hb.size, (hb.cell hB).trans c.c0, (hb.cell hB).trans c.c1, (hb.cell hB).trans c.c2, (hb.cell hB).trans c.c3, (hb.cell hB).trans c.c4, (hb.cell hB).trans c.c5, (hb.cell hB).trans c.c6, (hb.cell hB).trans c.c7, (hb.cell hB).trans c.c8, (hb.cell hB).trans c.c9, (hb.cell hB).trans c.c10, (hb.cell hB).trans c.c11⟩

theorem tm {a k n : Int} (hk : k ∣ n) (h : ¬ a.tmod k = 0) : ¬ a.tmod n = 0 := fun e =>
  h (Int.tmod_eq_zero_of_dvd (Int.dvd_trans hk (Int.dvd_of_tmod_eq_zero e)))
theorem ret_bool {a b : Bool} (h : a = b) : Ending.returned (.bool a) = .returned (.bool b) := by rw [h]
theorem ret_int {a b : Int} (h : a = b) : Ending.returned (.int .i64 a) = .returned (.int .i64 b) := by rw [h]

theorem leap_cases (y : Int) : (∃ _h : cal.lpB y = true, (y.tmod 4 = 0 ∧ y.tmod 100 = 0 ∧ y.tmod 400 = 0) ∨ (y.tmod 4 = 0 ∧ ¬ y.tmod 100 = 0 ∧ ¬ y.tmod 400 = 0)) ∨
    (∃ _h : cal.lpB y = false, (y.tmod 4 = 0 ∧ y.tmod 100 = 0 ∧ ¬ y.tmod 400 = 0) ∨ (¬ y.tmod 4 = 0 ∧ ¬ y.tmod 100 = 0 ∧ ¬ y.tmod 400 = 0)) := by
  by_cases h4 : y.tmod 4 = 0
  · by_cases h100 : y.tmod 100 = 0
    · by_cases h400 : y.tmod 400 = 0
      · left; exact ⟨by simp [cal.lpB, h4, h100, h400], .inl ⟨h4, h100, h400⟩⟩
      · right; exact ⟨by simp [cal.lpB, h4, h100, h400], .inl ⟨h4, h100, h400⟩⟩
    · have h400 : ¬ y.tmod 400 = 0 := tm (by omega) h100
      left; exact ⟨by simp [cal.lpB, h4, h100, h400], .inr ⟨h4, h100, h400⟩⟩
  · have h100 : ¬ y.tmod 100 = 0 := tm (by omega) h4
    have h400 : ¬ y.tmod 400 = 0 := tm (by omega) h4
    right; exact ⟨by simp [cal.lpB, h4, h100, h400], .inr ⟨h4, h100, h400⟩⟩

theorem leap_impl (y : Int) (w : World) : Calls Tryd.prog 25 #[.int .i64 y] w fun e w' => e = .returned (.bool (cal.lpB y)) ∧ w = w' := by
  rcases leap_cases y with ⟨hr, ⟨h4, h100, h400⟩ | ⟨h4, h100, h400⟩⟩ | ⟨hr, ⟨h4, h100, h400⟩ | ⟨h4, h100, h400⟩⟩
  · have b4 : (y.tmod 4 == 0) = true := by simp [h4]
    have b100 : (y.tmod 100 == 0) = true := by simp [h100]
    have c100 : (y.tmod 100 != 0) = false := by simp [h100]
    have b400 : (y.tmod 400 == 0) = true := by simp [h400]
    have HR := Lib.hid hr
    clear h4 h100 h400 hr
    go_enter Tryd.func25, Tryd.ntmps25
    go_wp2
    go_ret
    exact ⟨ret_bool HR.out.symm, rfl⟩
  · have b4 : (y.tmod 4 == 0) = true := by simp [h4]
    have b100 : (y.tmod 100 == 0) = false := by simp [h100]
    have c100 : (y.tmod 100 != 0) = true := by simp [h100]
    have b400 : (y.tmod 400 == 0) = false := by simp [h400]
    have HR := Lib.hid hr
    clear h4 h100 h400 hr
    go_enter Tryd.func25, Tryd.ntmps25
    go_wp2
    go_ret
    exact ⟨ret_bool HR.out.symm, rfl⟩
  · have b4 : (y.tmod 4 == 0) = true := by simp [h4]
    have b100 : (y.tmod 100 == 0) = true := by simp [h100]
    have c100 : (y.tmod 100 != 0) = false := by simp [h100]
    have b400 : (y.tmod 400 == 0) = false := by simp [h400]
    have HR := Lib.hid hr
    clear h4 h100 h400 hr
    go_enter Tryd.func25, Tryd.ntmps25
    go_wp2
    go_ret
    exact ⟨ret_bool HR.out.symm, rfl⟩
  · have b4 : (y.tmod 4 == 0) = false := by simp [h4]
    have b100 : (y.tmod 100 == 0) = false := by simp [h100]
    have c100 : (y.tmod 100 != 0) = true := by simp [h100]
    have b400 : (y.tmod 400 == 0) = false := by simp [h400]
    have HR := Lib.hid hr
    clear h4 h100 h400 hr
    go_enter Tryd.func25, Tryd.ntmps25
    go_wp2
    go_ret
    exact ⟨ret_bool HR.out.symm, rfl⟩

theorem leap_spec (y : Int) (w : World) : Calls Tryd.prog 26 #[.int .i64 y] w fun e w' => e = .returned (.bool (cal.lpB y)) ∧ w = w' := by
  rcases leap_cases y with ⟨hr, ⟨h4, h100, h400⟩ | ⟨h4, h100, h400⟩⟩ | ⟨hr, ⟨h4, h100, h400⟩ | ⟨h4, h100, h400⟩⟩
  · have b4 : (y.tmod 4 == 0) = true := by simp [h4]
    have b100 : (y.tmod 100 == 0) = true := by simp [h100]
    have c100 : (y.tmod 100 != 0) = false := by simp [h100]
    have b400 : (y.tmod 400 == 0) = true := by simp [h400]
    have HR := Lib.hid hr
    clear h4 h100 h400 hr
    go_enter Tryd.func26, Tryd.ntmps26
    go_wp2
    go_ret
    exact ⟨ret_bool HR.out.symm, rfl⟩
  · have b4 : (y.tmod 4 == 0) = true := by simp [h4]
    have b100 : (y.tmod 100 == 0) = false := by simp [h100]
    have c100 : (y.tmod 100 != 0) = true := by simp [h100]
    have b400 : (y.tmod 400 == 0) = false := by simp [h400]
    have HR := Lib.hid hr
    clear h4 h100 h400 hr
    go_enter Tryd.func26, Tryd.ntmps26
    go_wp2
    go_ret
    exact ⟨ret_bool HR.out.symm, rfl⟩
  · have b4 : (y.tmod 4 == 0) = true := by simp [h4]
    have b100 : (y.tmod 100 == 0) = true := by simp [h100]
    have c100 : (y.tmod 100 != 0) = false := by simp [h100]
    have b400 : (y.tmod 400 == 0) = false := by simp [h400]
    have HR := Lib.hid hr
    clear h4 h100 h400 hr
    go_enter Tryd.func26, Tryd.ntmps26
    go_wp2
    go_ret
    exact ⟨ret_bool HR.out.symm, rfl⟩
  · have b4 : (y.tmod 4 == 0) = false := by simp [h4]
    have b100 : (y.tmod 100 == 0) = false := by simp [h100]
    have c100 : (y.tmod 100 != 0) = true := by simp [h100]
    have b400 : (y.tmod 400 == 0) = false := by simp [h400]
    have HR := Lib.hid hr
    clear h4 h100 h400 hr
    go_enter Tryd.func26, Tryd.ntmps26
    go_wp2
    go_ret
    exact ⟨ret_bool HR.out.symm, rfl⟩

theorem mlen_other (y m : Int) (h : m ≠ 2) : cal.mlen y m = if m = 4 ∨ m = 6 ∨ m = 9 ∨ m = 11 then 30 else 31 := by unfold cal.mlen; rw [if_neg h]
theorem mlen_leap (y : Int) (h : cal.lpB y = true) : cal.mlen y 2 = 29 := by unfold cal.mlen cal.lp; rw [if_pos rfl, if_pos h]; rfl
theorem mlen_no (y : Int) (h : cal.lpB y = false) : cal.mlen y 2 = 28 := by unfold cal.mlen cal.lp; rw [if_pos rfl, if_neg (by simp [h])]; rfl

theorem mlen_impl_2t (y : Int) (w : World) (c : Mon w) (hl : cal.lpB y = true) : Calls Tryd.prog 43 #[.int .i64 y, .int .i64 2] w fun e w' => e = .returned (.int .i64 (cal.mlen y 2)) ∧ w = w' := by
  obtain ⟨lt, c0, c1, c2, c3, c4, c5, c6, c7, c8, c9, c10, c11⟩ := c
  rw [mlen_leap y hl]
  have hc : Calls Tryd.prog 25 #[.int .i64 y] w fun e w' => e = .returned (.bool true) ∧ w = w' := by have := leap_impl y w; rw [hl] at this; exact this
  have HC := Lib.hid hc
  clear hl hc
  go_enter Tryd.func43, Tryd.ntmps43
  go_wp2_with fail
  refine HC.out.mono ?_
  rintro e w' ⟨rfl, rfl⟩
  go_wp2
  go_ret
  exact ⟨rfl, rfl⟩

theorem mlen_impl_2f (y : Int) (w : World) (c : Mon w) (hl : cal.lpB y = false) : Calls Tryd.prog 43 #[.int .i64 y, .int .i64 2] w fun e w' => e = .returned (.int .i64 (cal.mlen y 2)) ∧ w = w' := by
  obtain ⟨lt, c0, c1, c2, c3, c4, c5, c6, c7, c8, c9, c10, c11⟩ := c
  rw [mlen_no y hl]
  have hc : Calls Tryd.prog 25 #[.int .i64 y] w fun e w' => e = .returned (.bool false) ∧ w = w' := by have := leap_impl y w; rw [hl] at this; exact this
  have HC := Lib.hid hc
  clear hl hc
  go_enter Tryd.func43, Tryd.ntmps43
  go_wp2_with fail
  refine HC.out.mono ?_
  rintro e w' ⟨rfl, rfl⟩
  go_wp2
  go_ret
  exact ⟨rfl, rfl⟩

set_option maxHeartbeats 1000000 in
theorem mlen_impl (y m : Int) (w : World) (c : Mon w) (h1 : 1 ≤ m) (h2 : m ≤ 12) : Calls Tryd.prog 43 #[.int .i64 y, .int .i64 m] w fun e w' => e = .returned (.int .i64 (cal.mlen y m)) ∧ w = w' := by
  by_cases e2 : m = 2
  · subst e2
    cases hl : cal.lpB y with
    | true => exact mlen_impl_2t y w c hl
    | false => exact mlen_impl_2f y w c hl
  · rw [mlen_other y m e2]
    obtain ⟨lt, c0, c1, c2, c3, c4, c5, c6, c7, c8, c9, c10, c11⟩ := c
    obtain rfl | rfl | rfl | rfl | rfl | rfl | rfl | rfl | rfl | rfl | rfl : m = 1 ∨ m = 3 ∨ m = 4 ∨ m = 5 ∨ m = 6 ∨ m = 7 ∨ m = 8 ∨ m = 9 ∨ m = 10 ∨ m = 11 ∨ m = 12 := by omega
    all_goals
      clear e2 h1 h2
      go_enter Tryd.func43, Tryd.ntmps43
      go_wp2
      go_ret
      exact ⟨rfl, rfl⟩

theorem mlen_spec_2t (y : Int) (w : World) (c : Mon w) (hl : cal.lpB y = true) : Calls Tryd.prog 45 #[.int .i64 y, .int .i64 2] w fun e w' => e = .returned (.int .i64 (cal.mlen y 2)) ∧ Below w.heap.size w w' := by
  obtain ⟨lt, c0, c1, c2, c3, c4, c5, c6, c7, c8, c9, c10, c11⟩ := c
  rw [mlen_leap y hl]
  have hc : Calls Tryd.prog 26 #[.int .i64 y] w fun e w' => e = .returned (.bool true) ∧ w = w' := by have := leap_spec y w; rw [hl] at this; exact this
  have HC := Lib.hid hc
  clear hl hc
  go_enter Tryd.func45, Tryd.ntmps45
  go_wp2_with fail
  refine HC.out.mono ?_
  rintro e w' ⟨rfl, rfl⟩
  go_wp2
  go_ret
  exact ⟨rfl, Below.refl _ _⟩

theorem mlen_spec_2f (y : Int) (w : World) (c : Mon w) (hl : cal.lpB y = false) : Calls Tryd.prog 45 #[.int .i64 y, .int .i64 2] w fun e w' => e = .returned (.int .i64 (cal.mlen y 2)) ∧ Below w.heap.size w w' := by
  obtain ⟨lt, c0, c1, c2, c3, c4, c5, c6, c7, c8, c9, c10, c11⟩ := c
  rw [mlen_no y hl]
  have hc : Calls Tryd.prog 26 #[.int .i64 y] w fun e w' => e = .returned (.bool false) ∧ w = w' := by have := leap_spec y w; rw [hl] at this; exact this
  have HC := Lib.hid hc
  clear hl hc
  go_enter Tryd.func45, Tryd.ntmps45
  go_wp2_with fail
  refine HC.out.mono ?_
  rintro e w' ⟨rfl, rfl⟩
  go_wp2
  go_ret
  exact ⟨rfl, (Below.refl _ _).alloc (Nat.le_refl _) _⟩

set_option maxHeartbeats 1000000 in
theorem mlen_spec (y m : Int) (w : World) (c : Mon w) (h1 : 1 ≤ m) (h2 : m ≤ 12) : Calls Tryd.prog 45 #[.int .i64 y, .int .i64 m] w fun e w' => e = .returned (.int .i64 (cal.mlen y m)) ∧ Below w.heap.size w w' := by
  by_cases e2 : m = 2
  · subst e2
    cases hl : cal.lpB y with
    | true => exact mlen_spec_2t y w c hl
    | false => exact mlen_spec_2f y w c hl
  · rw [mlen_other y m e2]
    obtain ⟨lt, c0, c1, c2, c3, c4, c5, c6, c7, c8, c9, c10, c11⟩ := c
    obtain rfl | rfl | rfl | rfl | rfl | rfl | rfl | rfl | rfl | rfl | rfl : m = 1 ∨ m = 3 ∨ m = 4 ∨ m = 5 ∨ m = 6 ∨ m = 7 ∨ m = 8 ∨ m = 9 ∨ m = 10 ∨ m = 11 ∨ m = 12 := by omega
    all_goals
      clear e2 h1 h2
      go_enter Tryd.func45, Tryd.ntmps45
      go_wp2
      go_ret
      exact ⟨rfl, (Below.refl _ _).alloc (Nat.le_refl _) _⟩

theorem lyb_impl (y : Int) (w : World) (h1 : 1969 ≤ y) (h2 : y ≤ 2301) : Calls Tryd.prog 55 #[.int .i64 y] w fun e w' => e = .returned (.int .i64 (cal.lyb y)) ∧ w = w' := by
  go_enter Tryd.func55, Tryd.ntmps55
  go_wp2
  go_ret
  exact ⟨rfl, rfl⟩
theorem newYear_impl (y : Int) (w : World) (h1 : 1970 ≤ y) (h2 : y ≤ 2300) : Calls Tryd.prog 42 #[.int .i64 y] w fun e w' => e = .returned (.int .i64 (cal.NY y)) ∧ w = w' := by
  have bd : 0 ≤ cal.lyb y ∧ cal.lyb y ≤ 3000 := by unfold cal.lyb; omega
  obtain ⟨b1, b2⟩ := bd
  go_enter Tryd.func42, Tryd.ntmps42
  go_wp2_with fail
  refine (lyb_impl y w (by omega) (by omega)).mono ?_
  rintro e w' ⟨rfl, rfl⟩
  go_wp2_with fail
  refine (lyb_impl 1970 w (by omega) (by omega)).mono ?_
  rintro e w' ⟨rfl, rfl⟩
  have e477 : cal.lyb 1970 = 477 := by decide
  rw [e477]
  go_wp2
  go_ret
  exact ⟨rfl, rfl⟩
theorem ylen_spec (y : Int) (w : World) : Calls Tryd.prog 46 #[.int .i64 y] w fun e w' => e = .returned (.int .i64 (365 + cal.lp y)) ∧ w = w' := by
  cases hl : cal.lpB y with
  | true =>
    have hp : cal.lp y = 1 := by unfold cal.lp; rw [if_pos hl]
    rw [hp]
    have hc := leap_spec y w
    rw [hl] at hc
    have HC := Lib.hid hc
    clear hl hc hp
    go_enter Tryd.func46, Tryd.ntmps46
    go_wp2_with fail
    refine HC.out.mono ?_
    rintro e w' ⟨rfl, rfl⟩
    go_wp2
    go_ret
    exact ⟨rfl, rfl⟩
  | false =>
    have hp : cal.lp y = 0 := by unfold cal.lp; rw [if_neg (by simp [hl])]
    rw [hp]
    have hc := leap_spec y w
    rw [hl] at hc
    have HC := Lib.hid hc
    clear hl hc hp
    go_enter Tryd.func46, Tryd.ntmps46
    go_wp2_with fail
    refine HC.out.mono ?_
    rintro e w' ⟨rfl, rfl⟩
    go_wp2
    go_ret
    exact ⟨rfl, rfl⟩
end Go.Proofs.YtlpeadkkkmpccabDoor.base
