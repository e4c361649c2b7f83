/-
  Plain helpers of this seat's proofs: the contract of the program's own DueDays. Conditions: none.
-/
import Derived.Test.YtchpjojndkkmeaaDoorTie
import Derived.Test.YtchpjojndkkmeaaDoorCards
import Derived.Test.YtchpjojndkkmeaaDoorJMf
namespace Go.Proofs.YtchpjojndkkmeaaDoor.ibase
open Go.ChangeShapes Go.WideShapes Go.ChangeAt Go.RowKit
open base (tm ret_bool ret_int leap_cases mlen_other mlen_leap mlen_no)
theorem gMon : Tryd.prog.globalNamed "loop.example/g00714/impl.monthLengths" = some 2 := by kernel_rfl
theorem tMon : (Tryd.prog.globals[2]?).map (·.type) = some 101 := by kernel_rfl
theorem cells2 : Tryd.prog.cellsOf 2 = 1 := by kernel_rfl
theorem cells56 : Tryd.prog.cellsOf 101 = 12 := by kernel_rfl
/-- The table in memory. -/
structure Mon (w : World) : Prop where
  lt : 2 < w.heap.size
  c0 : w.cell? ⟨2, 0, none⟩ = some (.int .i64 31)
  c1 : w.cell? ⟨2, 1, none⟩ = some (.int .i64 28)
  c2 : w.cell? ⟨2, 2, none⟩ = some (.int .i64 31)
  c3 : w.cell? ⟨2, 3, none⟩ = some (.int .i64 30)
  c4 : w.cell? ⟨2, 4, none⟩ = some (.int .i64 31)
  c5 : w.cell? ⟨2, 5, none⟩ = some (.int .i64 30)
  c6 : w.cell? ⟨2, 6, none⟩ = some (.int .i64 31)
  c7 : w.cell? ⟨2, 7, none⟩ = some (.int .i64 31)
  c8 : w.cell? ⟨2, 8, none⟩ = some (.int .i64 30)
  c9 : w.cell? ⟨2, 9, none⟩ = some (.int .i64 31)
  c10 : w.cell? ⟨2, 10, none⟩ = some (.int .i64 30)
  c11 : w.cell? ⟨2, 11, none⟩ = some (.int .i64 31)
theorem lt_of_cell {W : World} {b o : Nat} {v : Value} (e0 : W.cell? ⟨b, o, none⟩ = some v) : b < W.heap.size := by
  unfold World.cell? at e0
  cases hh : W.heap[b]? with
  | none => simp [hh] at e0
  | some o => exact (Array.getElem?_eq_some_iff.1 hh).1
theorem mon_of {W : World} {rest : List (String × DataW Unit)} (h : laidMet Tryd.prog (("loop.example/g00714/impl.monthLengths", Rows.laid_loop_example_g00714_impl_monthLengths) :: rest) W) : Mon W := by
  have hT : Lib.TabIs Tryd.prog W "loop.example/g00714/impl.monthLengths" .i64 [31, 28, 31, 30, 31, 30, 31, 31, 30, 31, 30, 31] :=
    Lib.tabIs_of_head (rest := rest) gMon tMon Tryd.underlying101 Tryd.underlying2 cells2 cells56 h
  exact ⟨lt_of_cell (hT.cell gMon 0 (by decide)), hT.cell gMon 0 (by decide), hT.cell gMon 1 (by decide), hT.cell gMon 2 (by decide), hT.cell gMon 3 (by decide), hT.cell gMon 4 (by decide), hT.cell gMon 5 (by decide), hT.cell gMon 6 (by decide), hT.cell gMon 7 (by decide), hT.cell gMon 8 (by decide), hT.cell gMon 9 (by decide), hT.cell gMon 10 (by decide), hT.cell gMon 11 (by decide)⟩
theorem Mon.below {B : Nat} {w w' : World} (c : Mon w) (hb : Below B w w') (hB : 2 < B) : Mon w' :=
  ⟨Nat.lt_of_lt_of_le c.lt hb.size, (hb.cell hB).trans c.c0, (hb.cell hB).trans c.c1, (hb.cell hB).trans c.c2, (hb.cell hB).trans c.c3, (hb.cell hB).trans c.c4, (hb.cell hB).trans c.c5, (hb.cell hB).trans c.c6, (hb.cell hB).trans c.c7, (hb.cell hB).trans c.c8, (hb.cell hB).trans c.c9, (hb.cell hB).trans c.c10, (hb.cell hB).trans c.c11⟩
theorem leap_impl (y : Int) (w : World) : Calls Tryd.prog 74 #[.int .i64 y] w fun e w' => e = .returned (.bool (cal.lpB y)) ∧ w = w' := by
  rcases leap_cases y with ⟨hr, ⟨h4, h100, h400⟩ | ⟨h4, h100, h400⟩⟩ | ⟨hr, ⟨h4, h100, h400⟩ | ⟨h4, h100, h400⟩⟩
  · have b4 : (y.tmod 4 == 0) = true := by simp [h4]
    have b100 : (y.tmod 100 == 0) = true := by simp [h100]
    have c100 : (y.tmod 100 != 0) = false := by simp [h100]
    have b400 : (y.tmod 400 == 0) = true := by simp [h400]
    have HR := Lib.hid hr
    clear h4 h100 h400 hr
    go_enter Tryd.func74, Tryd.ntmps74
    go_wp2
    go_ret
    exact ⟨ret_bool HR.out.symm, rfl⟩
  · have b4 : (y.tmod 4 == 0) = true := by simp [h4]
    have b100 : (y.tmod 100 == 0) = false := by simp [h100]
    have c100 : (y.tmod 100 != 0) = true := by simp [h100]
    have b400 : (y.tmod 400 == 0) = false := by simp [h400]
    have HR := Lib.hid hr
    clear h4 h100 h400 hr
    go_enter Tryd.func74, Tryd.ntmps74
    go_wp2
    go_ret
    exact ⟨ret_bool HR.out.symm, rfl⟩
  · have b4 : (y.tmod 4 == 0) = true := by simp [h4]
    have b100 : (y.tmod 100 == 0) = true := by simp [h100]
    have c100 : (y.tmod 100 != 0) = false := by simp [h100]
    have b400 : (y.tmod 400 == 0) = false := by simp [h400]
    have HR := Lib.hid hr
    clear h4 h100 h400 hr
    go_enter Tryd.func74, Tryd.ntmps74
    go_wp2
    go_ret
    exact ⟨ret_bool HR.out.symm, rfl⟩
  · have b4 : (y.tmod 4 == 0) = false := by simp [h4]
    have b100 : (y.tmod 100 == 0) = false := by simp [h100]
    have c100 : (y.tmod 100 != 0) = true := by simp [h100]
    have b400 : (y.tmod 400 == 0) = false := by simp [h400]
    have HR := Lib.hid hr
    clear h4 h100 h400 hr
    go_enter Tryd.func74, Tryd.ntmps74
    go_wp2
    go_ret
    exact ⟨ret_bool HR.out.symm, rfl⟩
theorem mlen_impl_2t (y : Int) (w : World) (c : Mon w) (hl : cal.lpB y = true) : Calls Tryd.prog 61 #[.int .i64 y, .int .i64 2] w fun e w' => e = .returned (.int .i64 (cal.mlen y 2)) ∧ w = w' := by
  obtain ⟨lt, c0, c1, c2, c3, c4, c5, c6, c7, c8, c9, c10, c11⟩ := c
  rw [mlen_leap y hl]
  have hc : Calls Tryd.prog 74 #[.int .i64 y] w fun e w' => e = .returned (.bool true) ∧ w = w' := by have := leap_impl y w; rw [hl] at this; exact this
  have HC := Lib.hid hc
  clear hl hc
  go_enter Tryd.func61, Tryd.ntmps61
  go_wp2_with fail
  refine HC.out.mono ?_
  rintro e w' ⟨rfl, rfl⟩
  go_wp2
  go_ret
  exact ⟨rfl, rfl⟩
theorem mlen_impl_2f (y : Int) (w : World) (c : Mon w) (hl : cal.lpB y = false) : Calls Tryd.prog 61 #[.int .i64 y, .int .i64 2] w fun e w' => e = .returned (.int .i64 (cal.mlen y 2)) ∧ w = w' := by
  obtain ⟨lt, c0, c1, c2, c3, c4, c5, c6, c7, c8, c9, c10, c11⟩ := c
  rw [mlen_no y hl]
  have hc : Calls Tryd.prog 74 #[.int .i64 y] w fun e w' => e = .returned (.bool false) ∧ w = w' := by have := leap_impl y w; rw [hl] at this; exact this
  have HC := Lib.hid hc
  clear hl hc
  go_enter Tryd.func61, Tryd.ntmps61
  go_wp2_with fail
  refine HC.out.mono ?_
  rintro e w' ⟨rfl, rfl⟩
  go_wp2
  go_ret
  exact ⟨rfl, rfl⟩
set_option maxHeartbeats 1000000 in
theorem mlen_impl (y m : Int) (w : World) (c : Mon w) (h1 : 1 ≤ m) (h2 : m ≤ 12) : Calls Tryd.prog 61 #[.int .i64 y, .int .i64 m] w fun e w' => e = .returned (.int .i64 (cal.mlen y m)) ∧ w = w' := by
  by_cases e2 : m = 2
  · subst e2
    cases hl : cal.lpB y with
    | true => exact mlen_impl_2t y w c hl
    | false => exact mlen_impl_2f y w c hl
  · rw [mlen_other y m e2]
    obtain ⟨lt, c0, c1, c2, c3, c4, c5, c6, c7, c8, c9, c10, c11⟩ := c
    obtain rfl | rfl | rfl | rfl | rfl | rfl | rfl | rfl | rfl | rfl | rfl : m = 1 ∨ m = 3 ∨ m = 4 ∨ m = 5 ∨ m = 6 ∨ m = 7 ∨ m = 8 ∨ m = 9 ∨ m = 10 ∨ m = 11 ∨ m = 12 := by omega
    all_goals
      clear e2 h1 h2
      go_enter Tryd.func61, Tryd.ntmps61
      go_wp2
      go_ret
      exact ⟨rfl, rfl⟩
theorem lyb_impl (y : Int) (w : World) (h1 : 1969 ≤ y) (h2 : y ≤ 2301) : Calls Tryd.prog 78 #[.int .i64 y] w fun e w' => e = .returned (.int .i64 (cal.lyb y)) ∧ w = w' := by
  go_enter Tryd.func78, Tryd.ntmps78
  go_wp2
  go_ret
  exact ⟨rfl, rfl⟩
theorem newYear_impl (y : Int) (w : World) (h1 : 1970 ≤ y) (h2 : y ≤ 2300) : Calls Tryd.prog 73 #[.int .i64 y] w fun e w' => e = .returned (.int .i64 (cal.NY y)) ∧ w = w' := by
  have bd : 0 ≤ cal.lyb y ∧ cal.lyb y ≤ 3000 := by unfold cal.lyb; omega
  obtain ⟨b1, b2⟩ := bd
  go_enter Tryd.func73, Tryd.ntmps73
  go_wp2_with fail
  refine (lyb_impl y w (by omega) (by omega)).mono ?_
  rintro e w' ⟨rfl, rfl⟩
  go_wp2_with fail
  refine (lyb_impl 1970 w (by omega) (by omega)).mono ?_
  rintro e w' ⟨rfl, rfl⟩
  have e477 : cal.lyb 1970 = 477 := by decide
  rw [e477]
  go_wp2
  go_ret
  exact ⟨rfl, rfl⟩
end Go.Proofs.YtchpjojndkkmeaaDoor.ibase
namespace Go.Proofs.YtchpjojndkkmeaaDoor.idayOf
open Go.ChangeShapes Go.WideShapes Go.ChangeAt Go.RowKit
open dayOf (ret_ib dayR dayB val ok no_of in_of)
theorem impl_form (y m d : Int) (w : World) (h : y < 1970 ∨ 2243 < y ∨ m < 1 ∨ 12 < m) : Calls Tryd.prog 60 #[.int .i64 y, .int .i64 m, .int .i64 d] w fun e w' => e = .returned (.tuple #[.int .i64 0, .bool false]) ∧ w = w' := by
  by_cases h1 : y < 1970
  · clear h
    go_enter Tryd.func60, Tryd.ntmps60
    go_wp2
    go_ret2
    exact ⟨rfl, rfl⟩
  · by_cases h2 : 2243 < y
    · clear h
      go_enter Tryd.func60, Tryd.ntmps60
      go_wp2
      go_ret2
      exact ⟨rfl, rfl⟩
    · by_cases h3 : m < 1
      · clear h
        go_enter Tryd.func60, Tryd.ntmps60
        go_wp2
        go_ret2
        exact ⟨rfl, rfl⟩
      · have h4 : 12 < m := by omega
        clear h
        go_enter Tryd.func60, Tryd.ntmps60
        go_wp2
        go_ret2
        exact ⟨rfl, rfl⟩
theorem impl_d (y m d : Int) (w : World) (c : ibase.Mon w) (h1 : 1970 ≤ y) (h2 : y ≤ 2243) (h3 : 1 ≤ m) (h4 : m ≤ 12) (h : d < 1 ∨ cal.mlen y m < d) : Calls Tryd.prog 60 #[.int .i64 y, .int .i64 m, .int .i64 d] w fun e w' => e = .returned (.tuple #[.int .i64 0, .bool false]) ∧ w = w' := by
  have C := Lib.hid c
  clear c
  by_cases h5 : d < 1
  · clear h
    go_enter Tryd.func60, Tryd.ntmps60
    go_wp2
    go_ret2
    exact ⟨rfl, rfl⟩
  · have h6 : cal.mlen y m < d := by omega
    clear h
    go_enter Tryd.func60, Tryd.ntmps60
    go_wp2_with fail
    refine (ibase.mlen_impl y m w C.out h3 h4).mono ?_
    rintro e w' ⟨rfl, rfl⟩
    go_wp2
    go_ret2
    exact ⟨rfl, rfl⟩
set_option maxHeartbeats 1000000 in
theorem impl_in (y m d : Int) (w : World) (c : ibase.Mon w) (h1 : 1970 ≤ y) (h2 : y ≤ 2243) (h3 : 1 ≤ m) (h4 : m ≤ 12) (h5 : 1 ≤ d) (h6 : d ≤ cal.mlen y m) :
    Calls Tryd.prog 60 #[.int .i64 y, .int .i64 m, .int .i64 d] w fun e w' => e = .returned (.tuple #[.int .i64 (dayR y m d), .bool (dayB y m d)]) ∧ w = w' := by
  have C := Lib.hid c
  clear c
  obtain ⟨m1, m2⟩ := cal.mlen_bd y m
  obtain ⟨n1, n2⟩ := cal.NY_bd y (by omega) (by omega)
  obtain ⟨c1, c2⟩ := cal.cum_bd y m (by omega) (by omega)
  have n0 := cal.NY_mono 1970 y (by omega) h1
  rw [cal.NY_1970] at n0
  have fin : (cal.NY y + d - 1 + cal.cum y m ≤ 100000 ∧ dayR y m d = cal.NY y + d - 1 + cal.cum y m ∧ dayB y m d = true) ∨ (100000 < cal.NY y + d - 1 + cal.cum y m ∧ dayR y m d = 0 ∧ dayB y m d = false) := by
    have e : cal.dayN y m d = cal.NY y + d - 1 + cal.cum y m := by unfold cal.dayN; omega
    unfold dayR dayB
    rw [e]
    by_cases q : cal.NY y + d - 1 + cal.cum y m ≤ 100000
    · left; exact ⟨q, if_pos q, by simp [q]⟩
    · right; exact ⟨by omega, if_neg q, by simp [q]⟩
  have FIN := Lib.hid fin
  clear fin
  have t1 : decide (y < 1970) = false := by simp; omega
  have t2 : decide (2243 < y) = false := by simp; omega
  have t3 : decide (m < 1) = false := by simp; omega
  have t4 : decide (12 < m) = false := by simp; omega
  have t5 : decide (d < 1) = false := by simp; omega
  have t6 : decide (cal.mlen y m < d) = false := by simp; omega
  go_enter Tryd.func60, Tryd.ntmps60
  go_wp2_with fail
  refine (ibase.mlen_impl y m w C.out h3 h4).mono ?_
  rintro e w' ⟨rfl, rfl⟩
  go_wp2_with fail
  refine (ibase.newYear_impl y w (by omega) (by omega)).mono ?_
  rintro e w' ⟨rfl, rfl⟩
  go_wp2
  go_loop [8, 9] (fun n i => ∃ k : Int, 1 ≤ k ∧ k ≤ m ∧ i = .int .i64 k ∧ n = .int .i64 (cal.NY y + d - 1 + cal.cum y k)) (fun _ i => (m - intOf i).toNat)
  case atStart => exact ⟨1, by omega, by omega, rfl, by simp [cal.cum_1]⟩
  case round =>
    obtain ⟨k, k1, k2, rfl, rfl⟩ := hrel
    obtain ⟨e1, e2⟩ := cal.mlen_bd y k
    obtain ⟨f1, f2⟩ := cal.cum_bd y k (by omega) (by omega)
    by_cases hlt : k < m
    · have HS := Lib.hid (cal.cum_succ y k (by omega) (by omega))
      go_wp2_with fail
      refine (ibase.mlen_impl y k w C.out k1 (by omega)).mono ?_
      rintro e w' ⟨rfl, rfl⟩
      go_wp2
      go_round
      case rel => exact ⟨k + 1, by omega, by omega, rfl, by rw [HS.out]; go_num⟩
      case measure => simp [intOf]; omega
    · obtain rfl : k = m := by omega
      rcases FIN.out with ⟨q, e, e'⟩ | ⟨q, e, e'⟩
      · have HE := Lib.hid e; have HE' := Lib.hid e'; clear e e'
        have q0 : decide (0 ≤ cal.NY y + d - 1 + cal.cum y k) = true := by simp; omega
        have q1 : decide (cal.NY y + d - 1 + cal.cum y k ≤ 100000) = true := by simp; omega
        go_wp2
        go_ret2
        exact ⟨ret_ib HE.out.symm HE'.out.symm, rfl⟩
      · have HE := Lib.hid e; have HE' := Lib.hid e'; clear e e'
        have q0 : decide (0 ≤ cal.NY y + d - 1 + cal.cum y k) = true := by simp; omega
        have q1 : decide (cal.NY y + d - 1 + cal.cum y k ≤ 100000) = false := by simp; omega
        go_wp2
        go_ret2
        exact ⟨ret_ib HE.out.symm HE'.out.symm, rfl⟩
theorem impl (y m d : Int) (w : World) (c : ibase.Mon w) : Calls Tryd.prog 60 #[.int .i64 y, .int .i64 m, .int .i64 d] w fun e w' => e = .returned (.tuple #[.int .i64 (val y m d), .bool (ok y m d)]) ∧ w = w' := by
  by_cases hf : y < 1970 ∨ 2243 < y ∨ m < 1 ∨ 12 < m
  · obtain ⟨e1, e2⟩ := no_of (y := y) (m := m) (d := d) (by omega)
    rw [e1, e2]; exact impl_form y m d w hf
  · by_cases hd : d < 1 ∨ cal.mlen y m < d
    · obtain ⟨e1, e2⟩ := no_of (y := y) (m := m) (d := d) (by omega)
      rw [e1, e2]; exact impl_d y m d w c (by omega) (by omega) (by omega) (by omega) hd
    · obtain ⟨e1, e2⟩ := in_of (y := y) (m := m) (d := d) (by omega) (by omega) (by omega) (by omega) (by omega) (by omega)
      rw [e1, e2]; exact impl_in y m d w c (by omega) (by omega) (by omega) (by omega) (by omega) (by omega)
end Go.Proofs.YtchpjojndkkmeaaDoor.idayOf
namespace Go.Proofs.YtchpjojndkkmeaaDoor.idateOf
open Go.ChangeShapes Go.WideShapes Go.ChangeAt Go.RowKit
open dateOf (ret_3)
theorem impl_no (n : Int) (w : World) (h : n < 0 ∨ 100000 < n) : Calls Tryd.prog 59 #[.int .i64 n] w fun e w' => e = .returned (.tuple #[.int .i64 0, .int .i64 0, .int .i64 0]) ∧ w = w' := by
  by_cases h1 : n < 0
  · have t1 : decide (0 ≤ n) = false := by simp; omega
    clear h
    go_enter Tryd.func59, Tryd.ntmps59
    go_wp2
    go_ret3
    exact ⟨rfl, rfl⟩
  · have t1 : decide (0 ≤ n) = true := by simp; omega
    have t2 : decide (n ≤ 100000) = false := by simp; omega
    clear h
    go_enter Tryd.func59, Tryd.ntmps59
    go_wp2
    go_ret3
    exact ⟨rfl, rfl⟩
theorem isDayT (n : Int) (w : World) (h1 : 0 ≤ n) (h2 : n ≤ 100000) : Calls Tryd.prog 58 #[.int .i64 n] w fun e w' => e = .returned (.bool true) ∧ w = w' := by
  have t1 : decide (0 ≤ n) = true := by simp; omega
  have t2 : decide (n ≤ 100000) = true := by simp; omega
  go_enter Tryd.func58, Tryd.ntmps58
  go_wp2
  go_ret
  exact ⟨rfl, rfl⟩
set_option maxHeartbeats 1000000 in
theorem impl (n y m d : Int) (w : World) (c : ibase.Mon w) (hd : cal.isDate n y m d) : Calls Tryd.prog 59 #[.int .i64 n] w fun e w' => e = .returned (.tuple #[.int .i64 y, .int .i64 m, .int .i64 d]) ∧ w = w' := by
  have C := Lib.hid c
  clear c
  obtain ⟨o, hn⟩ := hd
  have z0 := cal.day_nonneg o
  have z1 := cal.in_year o
  have z2 := cal.in_month o
  have hdd : d = n - cal.NY y - cal.cum y m + 1 := by unfold cal.dayN at hn; omega
  have HD := Lib.hid hdd
  rw [hn] at z0 z1 z2
  obtain ⟨h1, h2, h3, h4, h5, h6, h7⟩ := o
  rw [hn] at h7
  clear hn hdd
  obtain ⟨z1, z3⟩ := z1
  obtain ⟨z2, z4⟩ := z2
  have HZ4 := z4
  have t1 : decide (0 ≤ n) = true := by simp; omega
  have t2 : decide (n ≤ 100000) = true := by simp; omega
  obtain ⟨n1, n2⟩ := cal.NY_bd y (by omega) (by omega)
  go_enter Tryd.func59, Tryd.ntmps59
  go_wp2_with fail
  refine (isDayT n w (by omega) (by omega)).mono ?_
  rintro e w' ⟨rfl, rfl⟩
  go_wp2
  go_loop [5] (fun i => ∃ k : Int, 1970 ≤ k ∧ k ≤ y ∧ i = .int .i64 k) (fun i => (y - intOf i).toNat)
  case atStart => exact ⟨1970, by omega, by omega, rfl⟩
  case round =>
    obtain ⟨k, k1, k2, rfl⟩ := hrel
    obtain ⟨f1, f2⟩ := cal.NY_bd (k + 1) (by omega) (by omega)
    by_cases hlt : k < y
    · have hm := cal.NY_lt k y (by omega) hlt
      have t3 : decide (cal.NY (k + 1) ≤ n) = true := by simp; omega
      go_wp2_with fail
      refine (ibase.newYear_impl (k + 1) w (by omega) (by omega)).mono ?_
      rintro e w' ⟨rfl, rfl⟩
      go_wp2
      go_round
      case rel => exact ⟨k + 1, by omega, by omega, rfl⟩
      case measure => simp [intOf]; omega
    · obtain rfl : k = y := by omega
      have t3 : decide (cal.NY (k + 1) ≤ n) = false := by simp; omega
      go_wp2_with fail
      refine (ibase.newYear_impl (k + 1) w (by omega) (by omega)).mono ?_
      rintro e w' ⟨rfl, rfl⟩
      go_wp2_with fail
      refine (ibase.newYear_impl k w (by omega) (by omega)).mono ?_
      rintro e w' ⟨rfl, rfl⟩
      go_wp2
      go_loop [6, 7] (fun i r => ∃ q : Int, 1 ≤ q ∧ q ≤ m ∧ i = .int .i64 q ∧ r = .int .i64 (n - cal.NY k - cal.cum k q)) (fun i _ => (m - intOf i).toNat)
      case atStart => exact ⟨1, by omega, by omega, rfl, by simp [cal.cum_1]⟩
      case round =>
        obtain ⟨q, q1, q2, rfl, rfl⟩ := hrel
        obtain ⟨e1, e2⟩ := cal.mlen_bd k q
        obtain ⟨g1, g2⟩ := cal.cum_bd k q (by omega) (by omega)
        have hs := cal.cum_succ k q (by omega) (by omega)
        by_cases hq : q < m
        · have hm := cal.cum_mono k (q + 1) m (by omega) (by omega) (by omega)
          have hz : cal.mlen k q ≤ n - cal.NY k - cal.cum k q := by omega
          have t4 : decide (cal.mlen k q ≤ n - cal.NY k - cal.cum k q) = true := by simp; omega
          have HS := Lib.hid hs
          clear hs hm
          go_wp2_with fail
          refine (ibase.mlen_impl k q w C.out q1 (by omega)).mono ?_
          rintro e w' ⟨rfl, rfl⟩
          go_wp2_with fail
          refine (ibase.mlen_impl k q w C.out q1 (by omega)).mono ?_
          rintro e w' ⟨rfl, rfl⟩
          go_wp2
          go_round
          case rel => exact ⟨q + 1, by omega, by omega, rfl, by rw [HS.out]; go_num⟩
          case measure => simp [intOf]; omega
        · obtain rfl : q = m := by omega
          have hz : n - cal.NY k - cal.cum k q < cal.mlen k q := by omega
          have t4 : decide (cal.mlen k q ≤ n - cal.NY k - cal.cum k q) = false := by simp; omega
          clear hs
          go_wp2_with fail
          refine (ibase.mlen_impl k q w C.out q1 (by omega)).mono ?_
          rintro e w' ⟨rfl, rfl⟩
          go_wp2
          go_ret3
          exact ⟨ret_3 rfl rfl HD.out.symm, rfl⟩
end Go.Proofs.YtchpjojndkkmeaaDoor.idateOf
namespace Go.Proofs.YtchpjojndkkmeaaDoor.imonthsOn
open Go.ChangeShapes Go.WideShapes Go.ChangeAt Go.RowKit
open monthsOn (dd res)
theorem impl_no (t n : Int) (w : World) (h : t < 0 ∨ 100000 < t ∨ n < 0 ∨ 600 < n) : Calls Tryd.prog 37 #[.int .i64 t, .int .i64 n] w fun e w' => e = .returned (.int .i64 (-1)) ∧ w = w' := by
  by_cases h1 : t < 0
  · have t1 : decide (0 ≤ t) = false := by simp; omega
    clear h
    go_enter Tryd.func37, Tryd.ntmps37
    go_wp2
    go_ret
    exact ⟨rfl, rfl⟩
  · have t1 : decide (0 ≤ t) = true := by simp; omega
    by_cases h2 : 100000 < t
    · have t2 : decide (t ≤ 100000) = false := by simp; omega
      clear h
      go_enter Tryd.func37, Tryd.ntmps37
      go_wp2
      go_ret
      exact ⟨rfl, rfl⟩
    · have t2 : decide (t ≤ 100000) = true := by simp; omega
      by_cases h3 : n < 0
      · have t3 : decide (n < 0) = true := by simp; omega
        have t4 : decide (0 ≤ n) = false := by simp; omega
        clear h
        go_enter Tryd.func37, Tryd.ntmps37
        go_wp2
        go_ret
        exact ⟨rfl, rfl⟩
      · have t3 : decide (n < 0) = false := by simp; omega
        have t4 : decide (0 ≤ n) = true := by simp; omega
        have t5 : decide (600 < n) = true := by simp; omega
        have t6 : decide (n ≤ 600) = false := by simp; omega
        clear h
        go_enter Tryd.func37, Tryd.ntmps37
        go_wp2
        go_ret
        exact ⟨rfl, rfl⟩
set_option maxHeartbeats 2000000 in
theorem impl_yes (t n y m d : Int) (w : World) (c : ibase.Mon w) (hd : cal.isDate t y m d) (n1 : 0 ≤ n) (n2 : n ≤ 600) : Calls Tryd.prog 37 #[.int .i64 t, .int .i64 n] w fun e w' => e = .returned (.int .i64 (res y m d n)) ∧ w = w' := by
  have lt := c.lt
  have C := Lib.hid c
  clear c
  have HD := Lib.hid hd
  obtain ⟨o, hn⟩ := hd
  have z0 := cal.day_nonneg o
  rw [hn] at z0
  obtain ⟨h1, h2, h3, h4, h5, h6, h7⟩ := o
  rw [hn] at h7
  clear hn
  have t1 : decide (n < 0) = false := by simp; omega
  have t2 : decide (600 < n) = false := by simp; omega
  have hr : res y m d n = if dayOf.ok (y + (m - 1 + n) / 12) ((m - 1 + n) % 12 + 1) (dd y m d n) = true then dayOf.val (y + (m - 1 + n) / 12) ((m - 1 + n) % 12 + 1) (dd y m d n) else -1 := rfl
  by_cases hm : d ≤ cal.mlen (y + (m - 1 + n) / 12) ((m - 1 + n) % 12 + 1)
  · have hdd : dd y m d n = d := if_pos hm
    rw [hdd] at hr
    cases hok : dayOf.ok (y + (m - 1 + n) / 12) ((m - 1 + n) % 12 + 1) d with
    | true =>
      have HR := Lib.hid (hr.trans (if_pos hok))
      have HDO := fun w1 (c1 : ibase.Mon w1) => Lib.hid (idayOf.impl (y + (m - 1 + n) / 12) ((m - 1 + n) % 12 + 1) d w1 c1)
      have HO := Lib.hid hok
      clear hr hdd hok
      have HDO2 := Lib.hid HDO
      clear HDO
      go_enter Tryd.func37, Tryd.ntmps37
      go_wp2_with fail
      refine (idateOf.isDayT t w (by omega) (by omega)).mono ?_
      rintro e w' ⟨rfl, rfl⟩
      go_wp2_with fail
      refine (idateOf.impl t y m d w C.out HD.out).mono ?_
      rintro e w' ⟨rfl, rfl⟩
      go_wp2_with fail
      refine (ibase.mlen_impl (y + (m - 1 + n) / 12) ((m - 1 + n) % 12 + 1) w C.out (by omega) (by omega)).mono ?_
      rintro e w' ⟨rfl, rfl⟩
      go_wp2_with fail
      refine (HDO2.out w C.out).out.mono ?_
      rintro e w' ⟨rfl, rfl⟩
      rw [HO.out]
      go_wp2
      go_ret
      exact ⟨base.ret_int HR.out.symm, rfl⟩
    | false =>
      have HR := Lib.hid (hr.trans (if_neg (by simp [hok])))
      have HDO := fun w1 (c1 : ibase.Mon w1) => Lib.hid (idayOf.impl (y + (m - 1 + n) / 12) ((m - 1 + n) % 12 + 1) d w1 c1)
      have HO := Lib.hid hok
      clear hr hdd hok
      have HDO2 := Lib.hid HDO
      clear HDO
      go_enter Tryd.func37, Tryd.ntmps37
      go_wp2_with fail
      refine (idateOf.isDayT t w (by omega) (by omega)).mono ?_
      rintro e w' ⟨rfl, rfl⟩
      go_wp2_with fail
      refine (idateOf.impl t y m d w C.out HD.out).mono ?_
      rintro e w' ⟨rfl, rfl⟩
      go_wp2_with fail
      refine (ibase.mlen_impl (y + (m - 1 + n) / 12) ((m - 1 + n) % 12 + 1) w C.out (by omega) (by omega)).mono ?_
      rintro e w' ⟨rfl, rfl⟩
      go_wp2_with fail
      refine (HDO2.out w C.out).out.mono ?_
      rintro e w' ⟨rfl, rfl⟩
      rw [HO.out]
      go_wp2
      go_ret
      exact ⟨base.ret_int HR.out.symm, rfl⟩
  · have hdd : dd y m d n = (cal.mlen (y + (m - 1 + n) / 12) ((m - 1 + n) % 12 + 1)) := if_neg hm
    rw [hdd] at hr
    cases hok : dayOf.ok (y + (m - 1 + n) / 12) ((m - 1 + n) % 12 + 1) (cal.mlen (y + (m - 1 + n) / 12) ((m - 1 + n) % 12 + 1)) with
    | true =>
      have HR := Lib.hid (hr.trans (if_pos hok))
      have HDO := fun w1 (c1 : ibase.Mon w1) => Lib.hid (idayOf.impl (y + (m - 1 + n) / 12) ((m - 1 + n) % 12 + 1) (cal.mlen (y + (m - 1 + n) / 12) ((m - 1 + n) % 12 + 1)) w1 c1)
      have HO := Lib.hid hok
      clear hr hdd hok
      have HDO2 := Lib.hid HDO
      clear HDO
      go_enter Tryd.func37, Tryd.ntmps37
      go_wp2_with fail
      refine (idateOf.isDayT t w (by omega) (by omega)).mono ?_
      rintro e w' ⟨rfl, rfl⟩
      go_wp2_with fail
      refine (idateOf.impl t y m d w C.out HD.out).mono ?_
      rintro e w' ⟨rfl, rfl⟩
      go_wp2_with fail
      refine (ibase.mlen_impl (y + (m - 1 + n) / 12) ((m - 1 + n) % 12 + 1) w C.out (by omega) (by omega)).mono ?_
      rintro e w' ⟨rfl, rfl⟩
      go_wp2_with fail
      refine (HDO2.out w C.out).out.mono ?_
      rintro e w' ⟨rfl, rfl⟩
      rw [HO.out]
      go_wp2
      go_ret
      exact ⟨base.ret_int HR.out.symm, rfl⟩
    | false =>
      have HR := Lib.hid (hr.trans (if_neg (by simp [hok])))
      have HDO := fun w1 (c1 : ibase.Mon w1) => Lib.hid (idayOf.impl (y + (m - 1 + n) / 12) ((m - 1 + n) % 12 + 1) (cal.mlen (y + (m - 1 + n) / 12) ((m - 1 + n) % 12 + 1)) w1 c1)
      have HO := Lib.hid hok
      clear hr hdd hok
      have HDO2 := Lib.hid HDO
      clear HDO
      go_enter Tryd.func37, Tryd.ntmps37
      go_wp2_with fail
      refine (idateOf.isDayT t w (by omega) (by omega)).mono ?_
      rintro e w' ⟨rfl, rfl⟩
      go_wp2_with fail
      refine (idateOf.impl t y m d w C.out HD.out).mono ?_
      rintro e w' ⟨rfl, rfl⟩
      go_wp2_with fail
      refine (ibase.mlen_impl (y + (m - 1 + n) / 12) ((m - 1 + n) % 12 + 1) w C.out (by omega) (by omega)).mono ?_
      rintro e w' ⟨rfl, rfl⟩
      go_wp2_with fail
      refine (HDO2.out w C.out).out.mono ?_
      rintro e w' ⟨rfl, rfl⟩
      rw [HO.out]
      go_wp2
      go_ret
      exact ⟨base.ret_int HR.out.symm, rfl⟩
end Go.Proofs.YtchpjojndkkmeaaDoor.imonthsOn

namespace Go.Proofs.YtchpjojndkkmeaaDoor.idue
open Go.ChangeShapes Go.WideShapes Go.ChangeAt Go.RowKit
open due (info2 pre pre_succ pre_len Zs zs_fun GotL owns_below owns_more owns_empty)
/-- MonthsOn answers f n, by both texts. -/
def MonI (t : Int) (f : Int → Int) : Prop := ∀ n w, ibase.Mon w → Calls Tryd.prog 37 #[.int .i64 t, .int .i64 n] w fun e w' => e = .returned (.int .i64 (f n)) ∧ w = w'
set_option maxHeartbeats 1000000 in
theorem impl (t n : Int) (f : Int → Int) (w : World) (hf : MonI t f) (hlo : ∀ n, -1 ≤ f n) (c : ibase.Mon w) : Calls Tryd.prog 16 #[.int .i64 t, .int .i64 n] w (GotL w f n) := by
  have F := Lib.hid hf
  have C := Lib.hid c
  have lt0 := c.lt
  have HLO := Lib.hid hlo
  clear hf c hlo
  by_cases h : n < 1 ∨ 24 < n
  · by_cases h1 : n < 1
    · have t1 : decide (n < 1) = true := by simp; omega
      clear h
      go_enter Tryd.func16, Tryd.ntmps16
      go_wp2
      go_ret
      exact ⟨_, [], rfl, .inl ⟨.inl h1, rfl⟩, World.ownsRow_nil _ _ _ _, Below.refl _ _⟩
    · have t1 : decide (n < 1) = false := by simp; omega
      have h2 : 24 < n := by omega
      have t2 : decide (24 < n) = true := by simp; omega
      clear h
      go_enter Tryd.func16, Tryd.ntmps16
      go_wp2
      go_ret
      exact ⟨_, [], rfl, .inl ⟨.inr (.inl h2), rfl⟩, World.ownsRow_nil _ _ _ _, Below.refl _ _⟩
  · obtain ⟨N, rfl⟩ := Int.eq_ofNat_of_zero_le (show 0 ≤ n by omega)
    have N1 : 1 ≤ N := by omega
    have N2 : N ≤ 24 := by omega
    have t1 : decide ((N : Int) < 1) = false := by simp; omega
    have t2 : decide ((24 : Int) < (N : Int)) = false := by simp; omega
    clear h
    obtain ⟨i0, hi, hz0, hz1, hz2⟩ := info_parts info2
    go_enter Tryd.func16, Tryd.ntmps16
    go_wp2_with (at_make; refine wpList_make_own _ rfl _ _ 37 rfl w.heap.size 2 i0 (.int .i64 0) 1 Tryd.underlying37 hi hz0 hz1 _ _ _ N rfl rfl rfl ?b2 ?b3 (Nat.le_refl _) ?_)
    case b2 => (try rw [hz2]); omega
    case b3 => unfold maxLen; omega
    intro w0 hown0 hgrow0
    have OWN0 := Lib.hid hown0
    have B0 := Lib.hid ((Below.refl w.heap.size w).grown hgrow0 (Nat.le_refl _) (fun k h => by cases h))
    clear hown0 hgrow0
    go_wp2
    go_loopw [5, 6] (fun v i wr => Below w.heap.size w wr ∧ ∃ m : Nat, m ≤ N ∧ i = .int .i64 ((m : Int) + 1) ∧ (∀ j : Nat, j < m → f ((j : Int) + 1) ≠ -1) ∧ wr.ownsRow w.heap.size 2 1 v m ((pre f m).map (Value.int .i64))) (fun _ i _ => (N + 1 - (intOf i).toNat))
    case atStart => exact ⟨B0.out, 0, by omega, by go_num, fun j h => by omega, OWN0.out⟩
    case round =>
      obtain ⟨hB, m, hm, rfl, hne, hown⟩ := hrel
      have BB := Lib.hid hB
      have NE := Lib.hid hne
      have OWN := Lib.hid hown
      have CR := Lib.hid (C.out.below hB lt0)
      have hsz := hB.size
      clear hB hne hown
      by_cases hlt : m < N
      · have u1 : decide ((m : Int) + 1 ≤ (N : Int)) = true := by simp; omega
        go_wp2_with fail
        refine (F.out ((m : Int) + 1) _ CR.out).mono ?_
        rintro e w' ⟨rfl, rfl⟩
        by_cases hq : f ((m : Int) + 1) = -1
        · have q1 : (f ((m : Int) + 1) == -1) = true := by simp [hq]
          have HQ := Lib.hid hq
          clear hq
          go_wp2
          go_ret
          exact ⟨_, [], rfl, .inl ⟨.inr (.inr ⟨m, by omega, HQ.out⟩), rfl⟩, World.ownsRow_nil _ _ _ _, BB.out⟩
        · have q1 : (f ((m : Int) + 1) == -1) = false := by simp [hq]
          have HQ := Lib.hid hq
          clear hq
          go_wp2_with (at_builtin; refine wpList_append_own _ rfl _ _ 37 rfl w.heap.size 2 i0 (.int .i64 0) 1 8 Tryd.underlying37 hi hz0 hz1 hz2 rfl (by decide) _ _ _ rfl (OWN.out.alloc _) ⟨wr.heap.size, 0, none⟩ 1 1 [.int .i64 (f ((m : Int) + 1))] rfl rfl ?c1 ?c2 ?c3 ?c4 ?c5 ?_)
          case c1 =>
            intro j u hj
            match j, hj with
            | 0, hj => simp at hj; subst hj; simp [Addr.add]
          case c2 => intro u hu; simp at hu; subst hu; rfl
          case c3 => unfold maxLen; omega
          case c4 => omega
          case c5 => simp; omega
          · intro v' w2 hown' hgrow _
            have OWN2 := Lib.hid (owns_more hown')
            have B2 := Lib.hid ((BB.out.alloc hsz _).grown hgrow (by simp; omega) (fun k hk => by
              rcases OWN.out.2 with ⟨rfl, _⟩ | ⟨g, cap, cur, rfl, hg, _⟩
              · cases hk
              · cases hk; exact hg))
            have NE2 : Hid (∀ j : Nat, j < m + 1 → f ((j : Int) + 1) ≠ -1) := Lib.hid fun j hj => by
              by_cases e : j = m
              · subst e; exact HQ.out
              · exact NE.out j (by omega)
            clear hown' hgrow
            go_wp2
            go_roundw
            case rel => exact ⟨B2.out, m + 1, by omega, by go_num, NE2.out, OWN2.out⟩
            case measure => simp [intOf]; omega
      · have u1 : decide ((m : Int) + 1 ≤ (N : Int)) = false := by simp; omega
        obtain rfl : m = N := by omega
        go_wp2
        go_ret
        exact ⟨_, pre f m, rfl, .inr ⟨by omega, by omega, fun i hi => NE.out i (by omega), by rw [Int.toNat_natCast]⟩, by rw [pre_len]; exact OWN.out, BB.out⟩
theorem monI (t : Int) : MonI t (mf.mf t) := fun n w c => by
  by_cases h : t < 0 ∨ 100000 < t ∨ n < 0 ∨ 600 < n
  · rw [mf.mf_no h]; exact imonthsOn.impl_no t n w h
  · rw [mf.mf_yes h]; exact imonthsOn.impl_yes t n _ _ _ w c (mf.dt_is (by omega) (by omega)) (by omega) (by omega)
theorem dueI (d n : Int) (w : World) (c : ibase.Mon w) : Calls Tryd.prog 16 #[.int .i64 d, .int .i64 n] w (mf.GotD w (mf.dz d n)) := by
  refine (impl d n (mf.mf d) w (monI d) (fun n => (mf.mf_bd d n).1) c).mono ?_
  rintro e w' ⟨v, zs, rfl, hz, ho, hb⟩
  obtain rfl := due.zs_fun hz (mf.dz_zs d n)
  obtain ⟨a, cap, g, rfl, hr, hg⟩ := rows.of_owns ho
  exact ⟨a, cap, g, rfl, hr, hg, hb⟩
end Go.Proofs.YtchpjojndkkmeaaDoor.idue
