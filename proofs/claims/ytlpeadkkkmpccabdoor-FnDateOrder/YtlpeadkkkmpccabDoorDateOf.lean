/-
  Plain helpers: contracts of the two DateOf and of the two MonthsOn functions. Conditions: none.
-/
import Derived.Test.YtlpeadkkkmpccabDoorDayOf
namespace Go.Proofs.YtlpeadkkkmpccabDoor.dateOf
open Go.ChangeShapes Go.WideShapes Go.ChangeAt Go.RowKit

theorem ret_3 {a b c a' b' c' : Int} (h : a = a') (h' : b = b') (h'' : c = c') : Ending.returned (.tuple #[.int .i64 a, .int .i64 b, .int .i64 c]) = .returned (.tuple #[.int .i64 a', .int .i64 b', .int .i64 c']) := by rw [h, h', h'']

theorem impl_no (n : Int) (w : World) (h : n < 0 ∨ 100000 < n) : Calls Tryd.prog 16 #[.int .i64 n] w fun e w' => e = .returned (.tuple #[.int .i64 0, .int .i64 0, .int .i64 0]) ∧ w = w' := by
  by_cases h1 : n < 0
  · have t1 : decide (0 ≤ n) = false := by simp; omega
    clear h
    go_enter Tryd.func16, Tryd.ntmps16
    go_wp2
    go_ret3
    exact ⟨rfl, rfl⟩
  · have t1 : decide (0 ≤ n) = true := by simp; omega
    have t2 : decide (n ≤ 100000) = false := by simp; omega
    clear h
    go_enter Tryd.func16, Tryd.ntmps16
    go_wp2
    go_ret3
    exact ⟨rfl, rfl⟩
theorem spec_no (n : Int) (w : World) (h : n < 0 ∨ 100000 < n) : Calls Tryd.prog 34 #[.int .i64 n] w fun e w' => e = .returned (.tuple #[.int .i64 0, .int .i64 0, .int .i64 0]) ∧ w = w' := by
  by_cases h1 : n < 0
  · have t1 : decide (0 ≤ n) = false := by simp; omega
    clear h
    go_enter Tryd.func34, Tryd.ntmps34
    go_wp2
    go_ret3
    exact ⟨rfl, rfl⟩
  · have t1 : decide (0 ≤ n) = true := by simp; omega
    have t2 : decide (n ≤ 100000) = false := by simp; omega
    clear h
    go_enter Tryd.func34, Tryd.ntmps34
    go_wp2
    go_ret3
    exact ⟨rfl, rfl⟩

theorem isDayT (n : Int) (w : World) (h1 : 0 ≤ n) (h2 : n ≤ 100000) : Calls Tryd.prog 41 #[.int .i64 n] w fun e w' => e = .returned (.bool true) ∧ w = w' := by
  have t1 : decide (0 ≤ n) = true := by simp; omega
  have t2 : decide (n ≤ 100000) = true := by simp; omega
  go_enter Tryd.func41, Tryd.ntmps41
  go_wp2
  go_ret
  exact ⟨rfl, rfl⟩
theorem l2DayT (n : Int) (w : World) (h1 : 0 ≤ n) (h2 : n ≤ 100000) : Calls Tryd.prog 47 #[.int .i64 n] w fun e w' => e = .returned (.bool true) ∧ w = w' := by
  have t1 : decide (0 ≤ n) = true := by simp; omega
  have t2 : decide (n ≤ 100000) = true := by simp; omega
  go_enter Tryd.func47, Tryd.ntmps47
  go_wp2
  go_ret
  exact ⟨rfl, rfl⟩

set_option maxHeartbeats 1000000 in
theorem impl (n y m d : Int) (w : World) (c : base.Mon w) (hd : cal.isDate n y m d) : Calls Tryd.prog 16 #[.int .i64 n] w fun e w' => e = .returned (.tuple #[.int .i64 y, .int .i64 m, .int .i64 d]) ∧ w = w' := by
  have C := Lib.hid c
  clear c
  obtain ⟨o, hn⟩ := hd
  have z0 := cal.day_nonneg o
  have z1 := cal.in_year o
  have z2 := cal.in_month o
  have hdd : d = n - cal.NY y - cal.cum y m + 1 := by unfold cal.dayN at hn; omega
  have HD := Lib.hid hdd
  rw [hn] at z0 z1 z2
  obtain ⟨h1, h2, h3, h4, h5, h6, h7⟩ := o
  rw [hn] at h7
  clear hn hdd
  obtain ⟨z1, z3⟩ := z1
  obtain ⟨z2, z4⟩ := z2
  have HZ4 := z4
  have t1 : decide (0 ≤ n) = true := by simp; omega
  have t2 : decide (n ≤ 100000) = true := by simp; omega
  obtain ⟨n1, n2⟩ := cal.NY_bd y (by omega) (by omega)
  go_enter Tryd.func16, Tryd.ntmps16
  go_wp2_with fail
  refine (isDayT n w (by omega) (by omega)).mono ?_
  rintro e w' ⟨rfl, rfl⟩
  go_wp2
  go_loop [5] (fun i => ∃ k : Int, 1970 ≤ k ∧ k ≤ y ∧ i = .int .i64 k) (fun i => (y - intOf i).toNat)
  case atStart => exact ⟨1970, by omega, by omega, rfl⟩
  case round =>
    obtain ⟨k, k1, k2, rfl⟩ := hrel
    obtain ⟨f1, f2⟩ := cal.NY_bd (k + 1) (by omega) (by omega)
    by_cases hlt : k < y
    · have hm := cal.NY_lt k y (by omega) hlt
      have t3 : decide (cal.NY (k + 1) ≤ n) = true := by simp; omega
      go_wp2_with fail
      refine (base.newYear_impl (k + 1) w (by omega) (by omega)).mono ?_
      rintro e w' ⟨rfl, rfl⟩
      go_wp2
      go_round
      case rel => exact ⟨k + 1, by omega, by omega, rfl⟩
      case measure => simp [intOf]; omega
    · obtain rfl : k = y := by omega
      have t3 : decide (cal.NY (k + 1) ≤ n) = false := by simp; omega
      go_wp2_with fail
      refine (base.newYear_impl (k + 1) w (by omega) (by omega)).mono ?_
      rintro e w' ⟨rfl, rfl⟩
      go_wp2_with fail
      refine (base.newYear_impl k w (by omega) (by omega)).mono ?_
      rintro e w' ⟨rfl, rfl⟩
      go_wp2
      go_loop [6, 7] (fun i r => ∃ q : Int, 1 ≤ q ∧ q ≤ m ∧ i = .int .i64 q ∧ r = .int .i64 (n - cal.NY k - cal.cum k q)) (fun i _ => (m - intOf i).toNat)
      case atStart => exact ⟨1, by omega, by omega, rfl, by simp [cal.cum_1]⟩
      case round =>
        obtain ⟨q, q1, q2, rfl, rfl⟩ := hrel
        obtain ⟨e1, e2⟩ := cal.mlen_bd k q
        obtain ⟨g1, g2⟩ := cal.cum_bd k q (by omega) (by omega)
        have hs := cal.cum_succ k q (by omega) (by omega)
        by_cases hq : q < m
        · have hm := cal.cum_mono k (q + 1) m (by omega) (by omega) (by omega)
          have hz : cal.mlen k q ≤ n - cal.NY k - cal.cum k q := by omega
          have t4 : decide (cal.mlen k q ≤ n - cal.NY k - cal.cum k q) = true := by simp; omega
          have HS := Lib.hid hs
          clear hs hm
          go_wp2_with fail
          refine (base.mlen_impl k q w C.out q1 (by omega)).mono ?_
          rintro e w' ⟨rfl, rfl⟩
          go_wp2_with fail
          refine (base.mlen_impl k q w C.out q1 (by omega)).mono ?_
          rintro e w' ⟨rfl, rfl⟩
          go_wp2
          go_round
          case rel => exact ⟨q + 1, by omega, by omega, rfl, by rw [HS.out]; go_num⟩
          case measure => simp [intOf]; omega
        · obtain rfl : q = m := by omega
          have hz : n - cal.NY k - cal.cum k q < cal.mlen k q := by omega
          have t4 : decide (cal.mlen k q ≤ n - cal.NY k - cal.cum k q) = false := by simp; omega
          clear hs
          go_wp2_with fail
          refine (base.mlen_impl k q w C.out q1 (by omega)).mono ?_
          rintro e w' ⟨rfl, rfl⟩
          go_wp2
          go_ret3
          exact ⟨ret_3 rfl rfl HD.out.symm, rfl⟩

set_option maxHeartbeats 1000000 in
theorem spec (n y m d : Int) (w : World) (c : base.Mon w) (hd : cal.isDate n y m d) : Calls Tryd.prog 34 #[.int .i64 n] w fun e w' => e = .returned (.tuple #[.int .i64 y, .int .i64 m, .int .i64 d]) ∧ Below w.heap.size w w' := by
  have lt := c.lt
  have C := Lib.hid c
  clear c
  obtain ⟨o, hn⟩ := hd
  have z0 := cal.day_nonneg o
  have z1 := cal.in_year o
  have z2 := cal.in_month o
  have hdd : d = n - cal.NY y - cal.cum y m + 1 := by unfold cal.dayN at hn; omega
  have HD := Lib.hid hdd
  rw [hn] at z0 z1 z2
  obtain ⟨h1, h2, h3, h4, h5, h6, h7⟩ := o
  rw [hn] at h7
  clear hn hdd
  obtain ⟨z1, z3⟩ := z1
  obtain ⟨z2, z4⟩ := z2
  have t1 : decide (0 ≤ n) = true := by simp; omega
  have t2 : decide (n ≤ 100000) = true := by simp; omega
  obtain ⟨n1, n2⟩ := cal.NY_bd y (by omega) (by omega)
  go_enter Tryd.func34, Tryd.ntmps34
  go_wp2_with fail
  refine (l2DayT n w (by omega) (by omega)).mono ?_
  rintro e w' ⟨rfl, rfl⟩
  go_wp2
  go_loop [0, 5] (fun r i => ∃ k : Int, 1970 ≤ k ∧ k ≤ y ∧ i = .int .i64 k ∧ r = .int .i64 (n - cal.NY k)) (fun _ i => (y - intOf i).toNat)
  case atStart => exact ⟨1970, by omega, by omega, rfl, by simp [cal.NY_1970]⟩
  case round =>
    obtain ⟨k, k1, k2, rfl, rfl⟩ := hrel
    obtain ⟨f1, f2⟩ := cal.NY_bd k (by omega) (by omega)
    obtain ⟨l1, l2⟩ := cal.lp_01 k
    have hs := cal.NY_succ k (by omega)
    by_cases hlt : k < y
    · have hm := cal.NY_lt k y (by omega) hlt
      have hz : 365 + cal.lp k ≤ n - cal.NY k := by omega
      have t3 : decide (365 + cal.lp k ≤ n - cal.NY k) = true := by simp; omega
      have HS := Lib.hid hs
      clear hs hm
      go_wp2_with fail
      refine (base.ylen_spec k w).mono ?_
      rintro e w' ⟨rfl, rfl⟩
      go_wp2_with fail
      refine (base.ylen_spec k w).mono ?_
      rintro e w' ⟨rfl, rfl⟩
      go_wp2
      go_round
      case rel => exact ⟨k + 1, by omega, by omega, rfl, by rw [HS.out]; go_num⟩
      case measure => simp [intOf]; omega
    · obtain rfl : k = y := by omega
      have hz : n - cal.NY k < 365 + cal.lp k := by omega
      have t3 : decide (365 + cal.lp k ≤ n - cal.NY k) = false := by simp; omega
      clear hs
      go_wp2_with fail
      refine (base.ylen_spec k w).mono ?_
      rintro e w' ⟨rfl, rfl⟩
      go_wp2
      go_loopw [0, 6] (fun r i wr => Below w.heap.size w wr ∧ ∃ q : Int, 1 ≤ q ∧ q ≤ m ∧ i = .int .i64 q ∧ r = .int .i64 (n - cal.NY k - cal.cum k q)) (fun _ i _ => (m - intOf i).toNat)
      case atStart => exact ⟨Below.refl _ _, 1, by omega, by omega, rfl, by simp [cal.cum_1]⟩
      case round =>
        obtain ⟨hB, q, q1, q2, rfl, rfl⟩ := hrel
        obtain ⟨e1, e2⟩ := cal.mlen_bd k q
        obtain ⟨g1, g2⟩ := cal.cum_bd k q (by omega) (by omega)
        have hs := cal.cum_succ k q (by omega) (by omega)
        by_cases hq : q < m
        · have hm := cal.cum_mono k (q + 1) m (by omega) (by omega) (by omega)
          have hz : cal.mlen k q ≤ n - cal.NY k - cal.cum k q := by omega
          have t4 : decide (cal.mlen k q ≤ n - cal.NY k - cal.cum k q) = true := by simp; omega
          have HS := Lib.hid hs
          clear hs hm
          go_wp2_with fail
          refine (base.mlen_spec k q _ (C.out.below hB lt) q1 (by omega)).mono ?_
          rintro e w1 ⟨rfl, hb1⟩
          have hB1 := hB.trans (hb1.mono hB.size)
          go_wp2_with fail
          refine (base.mlen_spec k q w1 (C.out.below hB1 lt) q1 (by omega)).mono ?_
          rintro e w2 ⟨rfl, hb2⟩
          go_wp2
          go_roundw
          case rel => exact ⟨hB1.trans (hb2.mono hB1.size), q + 1, by omega, by omega, rfl, by rw [HS.out]; go_num⟩
          case measure => simp [intOf]; omega
        · obtain rfl : q = m := by omega
          have hz : n - cal.NY k - cal.cum k q < cal.mlen k q := by omega
          have t4 : decide (cal.mlen k q ≤ n - cal.NY k - cal.cum k q) = false := by simp; omega
          clear hs
          go_wp2_with fail
          refine (base.mlen_spec k q _ (C.out.below hB lt) q1 (by omega)).mono ?_
          rintro e w1 ⟨rfl, hb1⟩
          go_wp2
          go_ret3
          exact ⟨ret_3 rfl rfl HD.out.symm, hB.trans (hb1.mono hB.size)⟩
end Go.Proofs.YtlpeadkkkmpccabDoor.dateOf
