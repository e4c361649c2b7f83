/-
  Plain helpers: contracts of the two DayOf functions. Conditions: none.
-/
import Derived.Test.YtlpeadkkkmpccabDoorBase
namespace Go.Proofs.YtlpeadkkkmpccabDoor.dayOf
open Go.ChangeShapes Go.WideShapes Go.ChangeAt Go.RowKit

theorem ret_ib {a b : Int} {t u : Bool} (h : a = b) (h' : t = u) : Ending.returned (.tuple #[.int .i64 a, .bool t]) = .returned (.tuple #[.int .i64 b, .bool u]) := by rw [h, h']


theorem impl_form (y m d : Int) (w : World) (h : y < 1970 ∨ 2243 < y ∨ m < 1 ∨ 12 < m) : Calls Tryd.prog 19 #[.int .i64 y, .int .i64 m, .int .i64 d] w fun e w' => e = .returned (.tuple #[.int .i64 0, .bool false]) ∧ w = w' := by
  by_cases h1 : y < 1970
  · clear h
    go_enter Tryd.func19, Tryd.ntmps19
    go_wp2
    go_ret2
    exact ⟨rfl, rfl⟩
  · by_cases h2 : 2243 < y
    · clear h
      go_enter Tryd.func19, Tryd.ntmps19
      go_wp2
      go_ret2
      exact ⟨rfl, rfl⟩
    · by_cases h3 : m < 1
      · clear h
        go_enter Tryd.func19, Tryd.ntmps19
        go_wp2
        go_ret2
        exact ⟨rfl, rfl⟩
      · have h4 : 12 < m := by omega
        clear h
        go_enter Tryd.func19, Tryd.ntmps19
        go_wp2
        go_ret2
        exact ⟨rfl, rfl⟩

theorem impl_d (y m d : Int) (w : World) (c : base.Mon w) (h1 : 1970 ≤ y) (h2 : y ≤ 2243) (h3 : 1 ≤ m) (h4 : m ≤ 12) (h : d < 1 ∨ cal.mlen y m < d) : Calls Tryd.prog 19 #[.int .i64 y, .int .i64 m, .int .i64 d] w fun e w' => e = .returned (.tuple #[.int .i64 0, .bool false]) ∧ w = w' := by
  have C := Lib.hid c
  clear c
  by_cases h5 : d < 1
  · clear h
    go_enter Tryd.func19, Tryd.ntmps19
    go_wp2
    go_ret2
    exact ⟨rfl, rfl⟩
  · have h6 : cal.mlen y m < d := by omega
    clear h
    go_enter Tryd.func19, Tryd.ntmps19
    go_wp2_with fail
    refine (base.mlen_impl y m w C.out h3 h4).mono ?_
    rintro e w' ⟨rfl, rfl⟩
    go_wp2
    go_ret2
    exact ⟨rfl, rfl⟩

def dayR (y m d : Int) : Int := if cal.dayN y m d ≤ 100000 then cal.dayN y m d else 0
def dayB (y m d : Int) : Bool := decide (cal.dayN y m d ≤ 100000)

set_option maxHeartbeats 1000000 in
theorem impl_in (y m d : Int) (w : World) (c : base.Mon w) (h1 : 1970 ≤ y) (h2 : y ≤ 2243) (h3 : 1 ≤ m) (h4 : m ≤ 12) (h5 : 1 ≤ d) (h6 : d ≤ cal.mlen y m) :
    Calls Tryd.prog 19 #[.int .i64 y, .int .i64 m, .int .i64 d] w fun e w' => e = .returned (.tuple #[.int .i64 (dayR y m d), .bool (dayB y m d)]) ∧ w = w' := by
  have C := Lib.hid c
  clear c
  obtain ⟨m1, m2⟩ := cal.mlen_bd y m
  obtain ⟨n1, n2⟩ := cal.NY_bd y (by omega) (by omega)
  obtain ⟨c1, c2⟩ := cal.cum_bd y m (by omega) (by omega)
  have n0 := cal.NY_mono 1970 y (by omega) h1
  rw [cal.NY_1970] at n0
  have fin : (cal.NY y + d - 1 + cal.cum y m ≤ 100000 ∧ dayR y m d = cal.NY y + d - 1 + cal.cum y m ∧ dayB y m d = true) ∨ (100000 < cal.NY y + d - 1 + cal.cum y m ∧ dayR y m d = 0 ∧ dayB y m d = false) := by
    have e : cal.dayN y m d = cal.NY y + d - 1 + cal.cum y m := by unfold cal.dayN; omega
    unfold dayR dayB
    rw [e]
    by_cases q : cal.NY y + d - 1 + cal.cum y m ≤ 100000
    · left; exact ⟨q, if_pos q, by simp [q]⟩
    · right; exact ⟨by omega, if_neg q, by simp [q]⟩
  have FIN := Lib.hid fin
  clear fin
  have t1 : decide (y < 1970) = false := by simp; omega
  have t2 : decide (2243 < y) = false := by simp; omega
  have t3 : decide (m < 1) = false := by simp; omega
  have t4 : decide (12 < m) = false := by simp; omega
  have t5 : decide (d < 1) = false := by simp; omega
  have t6 : decide (cal.mlen y m < d) = false := by simp; omega
  go_enter Tryd.func19, Tryd.ntmps19
  go_wp2_with fail
  refine (base.mlen_impl y m w C.out h3 h4).mono ?_
  rintro e w' ⟨rfl, rfl⟩
  go_wp2_with fail
  refine (base.newYear_impl y w (by omega) (by omega)).mono ?_
  rintro e w' ⟨rfl, rfl⟩
  go_wp2
  go_loop [8, 9] (fun n i => ∃ k : Int, 1 ≤ k ∧ k ≤ m ∧ i = .int .i64 k ∧ n = .int .i64 (cal.NY y + d - 1 + cal.cum y k)) (fun _ i => (m - intOf i).toNat)
  case atStart => exact ⟨1, by omega, by omega, rfl, by simp [cal.cum_1]⟩
  case round =>
    obtain ⟨k, k1, k2, rfl, rfl⟩ := hrel
    obtain ⟨e1, e2⟩ := cal.mlen_bd y k
    obtain ⟨f1, f2⟩ := cal.cum_bd y k (by omega) (by omega)
    by_cases hlt : k < m
    · have HS := Lib.hid (cal.cum_succ y k (by omega) (by omega))
      go_wp2_with fail
      refine (base.mlen_impl y k w C.out k1 (by omega)).mono ?_
      rintro e w' ⟨rfl, rfl⟩
      go_wp2
      go_round
      case rel => exact ⟨k + 1, by omega, by omega, rfl, by rw [HS.out]; go_num⟩
      case measure => simp [intOf]; omega
    · obtain rfl : k = m := by omega
      rcases FIN.out with ⟨q, e, e'⟩ | ⟨q, e, e'⟩
      · have HE := Lib.hid e; have HE' := Lib.hid e'; clear e e'
        have q0 : decide (0 ≤ cal.NY y + d - 1 + cal.cum y k) = true := by simp; omega
        have q1 : decide (cal.NY y + d - 1 + cal.cum y k ≤ 100000) = true := by simp; omega
        go_wp2
        go_ret2
        exact ⟨ret_ib HE.out.symm HE'.out.symm, rfl⟩
      · have HE := Lib.hid e; have HE' := Lib.hid e'; clear e e'
        have q0 : decide (0 ≤ cal.NY y + d - 1 + cal.cum y k) = true := by simp; omega
        have q1 : decide (cal.NY y + d - 1 + cal.cum y k ≤ 100000) = false := by simp; omega
        go_wp2
        go_ret2
        exact ⟨ret_ib HE.out.symm HE'.out.symm, rfl⟩

/-- What DayOf answers, at every argument. -/
def val (y m d : Int) : Int := if 1970 ≤ y ∧ y ≤ 2243 ∧ 1 ≤ m ∧ m ≤ 12 ∧ 1 ≤ d ∧ d ≤ cal.mlen y m ∧ cal.dayN y m d ≤ 100000 then cal.dayN y m d else 0
def ok (y m d : Int) : Bool := decide (1970 ≤ y ∧ y ≤ 2243 ∧ 1 ≤ m ∧ m ≤ 12 ∧ 1 ≤ d ∧ d ≤ cal.mlen y m ∧ cal.dayN y m d ≤ 100000)
theorem no_of {y m d : Int} (h : ¬ (1970 ≤ y ∧ y ≤ 2243 ∧ 1 ≤ m ∧ m ≤ 12 ∧ 1 ≤ d ∧ d ≤ cal.mlen y m ∧ cal.dayN y m d ≤ 100000)) : val y m d = 0 ∧ ok y m d = false := ⟨if_neg h, by unfold ok; simp [h]⟩
theorem in_of {y m d : Int} (h1 : 1970 ≤ y) (h2 : y ≤ 2243) (h3 : 1 ≤ m) (h4 : m ≤ 12) (h5 : 1 ≤ d) (h6 : d ≤ cal.mlen y m) : val y m d = dayR y m d ∧ ok y m d = dayB y m d := by
  unfold val ok dayR dayB
  by_cases q : cal.dayN y m d ≤ 100000
  · rw [if_pos ⟨h1, h2, h3, h4, h5, h6, q⟩, if_pos q]; simp [h1, h2, h3, h4, h5, h6, q]
  · rw [if_neg (fun e => q e.2.2.2.2.2.2), if_neg q]; simp [q]
theorem impl (y m d : Int) (w : World) (c : base.Mon w) : Calls Tryd.prog 19 #[.int .i64 y, .int .i64 m, .int .i64 d] w fun e w' => e = .returned (.tuple #[.int .i64 (val y m d), .bool (ok y m d)]) ∧ w = w' := by
  by_cases hf : y < 1970 ∨ 2243 < y ∨ m < 1 ∨ 12 < m
  · obtain ⟨e1, e2⟩ := no_of (y := y) (m := m) (d := d) (by omega)
    rw [e1, e2]; exact impl_form y m d w hf
  · by_cases hd : d < 1 ∨ cal.mlen y m < d
    · obtain ⟨e1, e2⟩ := no_of (y := y) (m := m) (d := d) (by omega)
      rw [e1, e2]; exact impl_d y m d w c (by omega) (by omega) (by omega) (by omega) hd
    · obtain ⟨e1, e2⟩ := in_of (y := y) (m := m) (d := d) (by omega) (by omega) (by omega) (by omega) (by omega) (by omega)
      rw [e1, e2]; exact impl_in y m d w c (by omega) (by omega) (by omega) (by omega) (by omega) (by omega)

theorem inT (n lo hi : Int) (w : World) (h1 : lo ≤ n) (h2 : n ≤ hi) : Calls Tryd.prog 44 #[.int .i64 n, .int .i64 lo, .int .i64 hi] w fun e w' => e = .returned (.bool true) ∧ w = w' := by
  have t1 : decide (lo ≤ n) = true := by simp; omega
  have t2 : decide (n ≤ hi) = true := by simp; omega
  go_enter Tryd.func44, Tryd.ntmps44
  go_wp2
  go_ret
  exact ⟨rfl, rfl⟩
theorem inF (n lo hi : Int) (w : World) (h : n < lo ∨ hi < n) : Calls Tryd.prog 44 #[.int .i64 n, .int .i64 lo, .int .i64 hi] w fun e w' => e = .returned (.bool false) ∧ w = w' := by
  by_cases h1 : n < lo
  · have t1 : decide (lo ≤ n) = false := by simp; omega
    clear h
    go_enter Tryd.func44, Tryd.ntmps44
    go_wp2
    go_ret
    exact ⟨rfl, rfl⟩
  · have t1 : decide (lo ≤ n) = true := by simp; omega
    have t2 : decide (n ≤ hi) = false := by simp; omega
    clear h
    go_enter Tryd.func44, Tryd.ntmps44
    go_wp2
    go_ret
    exact ⟨rfl, rfl⟩

theorem spec_form (y m d : Int) (w : World) (h : y < 1970 ∨ 2300 < y ∨ m < 1 ∨ 12 < m) : Calls Tryd.prog 17 #[.int .i64 y, .int .i64 m, .int .i64 d] w fun e w' => e = .returned (.tuple #[.int .i64 0, .bool false]) ∧ w = w' := by
  by_cases h1 : y < 1970
  · clear h
    have t1 : decide (1970 ≤ y) = false := by simp; omega
    go_enter Tryd.func17, Tryd.ntmps17
    go_wp2
    go_ret2
    exact ⟨rfl, rfl⟩
  · have t1 : decide (1970 ≤ y) = true := by simp; omega
    by_cases h2 : 2300 < y
    · clear h
      have t2 : decide (y ≤ 2300) = false := by simp; omega
      go_enter Tryd.func17, Tryd.ntmps17
      go_wp2
      go_ret2
      exact ⟨rfl, rfl⟩
    · have t2 : decide (y ≤ 2300) = true := by simp; omega
      by_cases h3 : m < 1
      · clear h
        have t3 : decide (1 ≤ m) = false := by simp; omega
        go_enter Tryd.func17, Tryd.ntmps17
        go_wp2
        go_ret2
        exact ⟨rfl, rfl⟩
      · have h4 : 12 < m := by omega
        have t3 : decide (1 ≤ m) = true := by simp; omega
        have t4 : decide (m ≤ 12) = false := by simp; omega
        clear h
        go_enter Tryd.func17, Tryd.ntmps17
        go_wp2
        go_ret2
        exact ⟨rfl, rfl⟩

theorem spec_d (y m d : Int) (w : World) (c : base.Mon w) (h1 : 1970 ≤ y) (h2 : y ≤ 2300) (h3 : 1 ≤ m) (h4 : m ≤ 12) (h : d < 1 ∨ cal.mlen y m < d) : Calls Tryd.prog 17 #[.int .i64 y, .int .i64 m, .int .i64 d] w fun e w' => e = .returned (.tuple #[.int .i64 0, .bool false]) ∧ Below w.heap.size w w' := by
  have C := Lib.hid c
  clear c
  have t1 : decide (1970 ≤ y) = true := by simp; omega
  have t2 : decide (y ≤ 2300) = true := by simp; omega
  have t3 : decide (1 ≤ m) = true := by simp; omega
  have t4 : decide (m ≤ 12) = true := by simp; omega
  by_cases h5 : d < 1
  · have t5 : decide (1 ≤ d) = false := by simp; omega
    clear h
    go_enter Tryd.func17, Tryd.ntmps17
    go_wp2_with fail
    refine (inT y 1970 2300 w (by omega) (by omega)).mono ?_
    rintro e w' ⟨rfl, rfl⟩
    go_wp2_with fail
    refine (inT m 1 12 w (by omega) (by omega)).mono ?_
    rintro e w' ⟨rfl, rfl⟩
    go_wp2_with fail
    refine (base.mlen_spec y m w C.out h3 h4).mono ?_
    rintro e w1 ⟨rfl, hb⟩
    go_wp2_with fail
    refine (inF d 1 (cal.mlen y m) w1 (by omega)).mono ?_
    rintro e w' ⟨rfl, rfl⟩
    go_wp2
    go_ret2
    exact ⟨rfl, hb⟩
  · have t5 : decide (1 ≤ d) = true := by simp; omega
    have h6 : cal.mlen y m < d := by omega
    have t6 : decide (d ≤ cal.mlen y m) = false := by simp; omega
    clear h
    go_enter Tryd.func17, Tryd.ntmps17
    go_wp2_with fail
    refine (inT y 1970 2300 w (by omega) (by omega)).mono ?_
    rintro e w' ⟨rfl, rfl⟩
    go_wp2_with fail
    refine (inT m 1 12 w (by omega) (by omega)).mono ?_
    rintro e w' ⟨rfl, rfl⟩
    go_wp2_with fail
    refine (base.mlen_spec y m w C.out h3 h4).mono ?_
    rintro e w1 ⟨rfl, hb⟩
    go_wp2_with fail
    refine (inF d 1 (cal.mlen y m) w1 (by omega)).mono ?_
    rintro e w' ⟨rfl, rfl⟩
    go_wp2
    go_ret2
    exact ⟨rfl, hb⟩

set_option maxHeartbeats 1000000 in
theorem spec_in (y m d : Int) (w : World) (c : base.Mon w) (h1 : 1970 ≤ y) (h2 : y ≤ 2300) (h3 : 1 ≤ m) (h4 : m ≤ 12) (h5 : 1 ≤ d) (h6 : d ≤ cal.mlen y m) :
    Calls Tryd.prog 17 #[.int .i64 y, .int .i64 m, .int .i64 d] w fun e w' => e = .returned (.tuple #[.int .i64 (dayR y m d), .bool (dayB y m d)]) ∧ Below w.heap.size w w' := by
  have lt := c.lt
  have C := Lib.hid c
  clear c
  obtain ⟨m1, m2⟩ := cal.mlen_bd y m
  obtain ⟨n1, n2⟩ := cal.NY_bd y (by omega) (by omega)
  obtain ⟨c1, c2⟩ := cal.cum_bd y m (by omega) (by omega)
  have n0 := cal.NY_mono 1970 y (by omega) h1
  rw [cal.NY_1970] at n0
  have fin : (d - 1 + cal.NY y + cal.cum y m ≤ 100000 ∧ dayR y m d = d - 1 + cal.NY y + cal.cum y m ∧ dayB y m d = true) ∨ (100000 < d - 1 + cal.NY y + cal.cum y m ∧ dayR y m d = 0 ∧ dayB y m d = false) := by
    have e : cal.dayN y m d = d - 1 + cal.NY y + cal.cum y m := by unfold cal.dayN; omega
    unfold dayR dayB
    rw [e]
    by_cases q : d - 1 + cal.NY y + cal.cum y m ≤ 100000
    · left; exact ⟨q, if_pos q, by simp [q]⟩
    · right; exact ⟨by omega, if_neg q, by simp [q]⟩
  have FIN := Lib.hid fin
  clear fin
  have t1 : decide (1970 ≤ y) = true := by simp; omega
  have t2 : decide (y ≤ 2300) = true := by simp; omega
  have t3 : decide (1 ≤ m) = true := by simp; omega
  have t4 : decide (m ≤ 12) = true := by simp; omega
  have t5 : decide (1 ≤ d) = true := by simp; omega
  have t6 : decide (d ≤ cal.mlen y m) = true := by simp; omega
  go_enter Tryd.func17, Tryd.ntmps17
  go_wp2_with fail
  refine (inT y 1970 2300 w (by omega) (by omega)).mono ?_
  rintro e w' ⟨rfl, rfl⟩
  go_wp2_with fail
  refine (inT m 1 12 w (by omega) (by omega)).mono ?_
  rintro e w' ⟨rfl, rfl⟩
  go_wp2_with fail
  refine (base.mlen_spec y m w C.out h3 h4).mono ?_
  rintro e w1 ⟨rfl, hb⟩
  go_wp2_with fail
  refine (inT d 1 (cal.mlen y m) w1 (by omega) (by omega)).mono ?_
  rintro e w' ⟨rfl, rfl⟩
  go_wp2
  go_loop [8, 9] (fun n i => ∃ k : Int, 1970 ≤ k ∧ k ≤ y ∧ i = .int .i64 k ∧ n = .int .i64 (d - 1 + cal.NY k)) (fun _ i => (y - intOf i).toNat)
  case atStart => exact ⟨1970, by omega, by omega, rfl, by simp [cal.NY_1970]⟩
  case round =>
    obtain ⟨k, k1, k2, rfl, rfl⟩ := hrel
    obtain ⟨e1, e2⟩ := cal.lp_01 k
    obtain ⟨f1, f2⟩ := cal.NY_bd k (by omega) (by omega)
    by_cases hlt : k < y
    · have HS := Lib.hid (cal.NY_succ k (by omega))
      go_wp2_with fail
      refine (base.ylen_spec k w1).mono ?_
      rintro e w' ⟨rfl, rfl⟩
      go_wp2
      go_round
      case rel => exact ⟨k + 1, by omega, by omega, rfl, by rw [HS.out]; go_num⟩
      case measure => simp [intOf]; omega
    · obtain rfl : k = y := by omega
      clear k1 k2 e1 e2 f1 f2
      go_wp2
      go_loopw [8, 10] (fun n i wr => Below w.heap.size w wr ∧ ∃ q : Int, 1 ≤ q ∧ q ≤ m ∧ i = .int .i64 q ∧ n = .int .i64 (d - 1 + cal.NY k + cal.cum k q)) (fun _ i _ => (m - intOf i).toNat)
      case atStart => exact ⟨hb, 1, by omega, by omega, rfl, by simp [cal.cum_1]⟩
      case round =>
        obtain ⟨hB, q, k1, k2, rfl, rfl⟩ := hrel
        obtain ⟨e1, e2⟩ := cal.mlen_bd k q
        obtain ⟨f1, f2⟩ := cal.cum_bd k q (by omega) (by omega)
        by_cases hlt : q < m
        · have HS := Lib.hid (cal.cum_succ k q (by omega) (by omega))
          go_wp2_with fail
          refine (base.mlen_spec k q _ (C.out.below hB lt) k1 (by omega)).mono ?_
          rintro e w' ⟨rfl, hb2⟩
          go_wp2
          go_roundw
          case rel => exact ⟨hB.trans (hb2.mono hB.size), q + 1, by omega, by omega, rfl, by rw [HS.out]; go_num⟩
          case measure => simp [intOf]; omega
        · obtain rfl : q = m := by omega
          rcases FIN.out with ⟨z, e, e'⟩ | ⟨z, e, e'⟩
          · have HE := Lib.hid e; have HE' := Lib.hid e'; clear e e'
            have q0 : decide (0 ≤ d - 1 + cal.NY k + cal.cum k q) = true := by simp; omega
            have q1 : decide (d - 1 + cal.NY k + cal.cum k q ≤ 100000) = true := by simp; omega
            go_wp2
            go_ret2
            exact ⟨ret_ib HE.out.symm HE'.out.symm, hB⟩
          · have HE := Lib.hid e; have HE' := Lib.hid e'; clear e e'
            have q0 : decide (0 ≤ d - 1 + cal.NY k + cal.cum k q) = true := by simp; omega
            have q1 : decide (d - 1 + cal.NY k + cal.cum k q ≤ 100000) = false := by simp; omega
            go_wp2
            go_ret2
            exact ⟨ret_ib HE.out.symm HE'.out.symm, hB⟩

theorem far {y m d : Int} (h2 : 2243 < y) (h3 : 1 ≤ m) (h4 : m ≤ 12) (h5 : 1 ≤ d) : 100000 < cal.dayN y m d := by
  have a := cal.NY_mono 2244 y (by omega) (by omega)
  rw [cal.NY_2244] at a
  obtain ⟨c1, c2⟩ := cal.cum_bd y m (by omega) (by omega)
  unfold cal.dayN; omega
theorem spec (y m d : Int) (w : World) (c : base.Mon w) : Calls Tryd.prog 17 #[.int .i64 y, .int .i64 m, .int .i64 d] w fun e w' => e = .returned (.tuple #[.int .i64 (val y m d), .bool (ok y m d)]) ∧ Below w.heap.size w w' := by
  by_cases hf : y < 1970 ∨ 2300 < y ∨ m < 1 ∨ 12 < m
  · obtain ⟨e1, e2⟩ := no_of (y := y) (m := m) (d := d) (by omega)
    rw [e1, e2]; exact (spec_form y m d w hf).mono fun e w' ⟨h1, h2⟩ => ⟨h1, h2 ▸ Below.refl _ _⟩
  · by_cases hd : d < 1 ∨ cal.mlen y m < d
    · obtain ⟨e1, e2⟩ := no_of (y := y) (m := m) (d := d) (by omega)
      rw [e1, e2]; exact spec_d y m d w c (by omega) (by omega) (by omega) (by omega) hd
    · have hin := spec_in y m d w c (by omega) (by omega) (by omega) (by omega) (by omega) (by omega)
      by_cases h43 : 2243 < y
      · obtain ⟨e1, e2⟩ := no_of (y := y) (m := m) (d := d) (by omega)
        have hf := far (d := d) h43 (show 1 ≤ m by omega) (by omega) (by omega)
        have e3 : dayR y m d = 0 := if_neg (by omega)
        have e4 : dayB y m d = false := by unfold dayB; simp; omega
        rw [e3, e4] at hin
        rw [e1, e2]; exact hin
      · obtain ⟨e1, e2⟩ := in_of (y := y) (m := m) (d := d) (by omega) (by omega) (by omega) (by omega) (by omega) (by omega)
        rw [e1, e2]; exact hin
end Go.Proofs.YtlpeadkkkmpccabDoor.dayOf
