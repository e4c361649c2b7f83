/-
  Plain helpers: contracts of the two MonthsOn functions. Conditions: none.
-/
import Derived.Test.YtlpeadkkkmpccabDoorDateOf
namespace Go.Proofs.YtlpeadkkkmpccabDoor.monthsOn
open Go.ChangeShapes Go.WideShapes Go.ChangeAt Go.RowKit

/-- The day of the month, so many months later. -/
def dd (y m d n : Int) : Int := if d ≤ cal.mlen (y + (m - 1 + n) / 12) ((m - 1 + n) % 12 + 1) then d else cal.mlen (y + (m - 1 + n) / 12) ((m - 1 + n) % 12 + 1)
/-- What MonthsOn answers of a day with this date. -/
def res (y m d n : Int) : Int := if dayOf.ok (y + (m - 1 + n) / 12) ((m - 1 + n) % 12 + 1) (dd y m d n) = true then dayOf.val (y + (m - 1 + n) / 12) ((m - 1 + n) % 12 + 1) (dd y m d n) else -1

theorem impl_no (t n : Int) (w : World) (h : t < 0 ∨ 100000 < t ∨ n < 0 ∨ 600 < n) : Calls Tryd.prog 28 #[.int .i64 t, .int .i64 n] w fun e w' => e = .returned (.int .i64 (-1)) ∧ w = w' := by
  by_cases h1 : t < 0
  · have t1 : decide (0 ≤ t) = false := by simp; omega
    clear h
    go_enter Tryd.func28, Tryd.ntmps28
    go_wp2
    go_ret
    exact ⟨rfl, rfl⟩
  · have t1 : decide (0 ≤ t) = true := by simp; omega
    by_cases h2 : 100000 < t
    · have t2 : decide (t ≤ 100000) = false := by simp; omega
      clear h
      go_enter Tryd.func28, Tryd.ntmps28
      go_wp2
      go_ret
      exact ⟨rfl, rfl⟩
    · have t2 : decide (t ≤ 100000) = true := by simp; omega
      by_cases h3 : n < 0
      · have t3 : decide (n < 0) = true := by simp; omega
        have t4 : decide (0 ≤ n) = false := by simp; omega
        clear h
        go_enter Tryd.func28, Tryd.ntmps28
        go_wp2
        go_ret
        exact ⟨rfl, rfl⟩
      · have t3 : decide (n < 0) = false := by simp; omega
        have t4 : decide (0 ≤ n) = true := by simp; omega
        have t5 : decide (600 < n) = true := by simp; omega
        have t6 : decide (n ≤ 600) = false := by simp; omega
        clear h
        go_enter Tryd.func28, Tryd.ntmps28
        go_wp2
        go_ret
        exact ⟨rfl, rfl⟩

theorem spec_no (t n : Int) (w : World) (h : t < 0 ∨ 100000 < t ∨ n < 0 ∨ 600 < n) : Calls Tryd.prog 29 #[.int .i64 t, .int .i64 n] w fun e w' => e = .returned (.int .i64 (-1)) ∧ w = w' := by
  by_cases h1 : t < 0
  · have t1 : decide (0 ≤ t) = false := by simp; omega
    clear h
    go_enter Tryd.func29, Tryd.ntmps29
    go_wp2
    go_ret
    exact ⟨rfl, rfl⟩
  · have t1 : decide (0 ≤ t) = true := by simp; omega
    by_cases h2 : 100000 < t
    · have t2 : decide (t ≤ 100000) = false := by simp; omega
      clear h
      go_enter Tryd.func29, Tryd.ntmps29
      go_wp2
      go_ret
      exact ⟨rfl, rfl⟩
    · have t2 : decide (t ≤ 100000) = true := by simp; omega
      by_cases h3 : n < 0
      · have t3 : decide (n < 0) = true := by simp; omega
        have t4 : decide (0 ≤ n) = false := by simp; omega
        clear h
        go_enter Tryd.func29, Tryd.ntmps29
        go_wp2
        go_ret
        exact ⟨rfl, rfl⟩
      · have t3 : decide (n < 0) = false := by simp; omega
        have t4 : decide (0 ≤ n) = true := by simp; omega
        have t5 : decide (600 < n) = true := by simp; omega
        have t6 : decide (n ≤ 600) = false := by simp; omega
        clear h
        go_enter Tryd.func29, Tryd.ntmps29
        go_wp2
        go_ret
        exact ⟨rfl, rfl⟩

set_option maxHeartbeats 2000000 in
theorem impl_yes (t n y m d : Int) (w : World) (c : base.Mon w) (hd : cal.isDate t y m d) (n1 : 0 ≤ n) (n2 : n ≤ 600) : Calls Tryd.prog 28 #[.int .i64 t, .int .i64 n] w fun e w' => e = .returned (.int .i64 (res y m d n)) ∧ w = w' := by
  have lt := c.lt
  have C := Lib.hid c
  clear c
  have HD := Lib.hid hd
  obtain ⟨o, hn⟩ := hd
  have z0 := cal.day_nonneg o
  rw [hn] at z0
  obtain ⟨h1, h2, h3, h4, h5, h6, h7⟩ := o
  rw [hn] at h7
  clear hn
  have t1 : decide (n < 0) = false := by simp; omega
  have t2 : decide (600 < n) = false := by simp; omega
  have hr : res y m d n = if dayOf.ok (y + (m - 1 + n) / 12) ((m - 1 + n) % 12 + 1) (dd y m d n) = true then dayOf.val (y + (m - 1 + n) / 12) ((m - 1 + n) % 12 + 1) (dd y m d n) else -1 := rfl
  by_cases hm : d ≤ cal.mlen (y + (m - 1 + n) / 12) ((m - 1 + n) % 12 + 1)
  · have hdd : dd y m d n = d := if_pos hm
    rw [hdd] at hr
    cases hok : dayOf.ok (y + (m - 1 + n) / 12) ((m - 1 + n) % 12 + 1) d with
    | true =>
      have HR := Lib.hid (hr.trans (if_pos hok))
      have HDO := fun w1 (c1 : base.Mon w1) => Lib.hid (dayOf.impl (y + (m - 1 + n) / 12) ((m - 1 + n) % 12 + 1) d w1 c1)
      have HO := Lib.hid hok
      clear hr hdd hok
      have HDO2 := Lib.hid HDO
      clear HDO
      go_enter Tryd.func28, Tryd.ntmps28
      go_wp2_with fail
      refine (dateOf.isDayT t w (by omega) (by omega)).mono ?_
      rintro e w' ⟨rfl, rfl⟩
      go_wp2_with fail
      refine (dateOf.impl t y m d w C.out HD.out).mono ?_
      rintro e w' ⟨rfl, rfl⟩
      go_wp2_with fail
      refine (base.mlen_impl (y + (m - 1 + n) / 12) ((m - 1 + n) % 12 + 1) w C.out (by omega) (by omega)).mono ?_
      rintro e w' ⟨rfl, rfl⟩
      go_wp2_with fail
      refine (HDO2.out w C.out).out.mono ?_
      rintro e w' ⟨rfl, rfl⟩
      rw [HO.out]
      go_wp2
      go_ret
      exact ⟨base.ret_int HR.out.symm, rfl⟩
    | false =>
      have HR := Lib.hid (hr.trans (if_neg (by simp [hok])))
      have HDO := fun w1 (c1 : base.Mon w1) => Lib.hid (dayOf.impl (y + (m - 1 + n) / 12) ((m - 1 + n) % 12 + 1) d w1 c1)
      have HO := Lib.hid hok
      clear hr hdd hok
      have HDO2 := Lib.hid HDO
      clear HDO
      go_enter Tryd.func28, Tryd.ntmps28
      go_wp2_with fail
      refine (dateOf.isDayT t w (by omega) (by omega)).mono ?_
      rintro e w' ⟨rfl, rfl⟩
      go_wp2_with fail
      refine (dateOf.impl t y m d w C.out HD.out).mono ?_
      rintro e w' ⟨rfl, rfl⟩
      go_wp2_with fail
      refine (base.mlen_impl (y + (m - 1 + n) / 12) ((m - 1 + n) % 12 + 1) w C.out (by omega) (by omega)).mono ?_
      rintro e w' ⟨rfl, rfl⟩
      go_wp2_with fail
      refine (HDO2.out w C.out).out.mono ?_
      rintro e w' ⟨rfl, rfl⟩
      rw [HO.out]
      go_wp2
      go_ret
      exact ⟨base.ret_int HR.out.symm, rfl⟩
  · have hdd : dd y m d n = (cal.mlen (y + (m - 1 + n) / 12) ((m - 1 + n) % 12 + 1)) := if_neg hm
    rw [hdd] at hr
    cases hok : dayOf.ok (y + (m - 1 + n) / 12) ((m - 1 + n) % 12 + 1) (cal.mlen (y + (m - 1 + n) / 12) ((m - 1 + n) % 12 + 1)) with
    | true =>
      have HR := Lib.hid (hr.trans (if_pos hok))
      have HDO := fun w1 (c1 : base.Mon w1) => Lib.hid (dayOf.impl (y + (m - 1 + n) / 12) ((m - 1 + n) % 12 + 1) (cal.mlen (y + (m - 1 + n) / 12) ((m - 1 + n) % 12 + 1)) w1 c1)
      have HO := Lib.hid hok
      clear hr hdd hok
      have HDO2 := Lib.hid HDO
      clear HDO
      go_enter Tryd.func28, Tryd.ntmps28
      go_wp2_with fail
      refine (dateOf.isDayT t w (by omega) (by omega)).mono ?_
      rintro e w' ⟨rfl, rfl⟩
      go_wp2_with fail
      refine (dateOf.impl t y m d w C.out HD.out).mono ?_
      rintro e w' ⟨rfl, rfl⟩
      go_wp2_with fail
      refine (base.mlen_impl (y + (m - 1 + n) / 12) ((m - 1 + n) % 12 + 1) w C.out (by omega) (by omega)).mono ?_
      rintro e w' ⟨rfl, rfl⟩
      go_wp2_with fail
      refine (HDO2.out w C.out).out.mono ?_
      rintro e w' ⟨rfl, rfl⟩
      rw [HO.out]
      go_wp2
      go_ret
      exact ⟨base.ret_int HR.out.symm, rfl⟩
    | false =>
      have HR := Lib.hid (hr.trans (if_neg (by simp [hok])))
      have HDO := fun w1 (c1 : base.Mon w1) => Lib.hid (dayOf.impl (y + (m - 1 + n) / 12) ((m - 1 + n) % 12 + 1) (cal.mlen (y + (m - 1 + n) / 12) ((m - 1 + n) % 12 + 1)) w1 c1)
      have HO := Lib.hid hok
      clear hr hdd hok
      have HDO2 := Lib.hid HDO
      clear HDO
      go_enter Tryd.func28, Tryd.ntmps28
      go_wp2_with fail
      refine (dateOf.isDayT t w (by omega) (by omega)).mono ?_
      rintro e w' ⟨rfl, rfl⟩
      go_wp2_with fail
      refine (dateOf.impl t y m d w C.out HD.out).mono ?_
      rintro e w' ⟨rfl, rfl⟩
      go_wp2_with fail
      refine (base.mlen_impl (y + (m - 1 + n) / 12) ((m - 1 + n) % 12 + 1) w C.out (by omega) (by omega)).mono ?_
      rintro e w' ⟨rfl, rfl⟩
      go_wp2_with fail
      refine (HDO2.out w C.out).out.mono ?_
      rintro e w' ⟨rfl, rfl⟩
      rw [HO.out]
      go_wp2
      go_ret
      exact ⟨base.ret_int HR.out.symm, rfl⟩

set_option maxHeartbeats 2000000 in
theorem spec_yes (t n y m d : Int) (w : World) (c : base.Mon w) (hd : cal.isDate t y m d) (n1 : 0 ≤ n) (n2 : n ≤ 600) : Calls Tryd.prog 29 #[.int .i64 t, .int .i64 n] w fun e w' => e = .returned (.int .i64 (res y m d n)) ∧ Below w.heap.size w w' := by
  have lt := c.lt
  have C := Lib.hid c
  clear c
  have HD := Lib.hid hd
  obtain ⟨o, hn⟩ := hd
  have z0 := cal.day_nonneg o
  rw [hn] at z0
  obtain ⟨h1, h2, h3, h4, h5, h6, h7⟩ := o
  rw [hn] at h7
  clear hn
  have t1 : decide (n < 0) = false := by simp; omega
  have t2 : decide (600 < n) = false := by simp; omega
  have hr : res y m d n = if dayOf.ok (y + (m - 1 + n) / 12) ((m - 1 + n) % 12 + 1) (dd y m d n) = true then dayOf.val (y + (m - 1 + n) / 12) ((m - 1 + n) % 12 + 1) (dd y m d n) else -1 := rfl
  by_cases hm : d ≤ cal.mlen (y + (m - 1 + n) / 12) ((m - 1 + n) % 12 + 1)
  · have hdd : dd y m d n = d := if_pos hm
    rw [hdd] at hr
    cases hok : dayOf.ok (y + (m - 1 + n) / 12) ((m - 1 + n) % 12 + 1) d with
    | true =>
      have HR := Lib.hid (hr.trans (if_pos hok))
      have HDO := fun w1 (c1 : base.Mon w1) => Lib.hid (dayOf.spec (y + (m - 1 + n) / 12) ((m - 1 + n) % 12 + 1) d w1 c1)
      have HO := Lib.hid hok
      clear hr hdd hok
      have HDO2 := Lib.hid HDO
      clear HDO
      go_enter Tryd.func29, Tryd.ntmps29
      go_wp2_with fail
      refine (dateOf.l2DayT t w (by omega) (by omega)).mono ?_
      rintro e w' ⟨rfl, rfl⟩
      go_wp2_with fail
      refine (dayOf.inT n 0 600 w (by omega) (by omega)).mono ?_
      rintro e w' ⟨rfl, rfl⟩
      go_wp2_with fail
      refine (dateOf.spec t y m d w C.out HD.out).mono ?_
      rintro e w1 ⟨rfl, b1⟩
      go_wp2_with fail
      refine (base.mlen_spec (y + (m - 1 + n) / 12) ((m - 1 + n) % 12 + 1) w1 (C.out.below b1 lt) (by omega) (by omega)).mono ?_
      rintro e w2 ⟨rfl, b2⟩
      have b3 := b1.trans (b2.mono b1.size)
      go_wp2_with fail
      refine (HDO2.out w2 (C.out.below b3 lt)).out.mono ?_
      rintro e w3 ⟨rfl, b4⟩
      rw [HO.out]
      go_wp2
      go_ret
      exact ⟨base.ret_int HR.out.symm, b3.trans (b4.mono b3.size)⟩
    | false =>
      have HR := Lib.hid (hr.trans (if_neg (by simp [hok])))
      have HDO := fun w1 (c1 : base.Mon w1) => Lib.hid (dayOf.spec (y + (m - 1 + n) / 12) ((m - 1 + n) % 12 + 1) d w1 c1)
      have HO := Lib.hid hok
      clear hr hdd hok
      have HDO2 := Lib.hid HDO
      clear HDO
      go_enter Tryd.func29, Tryd.ntmps29
      go_wp2_with fail
      refine (dateOf.l2DayT t w (by omega) (by omega)).mono ?_
      rintro e w' ⟨rfl, rfl⟩
      go_wp2_with fail
      refine (dayOf.inT n 0 600 w (by omega) (by omega)).mono ?_
      rintro e w' ⟨rfl, rfl⟩
      go_wp2_with fail
      refine (dateOf.spec t y m d w C.out HD.out).mono ?_
      rintro e w1 ⟨rfl, b1⟩
      go_wp2_with fail
      refine (base.mlen_spec (y + (m - 1 + n) / 12) ((m - 1 + n) % 12 + 1) w1 (C.out.below b1 lt) (by omega) (by omega)).mono ?_
      rintro e w2 ⟨rfl, b2⟩
      have b3 := b1.trans (b2.mono b1.size)
      go_wp2_with fail
      refine (HDO2.out w2 (C.out.below b3 lt)).out.mono ?_
      rintro e w3 ⟨rfl, b4⟩
      rw [HO.out]
      go_wp2
      go_ret
      exact ⟨base.ret_int HR.out.symm, b3.trans (b4.mono b3.size)⟩
  · have hdd : dd y m d n = (cal.mlen (y + (m - 1 + n) / 12) ((m - 1 + n) % 12 + 1)) := if_neg hm
    rw [hdd] at hr
    cases hok : dayOf.ok (y + (m - 1 + n) / 12) ((m - 1 + n) % 12 + 1) (cal.mlen (y + (m - 1 + n) / 12) ((m - 1 + n) % 12 + 1)) with
    | true =>
      have HR := Lib.hid (hr.trans (if_pos hok))
      have HDO := fun w1 (c1 : base.Mon w1) => Lib.hid (dayOf.spec (y + (m - 1 + n) / 12) ((m - 1 + n) % 12 + 1) (cal.mlen (y + (m - 1 + n) / 12) ((m - 1 + n) % 12 + 1)) w1 c1)
      have HO := Lib.hid hok
      clear hr hdd hok
      have HDO2 := Lib.hid HDO
      clear HDO
      go_enter Tryd.func29, Tryd.ntmps29
      go_wp2_with fail
      refine (dateOf.l2DayT t w (by omega) (by omega)).mono ?_
      rintro e w' ⟨rfl, rfl⟩
      go_wp2_with fail
      refine (dayOf.inT n 0 600 w (by omega) (by omega)).mono ?_
      rintro e w' ⟨rfl, rfl⟩
      go_wp2_with fail
      refine (dateOf.spec t y m d w C.out HD.out).mono ?_
      rintro e w1 ⟨rfl, b1⟩
      go_wp2_with fail
      refine (base.mlen_spec (y + (m - 1 + n) / 12) ((m - 1 + n) % 12 + 1) w1 (C.out.below b1 lt) (by omega) (by omega)).mono ?_
      rintro e w2 ⟨rfl, b2⟩
      have b3 := b1.trans (b2.mono b1.size)
      go_wp2_with fail
      refine (HDO2.out w2 (C.out.below b3 lt)).out.mono ?_
      rintro e w3 ⟨rfl, b4⟩
      rw [HO.out]
      go_wp2
      go_ret
      exact ⟨base.ret_int HR.out.symm, b3.trans (b4.mono b3.size)⟩
    | false =>
      have HR := Lib.hid (hr.trans (if_neg (by simp [hok])))
      have HDO := fun w1 (c1 : base.Mon w1) => Lib.hid (dayOf.spec (y + (m - 1 + n) / 12) ((m - 1 + n) % 12 + 1) (cal.mlen (y + (m - 1 + n) / 12) ((m - 1 + n) % 12 + 1)) w1 c1)
      have HO := Lib.hid hok
      clear hr hdd hok
      have HDO2 := Lib.hid HDO
      clear HDO
      go_enter Tryd.func29, Tryd.ntmps29
      go_wp2_with fail
      refine (dateOf.l2DayT t w (by omega) (by omega)).mono ?_
      rintro e w' ⟨rfl, rfl⟩
      go_wp2_with fail
      refine (dayOf.inT n 0 600 w (by omega) (by omega)).mono ?_
      rintro e w' ⟨rfl, rfl⟩
      go_wp2_with fail
      refine (dateOf.spec t y m d w C.out HD.out).mono ?_
      rintro e w1 ⟨rfl, b1⟩
      go_wp2_with fail
      refine (base.mlen_spec (y + (m - 1 + n) / 12) ((m - 1 + n) % 12 + 1) w1 (C.out.below b1 lt) (by omega) (by omega)).mono ?_
      rintro e w2 ⟨rfl, b2⟩
      have b3 := b1.trans (b2.mono b1.size)
      go_wp2_with fail
      refine (HDO2.out w2 (C.out.below b3 lt)).out.mono ?_
      rintro e w3 ⟨rfl, b4⟩
      rw [HO.out]
      go_wp2
      go_ret
      exact ⟨base.ret_int HR.out.symm, b3.trans (b4.mono b3.size)⟩

end Go.Proofs.YtlpeadkkkmpccabDoor.monthsOn
