/-
  Plain helpers of this seat's proofs: contracts of the small functions on numbers and items. Conditions: none.
-/
import Derived.Test.YtcpglphhhmgjkaaDoorCmm
namespace Go.Proofs.YtcpglphhhmgjkaaDoor.cm
open Go.ChangeShapes Go.WideShapes Go.ChangeAt Go.RowKit
open gen
open four (F4)
theorem idI (n : Int) (w : World) : Calls Tryd.prog 58 #[.int .i64 n] w fun e w' => e = .returned (.bool (inR n 1 999)) ∧ w = w' := by
  unfold inR
  cases t1 : decide (1 ≤ n)
  · go_enter Tryd.func58, Tryd.ntmps58
    go_wp2
    go_ret
    exact ⟨rfl, rfl⟩
  · cases t2 : decide (n ≤ 999)
    all_goals
      go_enter Tryd.func58, Tryd.ntmps58
      go_wp2
      go_ret
      exact ⟨rfl, rfl⟩
theorem curI (n : Int) (w : World) : Calls Tryd.prog 56 #[.int .i64 n] w fun e w' => e = .returned (.bool (inR n 0 5)) ∧ w = w' := by
  have e : inR n 0 5 = (decide (0 ≤ n) && decide (n < 6)) := by unfold inR; congr 1; exact decide_eq_decide.2 (by omega)
  rw [e]
  clear e
  cases t1 : decide (0 ≤ n)
  · go_enter Tryd.func56, Tryd.ntmps56
    go_wp2
    go_ret
    exact ⟨rfl, rfl⟩
  · cases t2 : decide (n < 6)
    all_goals
      go_enter Tryd.func56, Tryd.ntmps56
      go_wp2
      go_ret
      exact ⟨rfl, rfl⟩
theorem dayI (n : Int) (w : World) : Calls Tryd.prog 55 #[.int .i64 n] w fun e w' => e = .returned (.bool (inR n 0 100000)) ∧ w = w' := by
  unfold inR
  cases t1 : decide (0 ≤ n)
  · go_enter Tryd.func55, Tryd.ntmps55
    go_wp2
    go_ret
    exact ⟨rfl, rfl⟩
  · cases t2 : decide (n ≤ 100000)
    all_goals
      go_enter Tryd.func55, Tryd.ntmps55
      go_wp2
      go_ret
      exact ⟨rfl, rfl⟩
theorem rateI (n : Int) (w : World) : Calls Tryd.prog 61 #[.int .i64 n] w fun e w' => e = .returned (.bool (inR n 0 10000)) ∧ w = w' := by
  unfold inR
  cases t1 : decide (0 ≤ n)
  · go_enter Tryd.func61, Tryd.ntmps61
    go_wp2
    go_ret
    exact ⟨rfl, rfl⟩
  · cases t2 : decide (n ≤ 10000)
    all_goals
      go_enter Tryd.func61, Tryd.ntmps61
      go_wp2
      go_ret
      exact ⟨rfl, rfl⟩
theorem ratI (n : Int) (w : World) : Calls Tryd.prog 57 #[.int .i64 n] w fun e w' => e = .returned (.bool (inR n 1 1000000)) ∧ w = w' := by
  unfold inR
  cases t1 : decide (1 ≤ n)
  · go_enter Tryd.func57, Tryd.ntmps57
    go_wp2
    go_ret
    exact ⟨rfl, rfl⟩
  · cases t2 : decide (n ≤ 1000000)
    all_goals
      go_enter Tryd.func57, Tryd.ntmps57
      go_wp2
      go_ret
      exact ⟨rfl, rfl⟩
theorem unI (n : Int) (w : World) : Calls Tryd.prog 59 #[.int .i64 n] w fun e w' => e = .returned (.bool (inR n 0 1000000000000)) ∧ w = w' := by
  unfold inR
  cases t1 : decide (0 ≤ n)
  · go_enter Tryd.func59, Tryd.ntmps59
    go_wp2
    go_ret
    exact ⟨rfl, rfl⟩
  · cases t2 : decide (n ≤ 1000000000000)
    all_goals
      go_enter Tryd.func59, Tryd.ntmps59
      go_wp2
      go_ret
      exact ⟨rfl, rfl⟩
theorem shI (n : Int) (w : World) : Calls Tryd.prog 60 #[.int .i64 n] w fun e w' => e = .returned (.bool (inR n 0 10000)) ∧ w = w' := by
  unfold inR
  cases t1 : decide (0 ≤ n)
  · go_enter Tryd.func60, Tryd.ntmps60
    go_wp2
    go_ret
    exact ⟨rfl, rfl⟩
  · cases t2 : decide (n ≤ 10000)
    all_goals
      go_enter Tryd.func60, Tryd.ntmps60
      go_wp2
      go_ret
      exact ⟨rfl, rfl⟩
theorem posI (n : Int) (w : World) : Calls Tryd.prog 62 #[.int .i64 n] w fun e w' => e = .returned (.bool (inR n 1 1000000000000)) ∧ w = w' := by
  unfold inR
  cases t1 : decide (1 ≤ n)
  · go_enter Tryd.func62, Tryd.ntmps62
    go_wp2
    go_ret
    exact ⟨rfl, rfl⟩
  · cases t2 : decide (n ≤ 1000000000000)
    all_goals
      go_enter Tryd.func62, Tryd.ntmps62
      go_wp2
      go_ret
      exact ⟨rfl, rfl⟩
theorem inB (n a b : Int) (w : World) : Calls Tryd.prog 21 #[.int .i64 n, .int .i64 a, .int .i64 b] w fun e w' => e = .returned (.bool (inR n a b)) ∧ w = w' := by
  unfold inR
  cases t1 : decide (a ≤ n)
  · go_enter Tryd.func21, Tryd.ntmps21
    go_wp2
    go_ret
    exact ⟨rfl, rfl⟩
  · cases t2 : decide (n ≤ b)
    all_goals
      go_enter Tryd.func21, Tryd.ntmps21
      go_wp2
      go_ret
      exact ⟨rfl, rfl⟩
theorem idS (n : Int) (w : World) : Calls Tryd.prog 24 #[.int .i64 n] w fun e w' => e = .returned (.bool (inR n 1 999)) ∧ w = w' := by
  have c := inB n 1 999
  generalize inR n 1 999 = t at c ⊢
  go_enter Tryd.func24, Tryd.ntmps24
  go_wp2_with fail
  refine (c _).mono ?_
  rintro e w' ⟨rfl, rfl⟩
  go_wp2
  go_ret
  exact ⟨rfl, rfl⟩
theorem curS (n : Int) (w : World) : Calls Tryd.prog 53 #[.int .i64 n] w fun e w' => e = .returned (.bool (inR n 0 5)) ∧ w = w' := by
  have c := inB n 0 5
  generalize inR n 0 5 = t at c ⊢
  go_enter Tryd.func53, Tryd.ntmps53
  go_wp2_with fail
  refine (c _).mono ?_
  rintro e w' ⟨rfl, rfl⟩
  go_wp2
  go_ret
  exact ⟨rfl, rfl⟩
theorem dayS (n : Int) (w : World) : Calls Tryd.prog 51 #[.int .i64 n] w fun e w' => e = .returned (.bool (inR n 0 100000)) ∧ w = w' := by
  have c := inB n 0 100000
  generalize inR n 0 100000 = t at c ⊢
  go_enter Tryd.func51, Tryd.ntmps51
  go_wp2_with fail
  refine (c _).mono ?_
  rintro e w' ⟨rfl, rfl⟩
  go_wp2
  go_ret
  exact ⟨rfl, rfl⟩
set_option maxHeartbeats 2000000 in
theorem itemI (x : F4) (w : World) : Calls Tryd.prog 63 #[.agg #[.int .i64 x.1, .int .i64 x.2.1, .int .i64 x.2.2.1, .int .i64 x.2.2.2]] w fun e w' => e = .returned (.bool (iok x)) ∧ ∃ q os, w' = Go.Sort.grow (w.drewN q) os := by
  obtain ⟨q, p, s, r⟩ := x
  unfold iok inR
  dsimp only
  go_enter Tryd.func63, Tryd.ntmps63
  cases t0 : decide (1 ≤ q)
  · skip
    go_wp2
    go_ret
    exact ⟨by first | rfl | (show Ending.returned (Value.bool false) = _; simp [t0]), 0, _, (by rw [Go.Sort.alloc_eq_grow]; rfl)⟩
  · skip
    cases t1 : decide (q ≤ 1000)
    · skip
      go_wp2
      go_ret
      exact ⟨by first | rfl | (show Ending.returned (Value.bool false) = _; simp [t0, t1]), 0, _, (by rw [Go.Sort.alloc_eq_grow]; rfl)⟩
    · skip
      cases t2 : decide (1 ≤ p)
      · skip
        go_wp2
        go_ret
        exact ⟨by first | rfl | (show Ending.returned (Value.bool false) = _; simp [t0, t1, t2]), 0, _, (by rw [Go.Sort.alloc_eq_grow]; rfl)⟩
      · skip
        cases t3 : decide (p ≤ 1000000)
        · skip
          go_wp2
          go_ret
          exact ⟨by first | rfl | (show Ending.returned (Value.bool false) = _; simp [t0, t1, t2, t3]), 0, _, (by rw [Go.Sort.alloc_eq_grow]; rfl)⟩
        · skip
          cases t4 : decide (0 ≤ s)
          · skip
            go_wp2
            go_ret
            exact ⟨by first | rfl | (show Ending.returned (Value.bool false) = _; simp [t0, t1, t2, t3, t4]), 0, _, (by rw [Go.Sort.alloc_eq_grow]; rfl)⟩
          · skip
            cases t5 : decide (s ≤ q)
            · skip
              go_wp2
              go_ret
              exact ⟨by first | rfl | (show Ending.returned (Value.bool false) = _; simp [t0, t1, t2, t3, t4, t5]), 0, _, (by rw [Go.Sort.alloc_eq_grow]; rfl)⟩
            · skip
              cases t6 : decide (0 ≤ r)
              · skip
                go_wp2
                go_ret
                exact ⟨by first | rfl | (show Ending.returned (Value.bool false) = _; simp [t0, t1, t2, t3, t4, t5, t6]), 0, _, (by rw [Go.Sort.alloc_eq_grow]; rfl)⟩
              · skip
                cases t7 : decide (r ≤ s)
                · skip
                  go_wp2
                  go_ret
                  exact ⟨by first | rfl | (show Ending.returned (Value.bool false) = _; simp [t0, t1, t2, t3, t4, t5, t6, t7]), 0, _, (by rw [Go.Sort.alloc_eq_grow]; rfl)⟩
                · skip
                  go_wp2
                  go_ret
                  exact ⟨by first | rfl | (show Ending.returned (Value.bool true) = _; simp [t0, t1, t2, t3, t4, t5, t6, t7]), 0, _, (by rw [Go.Sort.alloc_eq_grow]; rfl)⟩
set_option maxHeartbeats 2000000 in
theorem itemS (x : F4) (w : World) : Calls Tryd.prog 27 #[.agg #[.int .i64 x.1, .int .i64 x.2.1, .int .i64 x.2.2.1, .int .i64 x.2.2.2]] w fun e w' => e = .returned (.bool (iok x)) ∧ ∃ q os, w' = Go.Sort.grow (w.drewN q) os := by
  obtain ⟨q, p, s, r⟩ := x
  unfold iok
  dsimp only
  have c0 := inB q 1 1000
  have c1 := inB p 1 1000000
  have c2 := inB s 0 q
  have c3 := inB r 0 s
  generalize inR q 1 1000 = t0 at c0 ⊢
  generalize inR p 1 1000000 = t1 at c1 ⊢
  generalize inR s 0 q = t2 at c2 ⊢
  generalize inR r 0 s = t3 at c3 ⊢
  go_enter Tryd.func27, Tryd.ntmps27
  go_wp2_with fail
  refine (c0 _).mono ?_
  rintro e w' ⟨rfl, rfl⟩
  cases t0
  · skip
    go_wp2
    go_ret
    exact ⟨rfl, 0, _, (by rw [Go.Sort.alloc_eq_grow]; rfl)⟩
  · skip
    go_wp2_with fail
    refine (c1 _).mono ?_
    rintro e w' ⟨rfl, rfl⟩
    cases t1
    · skip
      go_wp2
      go_ret
      exact ⟨rfl, 0, _, (by rw [Go.Sort.alloc_eq_grow]; rfl)⟩
    · skip
      go_wp2_with fail
      refine (c2 _).mono ?_
      rintro e w' ⟨rfl, rfl⟩
      cases t2
      · skip
        go_wp2
        go_ret
        exact ⟨rfl, 0, _, (by rw [Go.Sort.alloc_eq_grow]; rfl)⟩
      · skip
        go_wp2_with fail
        refine (c3 _).mono ?_
        rintro e w' ⟨rfl, rfl⟩
        cases t3
        · skip
          go_wp2
          go_ret
          exact ⟨rfl, 0, _, (by rw [Go.Sort.alloc_eq_grow]; rfl)⟩
        · skip
          go_wp2
          go_ret
          exact ⟨rfl, 0, _, (by rw [Go.Sort.alloc_eq_grow]; rfl)⟩
set_option maxHeartbeats 2000000 in
theorem rokS (a b c d : Int) (w : World) : Calls Tryd.prog 52 #[.agg #[.int .i64 0, .int .i64 a, .int .i64 b, .int .i64 c, .int .i64 d]] w fun e w' => e = .returned (.bool (inR a 0 5 && inR b 0 5 && !(a == b) && inR c 1 1000000 && inR d 1 1000000)) ∧ Below w.heap.size w w' := by
  have B0 := Lib.hid (show Below w.heap.size w (w.alloc (.cells #[.int .i64 0, .int .i64 a, .int .i64 b, .int .i64 c, .int .i64 d] 78)) from bAl (Below.refl _ _) (Nat.le_refl _) _)
  have c0 := dayS 0
  rw [show inR 0 0 100000 = true from by decide] at c0
  have c1 := curS a
  have c2 := curS b
  have c3 := inB c 1 1000000
  have c4 := inB d 1 1000000
  generalize inR a 0 5 = t1 at c1 ⊢
  generalize inR b 0 5 = t2 at c2 ⊢
  generalize inR c 1 1000000 = t3 at c3 ⊢
  generalize inR d 1 1000000 = t4 at c4 ⊢
  go_enter Tryd.func52, Tryd.ntmps52
  go_wp2_with fail
  refine (c0 _).mono ?_
  rintro e w' ⟨rfl, rfl⟩
  go_wp2_with fail
  refine (c1 _).mono ?_
  rintro e w' ⟨rfl, rfl⟩
  cases t1
  · skip
    go_wp2
    go_ret
    exact ⟨by first | rfl | (rw [te]; rfl) | (simp [*]; done), B0.out⟩
  · skip
    go_wp2_with fail
    refine (c2 _).mono ?_
    rintro e w' ⟨rfl, rfl⟩
    cases t2
    · skip
      go_wp2
      go_ret
      exact ⟨by first | rfl | (rw [te]; rfl) | (simp [*]; done), B0.out⟩
    · skip
      cases te : a == b
      · skip
        have tn : (a != b) = true := by simp [bne, te]
        go_wp2_with fail
        refine (c3 _).mono ?_
        rintro e w' ⟨rfl, rfl⟩
        cases t3
        · skip
          go_wp2
          go_ret
          exact ⟨by first | rfl | (rw [te]; rfl) | (simp [*]; done), B0.out⟩
        · skip
          go_wp2_with fail
          refine (c4 _).mono ?_
          rintro e w' ⟨rfl, rfl⟩
          cases t4
          all_goals
            go_wp2
            go_ret
            exact ⟨by first | rfl | (rw [te]; rfl) | (simp [*]; done), B0.out⟩
      · skip
        have tn : (a != b) = false := by simp [bne, te]
        go_wp2
        go_ret
        exact ⟨by first | rfl | (rw [te]; rfl) | (simp [*]; done), B0.out⟩
end Go.Proofs.YtcpglphhhmgjkaaDoor.cm
