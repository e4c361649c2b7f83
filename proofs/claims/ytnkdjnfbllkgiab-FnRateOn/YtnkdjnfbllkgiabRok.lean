/-
  Plain helpers of this seat's proofs: contracts of the small functions on rates. Conditions: none.
-/
import Derived.Test.YtnkdjnfbllkgiabRows
import Derived.Test.YtnkdjnfbllkgiabLift
import Derived.Test.YtnkdjnfbllkgiabFive
namespace Go.Proofs.Ytnkdjnfbllkgiab.base
open Go.ChangeShapes Go.WideShapes Go.ChangeAt Go.RowKit

theorem inB (n a b : Int) (w : World) : Calls Try.prog 35 #[.int .i64 n, .int .i64 a, .int .i64 b] w fun e w' => e = .returned (.bool (led.inR n a b)) ∧ w = w' := by
  unfold led.inR
  cases t1 : decide (a ≤ n)
  · go_enter Try.func35, Try.ntmps35
    go_wp2
    go_ret
    exact ⟨rfl, rfl⟩
  · cases t2 : decide (n ≤ b)
    all_goals
      go_enter Try.func35, Try.ntmps35
      go_wp2
      go_ret
      exact ⟨rfl, rfl⟩
theorem dayS (n : Int) (w : World) : Calls Try.prog 33 #[.int .i64 n] w fun e w' => e = .returned (.bool (led.inR n 0 100000)) ∧ w = w' := by
  have c := inB n 0 100000
  generalize led.inR n 0 100000 = t at c ⊢
  go_enter Try.func33, Try.ntmps33
  go_wp2_with fail
  refine (c _).mono ?_
  rintro e w' ⟨rfl, rfl⟩
  go_wp2
  go_ret
  exact ⟨rfl, rfl⟩
theorem curS (n : Int) (w : World) : Calls Try.prog 34 #[.int .i64 n] w fun e w' => e = .returned (.bool (led.inR n 0 5)) ∧ w = w' := by
  have c := inB n 0 5
  generalize led.inR n 0 5 = t at c ⊢
  go_enter Try.func34, Try.ntmps34
  go_wp2_with fail
  refine (c _).mono ?_
  rintro e w' ⟨rfl, rfl⟩
  go_wp2
  go_ret
  exact ⟨rfl, rfl⟩
theorem amtS (n : Int) (w : World) : Calls Try.prog 42 #[.int .i64 n] w fun e w' => e = .returned (.bool (led.inR n (-1000000000000) 1000000000000)) ∧ w = w' := by
  have c := inB n (-1000000000000) 1000000000000
  generalize led.inR n (-1000000000000) 1000000000000 = t at c ⊢
  go_enter Try.func42, Try.ntmps42
  go_wp2_with fail
  refine (c _).mono ?_
  rintro e w' ⟨rfl, rfl⟩
  go_wp2
  go_ret
  exact ⟨rfl, rfl⟩
theorem dayI (n : Int) (w : World) : Calls Try.prog 36 #[.int .i64 n] w fun e w' => e = .returned (.bool (led.inR n 0 100000)) ∧ w = w' := by
  have e : led.inR n 0 100000 = (decide (0 ≤ n) && decide (n ≤ 100000)) := rfl
  rw [e]
  clear e
  cases t1 : decide (0 ≤ n)
  · go_enter Try.func36, Try.ntmps36
    go_wp2
    go_ret
    exact ⟨rfl, rfl⟩
  · cases t2 : decide (n ≤ 100000)
    all_goals
      go_enter Try.func36, Try.ntmps36
      go_wp2
      go_ret
      exact ⟨rfl, rfl⟩
theorem curI (n : Int) (w : World) : Calls Try.prog 37 #[.int .i64 n] w fun e w' => e = .returned (.bool (led.inR n 0 5)) ∧ w = w' := by
  have e : led.inR n 0 5 = (decide (0 ≤ n) && decide (n < 6)) := by unfold led.inR; rw [show decide (n ≤ 5) = decide (n < 6) from by simp only [decide_eq_decide]; omega]
  rw [e]
  clear e
  cases t1 : decide (0 ≤ n)
  · go_enter Try.func37, Try.ntmps37
    go_wp2
    go_ret
    exact ⟨rfl, rfl⟩
  · cases t2 : decide (n < 6)
    all_goals
      go_enter Try.func37, Try.ntmps37
      go_wp2
      go_ret
      exact ⟨rfl, rfl⟩
theorem partI (n : Int) (w : World) : Calls Try.prog 38 #[.int .i64 n] w fun e w' => e = .returned (.bool (led.inR n 1 1000000)) ∧ w = w' := by
  have e : led.inR n 1 1000000 = (decide (1 ≤ n) && decide (n ≤ 1000000)) := rfl
  rw [e]
  clear e
  cases t1 : decide (1 ≤ n)
  · go_enter Try.func38, Try.ntmps38
    go_wp2
    go_ret
    exact ⟨rfl, rfl⟩
  · cases t2 : decide (n ≤ 1000000)
    all_goals
      go_enter Try.func38, Try.ntmps38
      go_wp2
      go_ret
      exact ⟨rfl, rfl⟩
theorem amtI (n : Int) (w : World) : Calls Try.prog 44 #[.int .i64 n] w fun e w' => e = .returned (.bool (led.inR n (-1000000000000) 1000000000000)) ∧ w = w' := by
  have e : led.inR n (-1000000000000) 1000000000000 = (decide (-1000000000000 ≤ n) && decide (n ≤ 1000000000000)) := rfl
  rw [e]
  clear e
  cases t1 : decide (-1000000000000 ≤ n)
  · go_enter Try.func44, Try.ntmps44
    go_wp2
    go_ret
    exact ⟨rfl, rfl⟩
  · cases t2 : decide (n ≤ 1000000000000)
    all_goals
      go_enter Try.func44, Try.ntmps44
      go_wp2
      go_ret
      exact ⟨rfl, rfl⟩

def Gives (t : Bool) (w : World) (e : Ending) (w' : World) : Prop := e = .returned (.bool t) ∧ five.Grew w w'

set_option maxHeartbeats 2000000 in
theorem rokS (x : led.F5) (w : World) : Calls Try.prog 11 #[.agg #[.int .i64 x.1, .int .i64 x.2.1, .int .i64 x.2.2.1, .int .i64 x.2.2.2.1, .int .i64 x.2.2.2.2]] w (Gives (led.rok x) w) := by
  obtain ⟨a, b, c, d, f⟩ := x
  unfold led.rok led.cur
  dsimp only
  have c1 := dayS a
  have c2 := curS b
  have c3 := curS c
  have c5 := inB d 1 1000000
  have c6 := inB f 1 1000000
  generalize led.inR a 0 100000 = p1 at c1 ⊢
  generalize led.inR b 0 5 = p2 at c2 ⊢
  generalize led.inR c 0 5 = p3 at c3 ⊢
  generalize led.inR d 1 1000000 = p5 at c5 ⊢
  generalize led.inR f 1 1000000 = p6 at c6 ⊢
  cases p1
  · go_enter Try.func11, Try.ntmps11
    go_wp2_with fail
    refine (c1 _).mono ?_
    rintro e w' ⟨rfl, rfl⟩
    go_wp2
    go_ret
    exact ⟨rfl, five.Grew.alloc _ _⟩
  · cases p2
    · go_enter Try.func11, Try.ntmps11
      go_wp2_with fail
      refine (c1 _).mono ?_
      rintro e w' ⟨rfl, rfl⟩
      go_wp2_with fail
      refine (c2 _).mono ?_
      rintro e w' ⟨rfl, rfl⟩
      go_wp2
      go_ret
      exact ⟨rfl, five.Grew.alloc _ _⟩
    · cases p3
      · go_enter Try.func11, Try.ntmps11
        go_wp2_with fail
        refine (c1 _).mono ?_
        rintro e w' ⟨rfl, rfl⟩
        go_wp2_with fail
        refine (c2 _).mono ?_
        rintro e w' ⟨rfl, rfl⟩
        go_wp2_with fail
        refine (c3 _).mono ?_
        rintro e w' ⟨rfl, rfl⟩
        go_wp2
        go_ret
        exact ⟨rfl, five.Grew.alloc _ _⟩
      · cases t4 : (b != c)
        · go_enter Try.func11, Try.ntmps11
          go_wp2_with fail
          refine (c1 _).mono ?_
          rintro e w' ⟨rfl, rfl⟩
          go_wp2_with fail
          refine (c2 _).mono ?_
          rintro e w' ⟨rfl, rfl⟩
          go_wp2_with fail
          refine (c3 _).mono ?_
          rintro e w' ⟨rfl, rfl⟩
          go_wp2
          go_ret
          exact ⟨rfl, five.Grew.alloc _ _⟩
        · cases p5
          · go_enter Try.func11, Try.ntmps11
            go_wp2_with fail
            refine (c1 _).mono ?_
            rintro e w' ⟨rfl, rfl⟩
            go_wp2_with fail
            refine (c2 _).mono ?_
            rintro e w' ⟨rfl, rfl⟩
            go_wp2_with fail
            refine (c3 _).mono ?_
            rintro e w' ⟨rfl, rfl⟩
            go_wp2_with fail
            refine (c5 _).mono ?_
            rintro e w' ⟨rfl, rfl⟩
            go_wp2
            go_ret
            exact ⟨rfl, five.Grew.alloc _ _⟩
          · go_enter Try.func11, Try.ntmps11
            go_wp2_with fail
            refine (c1 _).mono ?_
            rintro e w' ⟨rfl, rfl⟩
            go_wp2_with fail
            refine (c2 _).mono ?_
            rintro e w' ⟨rfl, rfl⟩
            go_wp2_with fail
            refine (c3 _).mono ?_
            rintro e w' ⟨rfl, rfl⟩
            go_wp2_with fail
            refine (c5 _).mono ?_
            rintro e w' ⟨rfl, rfl⟩
            go_wp2_with fail
            refine (c6 _).mono ?_
            rintro e w' ⟨rfl, rfl⟩
            go_wp2
            go_ret
            exact ⟨rfl, five.Grew.alloc _ _⟩

set_option maxHeartbeats 2000000 in
theorem rokI (x : led.F5) (w : World) : Calls Try.prog 13 #[.agg #[.int .i64 x.1, .int .i64 x.2.1, .int .i64 x.2.2.1, .int .i64 x.2.2.2.1, .int .i64 x.2.2.2.2]] w (Gives (led.rok x) w) := by
  obtain ⟨a, b, c, d, f⟩ := x
  unfold led.rok led.cur
  dsimp only
  have c1 := dayI a
  have c2 := curI b
  have c3 := curI c
  have c5 := partI d
  have c6 := partI f
  generalize led.inR a 0 100000 = p1 at c1 ⊢
  generalize led.inR b 0 5 = p2 at c2 ⊢
  generalize led.inR c 0 5 = p3 at c3 ⊢
  generalize led.inR d 1 1000000 = p5 at c5 ⊢
  generalize led.inR f 1 1000000 = p6 at c6 ⊢
  cases p1
  · go_enter Try.func13, Try.ntmps13
    go_wp2_with fail
    refine (c1 _).mono ?_
    rintro e w' ⟨rfl, rfl⟩
    go_wp2
    go_ret
    exact ⟨rfl, five.Grew.alloc _ _⟩
  · cases p2
    · go_enter Try.func13, Try.ntmps13
      go_wp2_with fail
      refine (c1 _).mono ?_
      rintro e w' ⟨rfl, rfl⟩
      go_wp2_with fail
      refine (c2 _).mono ?_
      rintro e w' ⟨rfl, rfl⟩
      go_wp2
      go_ret
      exact ⟨rfl, five.Grew.alloc _ _⟩
    · cases p3
      · go_enter Try.func13, Try.ntmps13
        go_wp2_with fail
        refine (c1 _).mono ?_
        rintro e w' ⟨rfl, rfl⟩
        go_wp2_with fail
        refine (c2 _).mono ?_
        rintro e w' ⟨rfl, rfl⟩
        go_wp2_with fail
        refine (c3 _).mono ?_
        rintro e w' ⟨rfl, rfl⟩
        go_wp2
        go_ret
        exact ⟨rfl, five.Grew.alloc _ _⟩
      · cases t4 : (b != c)
        · go_enter Try.func13, Try.ntmps13
          go_wp2_with fail
          refine (c1 _).mono ?_
          rintro e w' ⟨rfl, rfl⟩
          go_wp2_with fail
          refine (c2 _).mono ?_
          rintro e w' ⟨rfl, rfl⟩
          go_wp2_with fail
          refine (c3 _).mono ?_
          rintro e w' ⟨rfl, rfl⟩
          go_wp2
          go_ret
          exact ⟨rfl, five.Grew.alloc _ _⟩
        · cases p5
          · go_enter Try.func13, Try.ntmps13
            go_wp2_with fail
            refine (c1 _).mono ?_
            rintro e w' ⟨rfl, rfl⟩
            go_wp2_with fail
            refine (c2 _).mono ?_
            rintro e w' ⟨rfl, rfl⟩
            go_wp2_with fail
            refine (c3 _).mono ?_
            rintro e w' ⟨rfl, rfl⟩
            go_wp2_with fail
            refine (c5 _).mono ?_
            rintro e w' ⟨rfl, rfl⟩
            go_wp2
            go_ret
            exact ⟨rfl, five.Grew.alloc _ _⟩
          · go_enter Try.func13, Try.ntmps13
            go_wp2_with fail
            refine (c1 _).mono ?_
            rintro e w' ⟨rfl, rfl⟩
            go_wp2_with fail
            refine (c2 _).mono ?_
            rintro e w' ⟨rfl, rfl⟩
            go_wp2_with fail
            refine (c3 _).mono ?_
            rintro e w' ⟨rfl, rfl⟩
            go_wp2_with fail
            refine (c5 _).mono ?_
            rintro e w' ⟨rfl, rfl⟩
            go_wp2_with fail
            refine (c6 _).mono ?_
            rintro e w' ⟨rfl, rfl⟩
            go_wp2
            go_ret
            exact ⟨rfl, five.Grew.alloc _ _⟩
end Go.Proofs.Ytnkdjnfbllkgiab.base
