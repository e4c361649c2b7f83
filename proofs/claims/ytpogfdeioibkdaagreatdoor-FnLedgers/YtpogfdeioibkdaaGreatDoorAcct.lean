/-
  Plain helpers of this seat's proofs: contracts of the small functions on accounts. Conditions: none.
-/
import Derived.Test.YtpogfdeioibkdaaGreatDoorRows
import Derived.Test.YtpogfdeioibkdaaGreatDoorLift
import Derived.Test.YtpogfdeioibkdaaGreatDoorFive
namespace Go.Proofs.YtpogfdeioibkdaaGreatDoor.base
open Go.ChangeShapes Go.WideShapes Go.ChangeAt Go.RowKit

theorem inB (n a b : Int) (w : World) : Calls Tryz.prog 62 #[.int .i64 n, .int .i64 a, .int .i64 b] w fun e w' => e = .returned (.bool (led.inR n a b)) ∧ w = w' := by
  unfold led.inR
  cases t1 : decide (a ≤ n)
  · go_enter Tryz.func62, Tryz.ntmps62
    go_wp2
    go_ret
    exact ⟨rfl, rfl⟩
  · cases t2 : decide (n ≤ b)
    · go_enter Tryz.func62, Tryz.ntmps62
      go_wp2
      go_ret
      exact ⟨rfl, rfl⟩
    · go_enter Tryz.func62, Tryz.ntmps62
      go_wp2
      go_ret
      exact ⟨rfl, rfl⟩
theorem acct12 (a b c : Int) (h : a = 1 ∨ a = 2) : led.acct a b c = (led.inR b 1 999 && led.inR c 1 2) := by unfold led.acct; rw [if_pos h]
theorem acct3 (b c : Int) : led.acct 3 b c = (decide (b = 0) && led.inR c 1 5) := by unfold led.acct; rw [if_neg (by omega), if_pos rfl]
theorem acct0 (a b c : Int) (h1 : a ≠ 1) (h2 : a ≠ 2) (h3 : a ≠ 3) : led.acct a b c = false := by unfold led.acct; rw [if_neg (by omega), if_neg h3]

def Gives (t : Bool) (w : World) (e : Ending) (w' : World) : Prop := e = .returned (.bool t) ∧ five.Grew w w'

set_option maxHeartbeats 1000000 in
theorem acctS (a b c : Int) (w : World) : Calls Tryz.prog 27 #[.agg #[.int .i64 a, .int .i64 b, .int .i64 c]] w (Gives (led.acct a b c) w) := by
  by_cases h : a = 1 ∨ a = 2
  · rw [acct12 a b c h]
    have c1 := inB b 1 999
    have c2 := inB c 1 2
    generalize led.inR b 1 999 = p at c1 ⊢
    generalize led.inR c 1 2 = q at c2 ⊢
    rcases h with rfl | rfl
    all_goals
      cases p
      · go_enter Tryz.func27, Tryz.ntmps27
        go_wp2_with fail
        refine (c1 _).mono ?_
        rintro e w' ⟨rfl, rfl⟩
        go_wp2
        go_ret
        exact ⟨rfl, five.Grew.alloc _ _⟩
      · go_enter Tryz.func27, Tryz.ntmps27
        go_wp2_with fail
        refine (c1 _).mono ?_
        rintro e w' ⟨rfl, rfl⟩
        go_wp2_with fail
        refine (c2 _).mono ?_
        rintro e w' ⟨rfl, rfl⟩
        go_wp2
        go_ret
        exact ⟨rfl, five.Grew.alloc _ _⟩
  · by_cases h3 : a = 3
    · subst h3
      rw [acct3]
      have c2 := inB c 1 5
      generalize led.inR c 1 5 = q at c2 ⊢
      clear h
      by_cases hb : b = 0
      · subst hb
        go_enter Tryz.func27, Tryz.ntmps27
        go_wp2_with fail
        refine (c2 _).mono ?_
        rintro e w' ⟨rfl, rfl⟩
        go_wp2
        go_ret
        exact ⟨rfl, five.Grew.alloc _ _⟩
      · have t1 : (b == 0) = false := by simp [hb]
        have t2 : decide (b = 0) = false := by simp [hb]
        rw [t2]
        clear t2 hb
        go_enter Tryz.func27, Tryz.ntmps27
        go_wp2
        go_ret
        exact ⟨rfl, five.Grew.alloc _ _⟩
    · rw [acct0 a b c (by omega) (by omega) h3]
      have t1 : (a == 1) = false := by simp; omega
      have t2 : (a == 2) = false := by simp; omega
      have t3 : (a == 3) = false := by simp; omega
      clear h h3
      go_enter Tryz.func27, Tryz.ntmps27
      go_wp2
      go_ret
      exact ⟨rfl, five.Grew.alloc _ _⟩

theorem isIdB (n : Int) (w : World) : Calls Tryz.prog 81 #[.int .i64 n] w fun e w' => e = .returned (.bool (led.inR n 1 999)) ∧ w = w' := by
  unfold led.inR
  cases t1 : decide (1 ≤ n)
  · go_enter Tryz.func81, Tryz.ntmps81
    go_wp2
    go_ret
    exact ⟨rfl, rfl⟩
  · cases t2 : decide (n ≤ 999)
    · go_enter Tryz.func81, Tryz.ntmps81
      go_wp2
      go_ret
      exact ⟨rfl, rfl⟩
    · go_enter Tryz.func81, Tryz.ntmps81
      go_wp2
      go_ret
      exact ⟨rfl, rfl⟩

set_option maxHeartbeats 1000000 in
theorem acctI (a b c : Int) (w : World) : Calls Tryz.prog 63 #[.agg #[.int .i64 a, .int .i64 b, .int .i64 c]] w (Gives (led.acct a b c) w) := by
  by_cases h : a = 1 ∨ a = 2
  · rw [acct12 a b c h]
    have c1 := isIdB b
    generalize led.inR b 1 999 = p at c1 ⊢
    unfold led.inR
    rcases h with rfl | rfl
    all_goals
      cases p
      · go_enter Tryz.func63, Tryz.ntmps63
        go_wp2_with fail
        refine (c1 _).mono ?_
        rintro e w' ⟨rfl, rfl⟩
        go_wp2
        go_ret
        exact ⟨rfl, five.Grew.alloc _ _⟩
      · cases t1 : decide (1 ≤ c)
        · go_enter Tryz.func63, Tryz.ntmps63
          go_wp2_with fail
          refine (c1 _).mono ?_
          rintro e w' ⟨rfl, rfl⟩
          go_wp2
          go_ret
          exact ⟨rfl, five.Grew.alloc _ _⟩
        · cases t2 : decide (c ≤ 2)
          all_goals
            go_enter Tryz.func63, Tryz.ntmps63
            go_wp2_with fail
            refine (c1 _).mono ?_
            rintro e w' ⟨rfl, rfl⟩
            go_wp2
            go_ret
            exact ⟨rfl, five.Grew.alloc _ _⟩
  · by_cases h3 : a = 3
    · subst h3
      rw [acct3]
      unfold led.inR
      clear h
      by_cases hb : b = 0
      · subst hb
        cases t1 : decide (1 ≤ c)
        · go_enter Tryz.func63, Tryz.ntmps63
          go_wp2
          go_ret
          exact ⟨rfl, five.Grew.alloc _ _⟩
        · cases t2 : decide (c ≤ 5)
          all_goals
            go_enter Tryz.func63, Tryz.ntmps63
            go_wp2
            go_ret
            exact ⟨rfl, five.Grew.alloc _ _⟩
      · have t1 : (b == 0) = false := by simp [hb]
        have t2 : decide (b = 0) = false := by simp [hb]
        rw [t2]
        clear t2 hb
        go_enter Tryz.func63, Tryz.ntmps63
        go_wp2
        go_ret
        exact ⟨rfl, five.Grew.alloc _ _⟩
    · rw [acct0 a b c (by omega) (by omega) h3]
      have t1 : (a == 1) = false := by simp; omega
      have t2 : (a == 2) = false := by simp; omega
      have t3 : (a == 3) = false := by simp; omega
      clear h h3
      go_enter Tryz.func63, Tryz.ntmps63
      go_wp2
      go_ret
      exact ⟨rfl, five.Grew.alloc _ _⟩
end Go.Proofs.YtpogfdeioibkdaaGreatDoor.base
