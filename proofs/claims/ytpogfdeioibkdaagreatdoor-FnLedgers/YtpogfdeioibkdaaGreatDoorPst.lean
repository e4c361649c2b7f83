/-
  Plain helpers of this seat's proofs: contracts of the small functions on posts. Conditions: none.
-/
import Derived.Test.YtpogfdeioibkdaaGreatDoorAcct
namespace Go.Proofs.YtpogfdeioibkdaaGreatDoor.base
open Go.ChangeShapes Go.WideShapes Go.ChangeAt Go.RowKit
open led (F5 z5)
open five (Row At)

theorem same_grow {P : Program} {f : FuncId} {args : Array Value} {w' : World} {v : Value} (h : Calls P f args w' fun e w'' => e = .returned v ∧ w' = w'') : Calls P f args w' fun e w'' => e = .returned v ∧ ∃ q os, w'' = Go.Sort.grow (w'.drewN q) os :=
  h.mono fun _ _ ⟨he, hw⟩ => ⟨he, 0, #[], by rw [← hw, Go.Sort.grow_empty]; rfl⟩
theorem curS (n : Int) (w : World) : Calls Tryz.prog 28 #[.int .i64 n] w fun e w' => e = .returned (.bool (led.inR n 0 5)) ∧ w = w' := by
  have c := inB n 0 5
  generalize led.inR n 0 5 = t at c ⊢
  cases t
  all_goals
    go_enter Tryz.func28, Tryz.ntmps28
    go_wp2_with fail
    refine (c _).mono ?_
    rintro e w' ⟨rfl, rfl⟩
    go_wp2
    go_ret
    exact ⟨rfl, rfl⟩
theorem amtS (n : Int) (w : World) : Calls Tryz.prog 86 #[.int .i64 n] w fun e w' => e = .returned (.bool (led.inR n (-1000000000000) 1000000000000)) ∧ w = w' := by
  have c := inB n (-1000000000000) 1000000000000
  generalize led.inR n (-1000000000000) 1000000000000 = t at c ⊢
  cases t
  all_goals
    go_enter Tryz.func86, Tryz.ntmps86
    go_wp2_with fail
    refine (c _).mono ?_
    rintro e w' ⟨rfl, rfl⟩
    go_wp2
    go_ret
    exact ⟨rfl, rfl⟩
theorem farS (n : Int) (w : World) : Calls Tryz.prog 29 #[.int .i64 n] w fun e w' => e = .returned (.bool (!led.inR n (-1000000000000000) 1000000000000000)) ∧ w = w' := by
  have c := inB n (-1000000000000000) 1000000000000000
  generalize led.inR n (-1000000000000000) 1000000000000000 = t at c ⊢
  cases t
  all_goals
    go_enter Tryz.func29, Tryz.ntmps29
    go_wp2_with fail
    refine (c _).mono ?_
    rintro e w' ⟨rfl, rfl⟩
    go_wp2
    go_ret
    exact ⟨rfl, rfl⟩
theorem curI (n : Int) (w : World) : Calls Tryz.prog 64 #[.int .i64 n] w fun e w' => e = .returned (.bool (led.inR n 0 5)) ∧ w = w' := by
  have e : led.inR n 0 5 = (decide (0 ≤ n) && decide (n < 6)) := by unfold led.inR; rw [show decide (n ≤ 5) = decide (n < 6) from by simp only [decide_eq_decide]; omega]
  rw [e]
  clear e
  cases t1 : decide (0 ≤ n)
  · go_enter Tryz.func64, Tryz.ntmps64
    go_wp2
    go_ret
    exact ⟨rfl, rfl⟩
  · cases t2 : decide (n < 6)
    all_goals
      go_enter Tryz.func64, Tryz.ntmps64
      go_wp2
      go_ret
      exact ⟨rfl, rfl⟩
theorem balI (n : Int) (w : World) : Calls Tryz.prog 32 #[.int .i64 n] w fun e w' => e = .returned (.bool (led.inR n (-1000000000000000) 1000000000000000)) ∧ w = w' := by
  have e : led.inR n (-1000000000000000) 1000000000000000 = (decide (-1000000000000000 ≤ n) && decide (n ≤ 1000000000000000)) := rfl
  rw [e]
  clear e
  cases t1 : decide (-1000000000000000 ≤ n)
  · go_enter Tryz.func32, Tryz.ntmps32
    go_wp2
    go_ret
    exact ⟨rfl, rfl⟩
  · cases t2 : decide (n ≤ 1000000000000000)
    all_goals
      go_enter Tryz.func32, Tryz.ntmps32
      go_wp2
      go_ret
      exact ⟨rfl, rfl⟩

set_option maxHeartbeats 1000000 in
theorem keyS (x : F5) (h : led.In x) (w' : World) : Calls Tryz.prog 30 #[.agg #[.int .i64 x.1, .int .i64 x.2.1, .int .i64 x.2.2.1, .int .i64 x.2.2.2.1, .int .i64 x.2.2.2.2]] w' fun e w'' => e = .returned (.int .i64 (led.K x)) ∧ ∃ q os, w'' = Go.Sort.grow (w'.drewN q) os := by
  obtain ⟨a, b, c, d, f⟩ := x
  obtain ⟨⟨a1, a2⟩, ⟨b1, b2⟩, ⟨c1, c2⟩, ⟨d1, d2⟩⟩ := h
  dsimp only at a1 a2 b1 b2 c1 c2 d1 d2
  unfold led.K
  dsimp only
  go_enter Tryz.func30, Tryz.ntmps30
  go_wp2
  go_ret
  exact ⟨by go_num, five.Grew.alloc _ _⟩
set_option maxHeartbeats 1000000 in
theorem placeI (x : F5) (w : World) : Calls Tryz.prog 31 #[.agg #[.int .i64 x.1, .int .i64 x.2.1, .int .i64 x.2.2.1, .int .i64 x.2.2.2.1, .int .i64 x.2.2.2.2]] w (Gives (led.plok x) w) := by
  obtain ⟨a, b, c, d, f⟩ := x
  unfold led.plok
  dsimp only
  have c1 := acctI a b c
  have c2 := curI d
  generalize led.acct a b c = p at c1 ⊢
  generalize led.inR d 0 5 = q at c2 ⊢
  cases p
  · go_enter Tryz.func31, Tryz.ntmps31
    go_wp2_with fail
    refine (c1 _).mono ?_
    rintro e w1 ⟨rfl, g1⟩
    have G1 := Lib.hid g1
    clear g1
    go_wp2
    go_ret
    exact ⟨rfl, (five.Grew.alloc _ _).trans G1.out⟩
  · go_enter Tryz.func31, Tryz.ntmps31
    go_wp2_with fail
    refine (c1 _).mono ?_
    rintro e w1 ⟨rfl, g1⟩
    have k0 := five.box_step (five.box_refl w _) g1.below
    have m0 := five.box_cell k0 3 rfl
    have G1 := Lib.hid g1
    clear g1 k0
    go_wp2_with fail
    refine (c2 _).mono ?_
    rintro e w' ⟨rfl, rfl⟩
    go_wp2
    go_ret
    exact ⟨rfl, (five.Grew.alloc _ _).trans G1.out⟩
end Go.Proofs.YtpogfdeioibkdaaGreatDoor.base
