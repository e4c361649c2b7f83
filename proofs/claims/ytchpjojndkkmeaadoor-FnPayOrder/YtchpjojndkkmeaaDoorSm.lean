/-
  Plain helpers of this seat's proofs: contracts of the small functions on Parts. Conditions: none.
-/
import Derived.Test.YtchpjojndkkmeaaDoorPl
namespace Go.Proofs.YtchpjojndkkmeaaDoor.base
open Go.ChangeShapes Go.WideShapes Go.ChangeAt Go.RowKit
open seven (F7 zz Row At)
open pl (inR prOk pok)
open gen
theorem inB (n a b : Int) (w : World) : Calls Tryd.prog 22 #[.int .i64 n, .int .i64 a, .int .i64 b] w fun e w' => e = .returned (.bool (inR n a b)) ∧ w = w' := by
  unfold inR
  cases t1 : decide (a ≤ n)
  · go_enter Tryd.func22, Tryd.ntmps22
    go_wp2
    go_ret
    exact ⟨rfl, rfl⟩
  · cases t2 : decide (n ≤ b)
    all_goals
      go_enter Tryd.func22, Tryd.ntmps22
      go_wp2
      go_ret
      exact ⟨rfl, rfl⟩
theorem usI (n : Int) (w : World) : Calls Tryd.prog 39 #[.int .i64 n] w fun e w' => e = .returned (.bool (inR n 0 1000000000000)) ∧ w = w' := by
  unfold inR
  cases t1 : decide (0 ≤ n)
  · go_enter Tryd.func39, Tryd.ntmps39
    go_wp2
    go_ret
    exact ⟨rfl, rfl⟩
  · cases t2 : decide (n ≤ 1000000000000)
    all_goals
      go_enter Tryd.func39, Tryd.ntmps39
      go_wp2
      go_ret
      exact ⟨rfl, rfl⟩
theorem dayI (n : Int) (w : World) : Calls Tryd.prog 58 #[.int .i64 n] w fun e w' => e = .returned (.bool (inR n 0 100000)) ∧ w = w' := by
  unfold inR
  cases t1 : decide (0 ≤ n)
  · go_enter Tryd.func58, Tryd.ntmps58
    go_wp2
    go_ret
    exact ⟨rfl, rfl⟩
  · cases t2 : decide (n ≤ 100000)
    all_goals
      go_enter Tryd.func58, Tryd.ntmps58
      go_wp2
      go_ret
      exact ⟨rfl, rfl⟩
theorem dayS (n : Int) (w : World) : Calls Tryd.prog 65 #[.int .i64 n] w fun e w' => e = .returned (.bool (inR n 0 100000)) ∧ w = w' := by
  have c := inB n 0 100000
  generalize inR n 0 100000 = t at c ⊢
  cases t
  all_goals
    go_enter Tryd.func65, Tryd.ntmps65
    go_wp2_with fail
    refine (c _).mono ?_
    rintro e w' ⟨rfl, rfl⟩
    go_wp2
    go_ret
    exact ⟨rfl, rfl⟩
theorem paidI (b a : Int) (w : World) : Calls Tryd.prog 62 #[.int .i64 b, .int .i64 a] w fun e w' => e = .returned (.bool (prOk a b)) ∧ w = w' := by
  unfold prOk
  have c := usI a
  generalize inR a 0 1000000000000 = t at c ⊢
  unfold inR
  cases t
  · go_enter Tryd.func62, Tryd.ntmps62
    go_wp2_with fail
    refine (c _).mono ?_
    rintro e w' ⟨rfl, rfl⟩
    go_wp2
    go_ret
    exact ⟨rfl, rfl⟩
  · cases t1 : decide (0 ≤ b)
    · go_enter Tryd.func62, Tryd.ntmps62
      go_wp2_with fail
      refine (c _).mono ?_
      rintro e w' ⟨rfl, rfl⟩
      go_wp2
      go_ret
      exact ⟨rfl, rfl⟩
    · cases t2 : decide (b ≤ a)
      all_goals
        go_enter Tryd.func62, Tryd.ntmps62
        go_wp2_with fail
        refine (c _).mono ?_
        rintro e w' ⟨rfl, rfl⟩
        go_wp2
        go_ret
        exact ⟨rfl, rfl⟩
set_option maxHeartbeats 1000000 in
theorem partI (x : F7) (w : World) : Calls Tryd.prog 38 #[.agg #[.int .i64 x.1, .int .i64 x.2.1, .int .i64 x.2.2.1, .int .i64 x.2.2.2.1, .int .i64 x.2.2.2.2.1, .int .i64 x.2.2.2.2.2.1, .int .i64 x.2.2.2.2.2.2]] w fun e w' => e = .returned (.bool (pok x)) ∧ ∃ q os, w' = Go.Sort.grow (w.drewN q) os := by
  obtain ⟨a, b, c, d, f, g, h⟩ := x
  unfold pok
  dsimp only
  have c0 := dayI a
  have c1 := paidI f b
  have c2 := paidI g c
  have c3 := paidI h d
  generalize inR a 0 100000 = t0 at c0 ⊢
  generalize prOk b f = t1 at c1 ⊢
  generalize prOk c g = t2 at c2 ⊢
  generalize prOk d h = t3 at c3 ⊢
  cases t0
  · skip
    go_enter Tryd.func38, Tryd.ntmps38
    go_wp2_with fail
    refine (c0 _).mono ?_
    rintro e w' ⟨rfl, rfl⟩
    go_wp2
    go_ret
    exact ⟨rfl, 0, _, (by rw [Go.Sort.alloc_eq_grow]; rfl)⟩
  · cases t1
    · skip
      go_enter Tryd.func38, Tryd.ntmps38
      go_wp2_with fail
      refine (c0 _).mono ?_
      rintro e w' ⟨rfl, rfl⟩
      go_wp2_with fail
      refine (c1 _).mono ?_
      rintro e w' ⟨rfl, rfl⟩
      go_wp2
      go_ret
      exact ⟨rfl, 0, _, (by rw [Go.Sort.alloc_eq_grow]; rfl)⟩
    · cases t2
      · skip
        go_enter Tryd.func38, Tryd.ntmps38
        go_wp2_with fail
        refine (c0 _).mono ?_
        rintro e w' ⟨rfl, rfl⟩
        go_wp2_with fail
        refine (c1 _).mono ?_
        rintro e w' ⟨rfl, rfl⟩
        go_wp2_with fail
        refine (c2 _).mono ?_
        rintro e w' ⟨rfl, rfl⟩
        go_wp2
        go_ret
        exact ⟨rfl, 0, _, (by rw [Go.Sort.alloc_eq_grow]; rfl)⟩
      · cases t3
        all_goals
          go_enter Tryd.func38, Tryd.ntmps38
          go_wp2_with fail
          refine (c0 _).mono ?_
          rintro e w' ⟨rfl, rfl⟩
          go_wp2_with fail
          refine (c1 _).mono ?_
          rintro e w' ⟨rfl, rfl⟩
          go_wp2_with fail
          refine (c2 _).mono ?_
          rintro e w' ⟨rfl, rfl⟩
          go_wp2_with fail
          refine (c3 _).mono ?_
          rintro e w' ⟨rfl, rfl⟩
          go_wp2
          go_ret
          exact ⟨rfl, 0, _, (by rw [Go.Sort.alloc_eq_grow]; rfl)⟩
theorem same_grow {P : Program} {f : FuncId} {args : Array Value} {w' : World} {v : Value} (h : Calls P f args w' fun e w'' => e = .returned v ∧ w' = w'') : Calls P f args w' fun e w'' => e = .returned v ∧ ∃ q os, w'' = Go.Sort.grow (w'.drewN q) os :=
  h.mono fun _ _ ⟨he, hw⟩ => ⟨he, 0, #[], by rw [← hw, Go.Sort.grow_empty]; rfl⟩
end Go.Proofs.YtchpjojndkkmeaaDoor.base
