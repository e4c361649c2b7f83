/-
  Plain helpers of this seat's proofs: contracts of the small functions on items. Conditions: none.
-/
import Derived.Test.YtmaejlfjdkkpdaaOrd
import Derived.Test.YtmaejlfjdkkpdaaPls
import Derived.Test.YtmaejlfjdkkpdaaSm
namespace Go.Proofs.Ytmaejlfjdkkpdaa.ob
open Go.ChangeShapes Go.WideShapes Go.ChangeAt Go.RowKit
open gen
open seven (F7 zz Row At)
open four (F4)
open pl (inR)
open pls (nth Pls OL)
open ord (Sc iok)
set_option maxHeartbeats 2000000 in
theorem itemI (x : F4) (w : World) : Calls Try.prog 91 #[.agg #[.int .i64 x.1, .int .i64 x.2.1, .int .i64 x.2.2.1, .int .i64 x.2.2.2]] w fun e w' => e = .returned (.bool (iok x)) ∧ ∃ q os, w' = Go.Sort.grow (w.drewN q) os := by
  obtain ⟨q, p, s, r⟩ := x
  unfold iok inR
  dsimp only
  go_enter Try.func91, Try.ntmps91
  cases t0 : decide (1 ≤ q)
  · skip
    go_wp2
    go_ret
    exact ⟨by first | rfl | (show Ending.returned (Value.bool false) = _; simp [t0]), 0, _, (by rw [Go.Sort.alloc_eq_grow]; rfl)⟩
  · skip
    cases t1 : decide (q ≤ 1000)
    · skip
      go_wp2
      go_ret
      exact ⟨by first | rfl | (show Ending.returned (Value.bool false) = _; simp [t0, t1]), 0, _, (by rw [Go.Sort.alloc_eq_grow]; rfl)⟩
    · skip
      cases t2 : decide (1 ≤ p)
      · skip
        go_wp2
        go_ret
        exact ⟨by first | rfl | (show Ending.returned (Value.bool false) = _; simp [t0, t1, t2]), 0, _, (by rw [Go.Sort.alloc_eq_grow]; rfl)⟩
      · skip
        cases t3 : decide (p ≤ 1000000)
        · skip
          go_wp2
          go_ret
          exact ⟨by first | rfl | (show Ending.returned (Value.bool false) = _; simp [t0, t1, t2, t3]), 0, _, (by rw [Go.Sort.alloc_eq_grow]; rfl)⟩
        · skip
          cases t4 : decide (0 ≤ s)
          · skip
            go_wp2
            go_ret
            exact ⟨by first | rfl | (show Ending.returned (Value.bool false) = _; simp [t0, t1, t2, t3, t4]), 0, _, (by rw [Go.Sort.alloc_eq_grow]; rfl)⟩
          · skip
            cases t5 : decide (s ≤ q)
            · skip
              go_wp2
              go_ret
              exact ⟨by first | rfl | (show Ending.returned (Value.bool false) = _; simp [t0, t1, t2, t3, t4, t5]), 0, _, (by rw [Go.Sort.alloc_eq_grow]; rfl)⟩
            · skip
              cases t6 : decide (0 ≤ r)
              · skip
                go_wp2
                go_ret
                exact ⟨by first | rfl | (show Ending.returned (Value.bool false) = _; simp [t0, t1, t2, t3, t4, t5, t6]), 0, _, (by rw [Go.Sort.alloc_eq_grow]; rfl)⟩
              · skip
                cases t7 : decide (r ≤ s)
                · skip
                  go_wp2
                  go_ret
                  exact ⟨by first | rfl | (show Ending.returned (Value.bool false) = _; simp [t0, t1, t2, t3, t4, t5, t6, t7]), 0, _, (by rw [Go.Sort.alloc_eq_grow]; rfl)⟩
                · skip
                  go_wp2
                  go_ret
                  exact ⟨by first | rfl | (show Ending.returned (Value.bool true) = _; simp [t0, t1, t2, t3, t4, t5, t6, t7]), 0, _, (by rw [Go.Sort.alloc_eq_grow]; rfl)⟩
set_option maxHeartbeats 2000000 in
theorem itemS (x : F4) (w : World) : Calls Try.prog 48 #[.agg #[.int .i64 x.1, .int .i64 x.2.1, .int .i64 x.2.2.1, .int .i64 x.2.2.2]] w fun e w' => e = .returned (.bool (iok x)) ∧ ∃ q os, w' = Go.Sort.grow (w.drewN q) os := by
  obtain ⟨q, p, s, r⟩ := x
  unfold iok
  dsimp only
  have c0 := base.inB q 1 1000
  have c1 := base.inB p 1 1000000
  have c2 := base.inB s 0 q
  have c3 := base.inB r 0 s
  generalize inR q 1 1000 = t0 at c0 ⊢
  generalize inR p 1 1000000 = t1 at c1 ⊢
  generalize inR s 0 q = t2 at c2 ⊢
  generalize inR r 0 s = t3 at c3 ⊢
  go_enter Try.func48, Try.ntmps48
  go_wp2_with fail
  refine (c0 _).mono ?_
  rintro e w' ⟨rfl, rfl⟩
  cases t0
  · skip
    go_wp2
    go_ret
    exact ⟨rfl, 0, _, (by rw [Go.Sort.alloc_eq_grow]; rfl)⟩
  · skip
    go_wp2_with fail
    refine (c1 _).mono ?_
    rintro e w' ⟨rfl, rfl⟩
    cases t1
    · skip
      go_wp2
      go_ret
      exact ⟨rfl, 0, _, (by rw [Go.Sort.alloc_eq_grow]; rfl)⟩
    · skip
      go_wp2_with fail
      refine (c2 _).mono ?_
      rintro e w' ⟨rfl, rfl⟩
      cases t2
      · skip
        go_wp2
        go_ret
        exact ⟨rfl, 0, _, (by rw [Go.Sort.alloc_eq_grow]; rfl)⟩
      · skip
        go_wp2_with fail
        refine (c3 _).mono ?_
        rintro e w' ⟨rfl, rfl⟩
        cases t3
        · skip
          go_wp2
          go_ret
          exact ⟨rfl, 0, _, (by rw [Go.Sort.alloc_eq_grow]; rfl)⟩
        · skip
          go_wp2
          go_ret
          exact ⟨rfl, 0, _, (by rw [Go.Sort.alloc_eq_grow]; rfl)⟩
end Go.Proofs.Ytmaejlfjdkkpdaa.ob
