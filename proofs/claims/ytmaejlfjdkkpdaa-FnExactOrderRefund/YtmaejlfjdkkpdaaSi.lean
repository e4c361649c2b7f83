/-
  Plain helpers of this seat's proofs: contracts of the small functions on the numbers of an order. Conditions: none.
-/
import Derived.Test.YtmaejlfjdkkpdaaOrd
import Derived.Test.YtmaejlfjdkkpdaaPls
import Derived.Test.YtmaejlfjdkkpdaaSm
namespace Go.Proofs.Ytmaejlfjdkkpdaa.ob
open Go.ChangeShapes Go.WideShapes Go.ChangeAt Go.RowKit
open gen
open seven (F7 zz Row At)
open four (F4)
open pl (inR)
open pls (nth Pls OL)
open ord (Sc iok)
theorem idI (n : Int) (w : World) : Calls Try.prog 86 #[.int .i64 n] w fun e w' => e = .returned (.bool (inR n 1 999)) ∧ w = w' := by
  unfold inR
  cases t1 : decide (1 ≤ n)
  · go_enter Try.func86, Try.ntmps86
    go_wp2
    go_ret
    exact ⟨rfl, rfl⟩
  · cases t2 : decide (n ≤ 999)
    all_goals
      go_enter Try.func86, Try.ntmps86
      go_wp2
      go_ret
      exact ⟨rfl, rfl⟩
theorem curI (n : Int) (w : World) : Calls Try.prog 87 #[.int .i64 n] w fun e w' => e = .returned (.bool (inR n 0 5)) ∧ w = w' := by
  have e : inR n 0 5 = (decide (0 ≤ n) && decide (n < 6)) := by unfold inR; congr 1; exact decide_eq_decide.2 (by omega)
  rw [e]
  clear e
  cases t1 : decide (0 ≤ n)
  · go_enter Try.func87, Try.ntmps87
    go_wp2
    go_ret
    exact ⟨rfl, rfl⟩
  · cases t2 : decide (n < 6)
    all_goals
      go_enter Try.func87, Try.ntmps87
      go_wp2
      go_ret
      exact ⟨rfl, rfl⟩
theorem rateI (n : Int) (w : World) : Calls Try.prog 88 #[.int .i64 n] w fun e w' => e = .returned (.bool (inR n 0 10000)) ∧ w = w' := by
  unfold inR
  cases t1 : decide (0 ≤ n)
  · go_enter Try.func88, Try.ntmps88
    go_wp2
    go_ret
    exact ⟨rfl, rfl⟩
  · cases t2 : decide (n ≤ 10000)
    all_goals
      go_enter Try.func88, Try.ntmps88
      go_wp2
      go_ret
      exact ⟨rfl, rfl⟩
theorem ratI (n : Int) (w : World) : Calls Try.prog 89 #[.int .i64 n] w fun e w' => e = .returned (.bool (inR n 1 1000000)) ∧ w = w' := by
  unfold inR
  cases t1 : decide (1 ≤ n)
  · go_enter Try.func89, Try.ntmps89
    go_wp2
    go_ret
    exact ⟨rfl, rfl⟩
  · cases t2 : decide (n ≤ 1000000)
    all_goals
      go_enter Try.func89, Try.ntmps89
      go_wp2
      go_ret
      exact ⟨rfl, rfl⟩
theorem idS (n : Int) (w : World) : Calls Try.prog 44 #[.int .i64 n] w fun e w' => e = .returned (.bool (inR n 1 999)) ∧ w = w' := by
  have c := base.inB n 1 999
  generalize inR n 1 999 = t at c ⊢
  cases t
  all_goals
    go_enter Try.func44, Try.ntmps44
    go_wp2_with fail
    refine (c _).mono ?_
    rintro e w' ⟨rfl, rfl⟩
    go_wp2
    go_ret
    exact ⟨rfl, rfl⟩
theorem curS (n : Int) (w : World) : Calls Try.prog 45 #[.int .i64 n] w fun e w' => e = .returned (.bool (inR n 0 5)) ∧ w = w' := by
  have c := base.inB n 0 5
  generalize inR n 0 5 = t at c ⊢
  cases t
  all_goals
    go_enter Try.func45, Try.ntmps45
    go_wp2_with fail
    refine (c _).mono ?_
    rintro e w' ⟨rfl, rfl⟩
    go_wp2
    go_ret
    exact ⟨rfl, rfl⟩
/-- An order in a box. -/
structure OB (w : World) (b : Nat) (s : Sc) (ai : Option Addr) (ni ci : Nat) (ap : Option Addr) (np cp : Nat) : Prop where
  c0 : w.cell? ⟨b, 0, none⟩ = some (.int .i64 s.id)
  c1 : w.cell? ⟨b, 1, none⟩ = some (.int .i64 s.co)
  c2 : w.cell? ⟨b, 2, none⟩ = some (.int .i64 s.me)
  c3 : w.cell? ⟨b, 3, none⟩ = some (.int .i64 s.cu)
  c4 : w.cell? ⟨b, 4, none⟩ = some (.int .i64 s.da)
  c5 : w.cell? ⟨b, 5, none⟩ = some (.int .i64 s.nn)
  c6 : w.cell? ⟨b, 6, none⟩ = some (.int .i64 s.ra)
  c7 : w.cell? ⟨b, 7, none⟩ = some (.int .i64 s.nu)
  c8 : w.cell? ⟨b, 8, none⟩ = some (.int .i64 s.de)
  c9 : w.cell? ⟨b, 9, none⟩ = some (.slice ai ni ci)
  c10 : w.cell? ⟨b, 10, none⟩ = some (.slice ap np cp)
  c11 : w.cell? ⟨b, 11, none⟩ = some (.int .i64 s.op)
  c12 : w.cell? ⟨b, 12, none⟩ = some (.int .i64 s.up)
theorem OB.keep {w w' : World} {b : Nat} {s : Sc} {ai : Option Addr} {ni ci : Nat} {ap : Option Addr} {np cp : Nat} (h : OB w b s ai ni ci ap np cp) (e : w'.heap[b]? = w.heap[b]?) : OB w' b s ai ni ci ap np cp :=
  ⟨pls.cell_keep h.c0 e, pls.cell_keep h.c1 e, pls.cell_keep h.c2 e, pls.cell_keep h.c3 e, pls.cell_keep h.c4 e, pls.cell_keep h.c5 e, pls.cell_keep h.c6 e, pls.cell_keep h.c7 e, pls.cell_keep h.c8 e, pls.cell_keep h.c9 e, pls.cell_keep h.c10 e, pls.cell_keep h.c11 e, pls.cell_keep h.c12 e⟩
theorem OB.lt {w : World} {b : Nat} {s : Sc} {ai : Option Addr} {ni ci : Nat} {ap : Option Addr} {np cp : Nat} (h : OB w b s ai ni ci ap np cp) : b < w.heap.size := pls.cell_lt h.c0
theorem OB.new (w : World) (s : Sc) (ai : Option Addr) (ni ci : Nat) (ap : Option Addr) (np cp : Nat) (t : TypeId) : OB (w.alloc (.cells #[.int .i64 s.id, .int .i64 s.co, .int .i64 s.me, .int .i64 s.cu, .int .i64 s.da, .int .i64 s.nn, .int .i64 s.ra, .int .i64 s.nu, .int .i64 s.de, .slice ai ni ci, .slice ap np cp, .int .i64 s.op, .int .i64 s.up] t)) w.heap.size s ai ni ci ap np cp :=
  ⟨box_cell (box_refl w _) 0 rfl, box_cell (box_refl w _) 1 rfl, box_cell (box_refl w _) 2 rfl, box_cell (box_refl w _) 3 rfl, box_cell (box_refl w _) 4 rfl, box_cell (box_refl w _) 5 rfl, box_cell (box_refl w _) 6 rfl, box_cell (box_refl w _) 7 rfl, box_cell (box_refl w _) 8 rfl, box_cell (box_refl w _) 9 rfl, box_cell (box_refl w _) 10 rfl, box_cell (box_refl w _) 11 rfl, box_cell (box_refl w _) 12 rfl⟩
set_option maxHeartbeats 4000000 in
theorem termsI (w : World) (b : Nat) (s : Sc) (ai : Option Addr) (ni ci : Nat) (ap : Option Addr) (np cp : Nat) (h : OB w b s ai ni ci ap np cp) : Calls Try.prog 54 #[.pointer (some ⟨b, 0, none⟩)] w fun e w' => e = .returned (.bool (ord.tok s)) ∧ w = w' := by
  obtain ⟨y0, y1, y2, y3, y4, y5, y6, y7, y8, y9, y10, y11, y12⟩ := h
  unfold ord.tok
  have e : inR s.nn 1 24 = (decide (1 ≤ s.nn) && decide (s.nn ≤ 24)) := rfl
  rw [e]
  clear e
  have c0 := idI s.id
  have c1 := idI s.co
  have c2 := idI s.me
  have c3 := curI s.cu
  have c4 := base.dayI s.da
  have c7 := rateI s.ra
  have c8 := ratI s.nu
  have c9 := ratI s.de
  have c10 := base.usI s.op
  have c11 := base.usI s.up
  generalize inR s.id 1 999 = t0 at c0 ⊢
  generalize inR s.co 1 999 = t1 at c1 ⊢
  generalize inR s.me 1 999 = t2 at c2 ⊢
  generalize inR s.cu 0 5 = t3 at c3 ⊢
  generalize inR s.da 0 100000 = t4 at c4 ⊢
  generalize inR s.ra 0 10000 = t7 at c7 ⊢
  generalize inR s.nu 1 1000000 = t8 at c8 ⊢
  generalize inR s.de 1 1000000 = t9 at c9 ⊢
  generalize inR s.op 0 1000000000000 = t10 at c10 ⊢
  generalize inR s.up 0 1000000000000 = t11 at c11 ⊢
  obtain ⟨id, co, me, cu, da, nn, ra, nu, de, op, up⟩ := s
  dsimp only at *
  go_enter Try.func54, Try.ntmps54
  go_wp2_with fail
  refine (c0 _).mono ?_
  rintro e w' ⟨rfl, rfl⟩
  cases t0
  · skip
    go_wp2
    go_ret
    exact ⟨rfl, rfl⟩
  · skip
    go_wp2_with fail
    refine (c1 _).mono ?_
    rintro e w' ⟨rfl, rfl⟩
    cases t1
    · skip
      go_wp2
      go_ret
      exact ⟨rfl, rfl⟩
    · skip
      go_wp2_with fail
      refine (c2 _).mono ?_
      rintro e w' ⟨rfl, rfl⟩
      cases t2
      · skip
        go_wp2
        go_ret
        exact ⟨rfl, rfl⟩
      · skip
        go_wp2_with fail
        refine (c3 _).mono ?_
        rintro e w' ⟨rfl, rfl⟩
        cases t3
        · skip
          go_wp2
          go_ret
          exact ⟨rfl, rfl⟩
        · skip
          go_wp2_with fail
          refine (c4 _).mono ?_
          rintro e w' ⟨rfl, rfl⟩
          cases t4
          · skip
            go_wp2
            go_ret
            exact ⟨rfl, rfl⟩
          · skip
            cases t5 : decide (1 ≤ nn)
            · skip
              go_wp2
              go_ret
              exact ⟨show Ending.returned (Value.bool false) = _ from by simp [t5], rfl⟩
            · skip
              cases t6 : decide (nn ≤ 24)
              · skip
                go_wp2
                go_ret
                exact ⟨show Ending.returned (Value.bool false) = _ from by simp [t5, t6], rfl⟩
              · skip
                go_wp2_with fail
                refine (c7 _).mono ?_
                rintro e w' ⟨rfl, rfl⟩
                cases t7
                · skip
                  go_wp2
                  go_ret
                  exact ⟨show Ending.returned (Value.bool false) = _ from by simp [t5, t6], rfl⟩
                · skip
                  go_wp2_with fail
                  refine (c8 _).mono ?_
                  rintro e w' ⟨rfl, rfl⟩
                  cases t8
                  · skip
                    go_wp2
                    go_ret
                    exact ⟨show Ending.returned (Value.bool false) = _ from by simp [t5, t6], rfl⟩
                  · skip
                    go_wp2_with fail
                    refine (c9 _).mono ?_
                    rintro e w' ⟨rfl, rfl⟩
                    cases t9
                    · skip
                      go_wp2
                      go_ret
                      exact ⟨show Ending.returned (Value.bool false) = _ from by simp [t5, t6], rfl⟩
                    · skip
                      go_wp2_with fail
                      refine (c10 _).mono ?_
                      rintro e w' ⟨rfl, rfl⟩
                      cases t10
                      · skip
                        go_wp2
                        go_ret
                        exact ⟨show Ending.returned (Value.bool false) = _ from by simp [t5, t6], rfl⟩
                      · skip
                        go_wp2_with fail
                        refine (c11 _).mono ?_
                        rintro e w' ⟨rfl, rfl⟩
                        cases t11
                        · skip
                          go_wp2
                          go_ret
                          exact ⟨show Ending.returned (Value.bool false) = _ from by simp [t5, t6], rfl⟩
                        · skip
                          go_wp2
                          go_ret
                          exact ⟨show Ending.returned (Value.bool true) = _ from by simp [t5, t6], rfl⟩
end Go.Proofs.Ytmaejlfjdkkpdaa.ob
