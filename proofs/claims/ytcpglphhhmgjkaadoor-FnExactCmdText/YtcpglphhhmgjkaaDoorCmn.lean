/-
  Plain helpers of this seat's proofs: what the landed numbersOk answers. Conditions: none.
-/
import Derived.Test.YtcpglphhhmgjkaaDoorCmf
import Derived.Deep.RegionHeld3
namespace Go.Proofs.YtcpglphhhmgjkaaDoor.cm
open Go.ChangeShapes Go.WideShapes Go.ChangeAt Go.RowKit
open gen
open four (F4)
theorem inR8 (b : Int) : inR b 0 7 = (decide (0 ≤ b) && decide (b < 8)) := by unfold inR; congr 1; exact decide_eq_decide.2 (by omega)
theorem inR1 (b : Int) : inR b 0 1 = ((b == 0) || (b == 1)) := by
  unfold inR
  by_cases h0 : b = 0
  · subst h0; rfl
  · by_cases h1 : b = 1
    · subst h1; rfl
    · have e1 : (b == 0) = false := by simp; exact h0
      have e2 : (b == 1) = false := by simp; exact h1
      rw [e1, e2]
      by_cases h2 : 0 ≤ b
      · have : ¬ b ≤ 1 := by omega
        simp [this]
      · simp [h2]
set_option maxRecDepth 100000 in
set_option maxHeartbeats 4000000 in
theorem nI_1 (s : Sc) (ai : Option Addr) (ni ci : Nat) (w : World) (g : Nat) (h : s.k = 1) (hb : CB w g s ai ni ci) : Calls Tryd.prog 29 #[.pointer (some ⟨g, 0, none⟩)] w fun e w' => e = .returned (.bool (kind s && fl s && idB s)) ∧ Below w.heap.size w w' := by
  have ek : kind s = true := by unfold kind; rw [h]; rfl
  have ei : idB s = true := by unfold idB; rw [h]; rfl
  rw [fl_1 h, ek, ei]
  obtain ⟨k, key, a, b, c, d, e, f⟩ := s
  dsimp only at h ⊢
  subst h
  obtain ⟨y0, y1, y2, y3, y4, y5, y6, y7, y8⟩ := hb
  clear ek ei
  dsimp only at y0 y1 y2 y3 y4 y5 y6 y7 y8
  have eq : (true && (inR a 0 100000) && true) = (inR a 0 100000) := by
    first | rfl | (simp; done) | ac_rfl | (simp only [Bool.true_and, Bool.and_true]; ac_rfl)
  rw [eq]
  clear eq
  have c0 := dayI a
  generalize inR a 0 100000 = t0 at c0 ⊢
  go_enter Tryd.func29, Tryd.ntmps29
  go_wp2_with fail
  refine (c0 _).mono ?_
  rintro e w' ⟨rfl, rfl⟩
  cases t0
  all_goals
    go_wp2
    go_ret
    exact ⟨by first | rfl | (simp [*]), Below.refl _ _⟩
set_option maxRecDepth 100000 in
set_option maxHeartbeats 4000000 in
theorem nI_3 (s : Sc) (ai : Option Addr) (ni ci : Nat) (w : World) (g : Nat) (h : s.k = 3) (hb : CB w g s ai ni ci) : Calls Tryd.prog 29 #[.pointer (some ⟨g, 0, none⟩)] w fun e w' => e = .returned (.bool (kind s && fl s && idB s)) ∧ Below w.heap.size w w' := by
  have ek : kind s = true := by unfold kind; rw [h]; rfl
  have ei : idB s = inR s.a 1 999 := by unfold idB; rw [h]; rfl
  rw [fl_3 h, ek, ei]
  obtain ⟨k, key, a, b, c, d, e, f⟩ := s
  dsimp only at h ⊢
  subst h
  obtain ⟨y0, y1, y2, y3, y4, y5, y6, y7, y8⟩ := hb
  clear ek ei
  dsimp only at y0 y1 y2 y3 y4 y5 y6 y7 y8
  have eq : (true && (inR b 0 1000000000000) && inR a 1 999) = (inR a 1 999 && inR b 0 1000000000000) := by
    first | rfl | (simp; done) | ac_rfl | (simp only [Bool.true_and, Bool.and_true]; ac_rfl)
  rw [eq]
  clear eq
  have c0 := idI a
  generalize inR a 1 999 = t0 at c0 ⊢
  have c1 := unI b
  generalize inR b 0 1000000000000 = t1 at c1 ⊢
  go_enter Tryd.func29, Tryd.ntmps29
  go_wp2_with fail
  refine (c0 _).mono ?_
  rintro e w' ⟨rfl, rfl⟩
  cases t0
  · skip
    go_wp2
    go_ret
    exact ⟨by first | rfl | (simp [*]), Below.refl _ _⟩
  · skip
    go_wp2_with fail
    refine (c1 _).mono ?_
    rintro e w' ⟨rfl, rfl⟩
    cases t1
    all_goals
      go_wp2
      go_ret
      exact ⟨by first | rfl | (simp [*]), Below.refl _ _⟩
set_option maxRecDepth 100000 in
set_option maxHeartbeats 4000000 in
theorem nI_4 (s : Sc) (ai : Option Addr) (ni ci : Nat) (w : World) (g : Nat) (h : s.k = 4) (hb : CB w g s ai ni ci) : Calls Tryd.prog 29 #[.pointer (some ⟨g, 0, none⟩)] w fun e w' => e = .returned (.bool (kind s && fl s && idB s)) ∧ Below w.heap.size w w' := by
  have ek : kind s = true := by unfold kind; rw [h]; rfl
  have ei : idB s = inR s.a 1 999 := by unfold idB; rw [h]; rfl
  rw [fl_4 h, ek, ei]
  obtain ⟨k, key, a, b, c, d, e, f⟩ := s
  dsimp only at h ⊢
  subst h
  obtain ⟨y0, y1, y2, y3, y4, y5, y6, y7, y8⟩ := hb
  clear ek ei
  dsimp only at y0 y1 y2 y3 y4 y5 y6 y7 y8
  have eq : (true && (inR b 0 10000 && inR c 0 10000) && inR a 1 999) = (inR a 1 999 && inR b 0 10000 && inR c 0 10000) := by
    first | rfl | (simp; done) | ac_rfl | (simp only [Bool.true_and, Bool.and_true]; ac_rfl)
  rw [eq]
  clear eq
  have c0 := idI a
  generalize inR a 1 999 = t0 at c0 ⊢
  have c1 := shI b
  generalize inR b 0 10000 = t1 at c1 ⊢
  have c2 := shI c
  generalize inR c 0 10000 = t2 at c2 ⊢
  go_enter Tryd.func29, Tryd.ntmps29
  go_wp2_with fail
  refine (c0 _).mono ?_
  rintro e w' ⟨rfl, rfl⟩
  cases t0
  · skip
    go_wp2
    go_ret
    exact ⟨by first | rfl | (simp [*]), Below.refl _ _⟩
  · skip
    go_wp2_with fail
    refine (c1 _).mono ?_
    rintro e w' ⟨rfl, rfl⟩
    cases t1
    · skip
      go_wp2
      go_ret
      exact ⟨by first | rfl | (simp [*]), Below.refl _ _⟩
    · skip
      go_wp2_with fail
      refine (c2 _).mono ?_
      rintro e w' ⟨rfl, rfl⟩
      cases t2
      all_goals
        go_wp2
        go_ret
        exact ⟨by first | rfl | (simp [*]), Below.refl _ _⟩
set_option maxRecDepth 100000 in
set_option maxHeartbeats 4000000 in
theorem nI_5 (s : Sc) (ai : Option Addr) (ni ci : Nat) (w : World) (g : Nat) (h : s.k = 5) (hb : CB w g s ai ni ci) : Calls Tryd.prog 29 #[.pointer (some ⟨g, 0, none⟩)] w fun e w' => e = .returned (.bool (kind s && fl s && idB s)) ∧ Below w.heap.size w w' := by
  have ek : kind s = true := by unfold kind; rw [h]; rfl
  have ei : idB s = inR s.a 1 999 := by unfold idB; rw [h]; rfl
  rw [fl_5 h, ek, ei]
  obtain ⟨k, key, a, b, c, d, e, f⟩ := s
  dsimp only at h ⊢
  subst h
  obtain ⟨y0, y1, y2, y3, y4, y5, y6, y7, y8⟩ := hb
  clear ek ei
  dsimp only at y0 y1 y2 y3 y4 y5 y6 y7 y8
  have eq : (true && (inR b 1 999 && inR c 1 999 && inR d 0 5 && inR e 1 24 && inR f 0 10000) && inR a 1 999) = (inR a 1 999 && inR b 1 999 && inR c 1 999 && inR d 0 5 && decide (1 ≤ e) && decide (e ≤ 24) && inR f 0 10000) := by
    unfold inR; first | rfl | (simp; done) | ac_rfl | (simp only [Bool.true_and, Bool.and_true]; ac_rfl)
  rw [eq]
  clear eq
  have c0 := idI a
  generalize inR a 1 999 = t0 at c0 ⊢
  have c1 := idI b
  generalize inR b 1 999 = t1 at c1 ⊢
  have c2 := idI c
  generalize inR c 1 999 = t2 at c2 ⊢
  have c3 := curI d
  generalize inR d 0 5 = t3 at c3 ⊢
  have c6 := rateI f
  generalize inR f 0 10000 = t6 at c6 ⊢
  go_enter Tryd.func29, Tryd.ntmps29
  go_wp2_with fail
  refine (c0 _).mono ?_
  rintro e w' ⟨rfl, rfl⟩
  cases t0
  · skip
    go_wp2
    go_ret
    exact ⟨by first | rfl | (simp [*]), Below.refl _ _⟩
  · skip
    go_wp2_with fail
    refine (c1 _).mono ?_
    rintro e w' ⟨rfl, rfl⟩
    cases t1
    · skip
      go_wp2
      go_ret
      exact ⟨by first | rfl | (simp [*]), Below.refl _ _⟩
    · skip
      go_wp2_with fail
      refine (c2 _).mono ?_
      rintro e w' ⟨rfl, rfl⟩
      cases t2
      · skip
        go_wp2
        go_ret
        exact ⟨by first | rfl | (simp [*]), Below.refl _ _⟩
      · skip
        go_wp2_with fail
        refine (c3 _).mono ?_
        rintro e w' ⟨rfl, rfl⟩
        cases t3
        · skip
          go_wp2
          go_ret
          exact ⟨by first | rfl | (simp [*]), Below.refl _ _⟩
        · skip
          cases t4 : decide (1 ≤ e)
          · skip
            go_wp2
            go_ret
            exact ⟨by first | rfl | (simp [*]), Below.refl _ _⟩
          · skip
            cases t5 : decide (e ≤ 24)
            · skip
              go_wp2
              go_ret
              exact ⟨by first | rfl | (simp [*]), Below.refl _ _⟩
            · skip
              go_wp2_with fail
              refine (c6 _).mono ?_
              rintro e w' ⟨rfl, rfl⟩
              cases t6
              all_goals
                go_wp2
                go_ret
                exact ⟨by first | rfl | (simp [*]), Below.refl _ _⟩
set_option maxRecDepth 100000 in
set_option maxHeartbeats 4000000 in
theorem nI_6 (s : Sc) (ai : Option Addr) (ni ci : Nat) (w : World) (g : Nat) (h : s.k = 6) (hb : CB w g s ai ni ci) : Calls Tryd.prog 29 #[.pointer (some ⟨g, 0, none⟩)] w fun e w' => e = .returned (.bool (kind s && fl s && idB s)) ∧ Below w.heap.size w w' := by
  have ek : kind s = true := by unfold kind; rw [h]; rfl
  have ei : idB s = inR s.a 1 999 := by unfold idB; rw [h]; rfl
  rw [fl_6 h, ek, ei]
  obtain ⟨k, key, a, b, c, d, e, f⟩ := s
  dsimp only at h ⊢
  subst h
  obtain ⟨y0, y1, y2, y3, y4, y5, y6, y7, y8⟩ := hb
  clear ek ei
  dsimp only at y0 y1 y2 y3 y4 y5 y6 y7 y8
  have eq : (true && (inR b 0 7 && inR c 1 1000) && inR a 1 999) = (inR a 1 999 && decide (0 ≤ b) && decide (b < 8) && decide (1 ≤ c) && decide (c ≤ 1000)) := by
    rw [inR8]; unfold inR; first | rfl | (simp; done) | ac_rfl | (simp only [Bool.true_and, Bool.and_true]; ac_rfl)
  rw [eq]
  clear eq
  have c0 := idI a
  generalize inR a 1 999 = t0 at c0 ⊢
  go_enter Tryd.func29, Tryd.ntmps29
  go_wp2_with fail
  refine (c0 _).mono ?_
  rintro e w' ⟨rfl, rfl⟩
  cases t0
  · skip
    go_wp2
    go_ret
    exact ⟨by first | rfl | (simp [*]), Below.refl _ _⟩
  · skip
    cases t1 : decide (0 ≤ b)
    · skip
      go_wp2
      go_ret
      exact ⟨by first | rfl | (simp [*]), Below.refl _ _⟩
    · skip
      cases t2 : decide (b < 8)
      · skip
        go_wp2
        go_ret
        exact ⟨by first | rfl | (simp [*]), Below.refl _ _⟩
      · skip
        cases t3 : decide (1 ≤ c)
        · skip
          go_wp2
          go_ret
          exact ⟨by first | rfl | (simp [*]), Below.refl _ _⟩
        · skip
          cases t4 : decide (c ≤ 1000)
          all_goals
            go_wp2
            go_ret
            exact ⟨by first | rfl | (simp [*]), Below.refl _ _⟩
set_option maxRecDepth 100000 in
set_option maxHeartbeats 4000000 in
theorem nI_7 (s : Sc) (ai : Option Addr) (ni ci : Nat) (w : World) (g : Nat) (h : s.k = 7) (hb : CB w g s ai ni ci) : Calls Tryd.prog 29 #[.pointer (some ⟨g, 0, none⟩)] w fun e w' => e = .returned (.bool (kind s && fl s && idB s)) ∧ Below w.heap.size w w' := by
  have ek : kind s = true := by unfold kind; rw [h]; rfl
  have ei : idB s = inR s.a 1 999 := by unfold idB; rw [h]; rfl
  rw [fl_7 h, ek, ei]
  obtain ⟨k, key, a, b, c, d, e, f⟩ := s
  dsimp only at h ⊢
  subst h
  obtain ⟨y0, y1, y2, y3, y4, y5, y6, y7, y8⟩ := hb
  clear ek ei
  dsimp only at y0 y1 y2 y3 y4 y5 y6 y7 y8
  have eq : (true && (inR b 0 5 && inR c 1 1000000000000) && inR a 1 999) = (inR a 1 999 && inR b 0 5 && inR c 1 1000000000000) := by
    first | rfl | (simp; done) | ac_rfl | (simp only [Bool.true_and, Bool.and_true]; ac_rfl)
  rw [eq]
  clear eq
  have c0 := idI a
  generalize inR a 1 999 = t0 at c0 ⊢
  have c1 := curI b
  generalize inR b 0 5 = t1 at c1 ⊢
  have c2 := posI c
  generalize inR c 1 1000000000000 = t2 at c2 ⊢
  go_enter Tryd.func29, Tryd.ntmps29
  go_wp2_with fail
  refine (c0 _).mono ?_
  rintro e w' ⟨rfl, rfl⟩
  cases t0
  · skip
    go_wp2
    go_ret
    exact ⟨by first | rfl | (simp [*]), Below.refl _ _⟩
  · skip
    go_wp2_with fail
    refine (c1 _).mono ?_
    rintro e w' ⟨rfl, rfl⟩
    cases t1
    · skip
      go_wp2
      go_ret
      exact ⟨by first | rfl | (simp [*]), Below.refl _ _⟩
    · skip
      go_wp2_with fail
      refine (c2 _).mono ?_
      rintro e w' ⟨rfl, rfl⟩
      cases t2
      all_goals
        go_wp2
        go_ret
        exact ⟨by first | rfl | (simp [*]), Below.refl _ _⟩
set_option maxRecDepth 100000 in
set_option maxHeartbeats 4000000 in
theorem nI_8 (s : Sc) (ai : Option Addr) (ni ci : Nat) (w : World) (g : Nat) (h : s.k = 8) (hb : CB w g s ai ni ci) : Calls Tryd.prog 29 #[.pointer (some ⟨g, 0, none⟩)] w fun e w' => e = .returned (.bool (kind s && fl s && idB s)) ∧ Below w.heap.size w w' := by
  have ek : kind s = true := by unfold kind; rw [h]; rfl
  have ei : idB s = inR s.a 1 999 := by unfold idB; rw [h]; rfl
  rw [fl_8 h, ek, ei]
  obtain ⟨k, key, a, b, c, d, e, f⟩ := s
  dsimp only at h ⊢
  subst h
  obtain ⟨y0, y1, y2, y3, y4, y5, y6, y7, y8⟩ := hb
  clear ek ei
  dsimp only at y0 y1 y2 y3 y4 y5 y6 y7 y8
  have eq : (true && (inR b 0 7 && inR c 1 1000) && inR a 1 999) = (inR a 1 999 && decide (0 ≤ b) && decide (b < 8) && decide (1 ≤ c) && decide (c ≤ 1000)) := by
    rw [inR8]; unfold inR; first | rfl | (simp; done) | ac_rfl | (simp only [Bool.true_and, Bool.and_true]; ac_rfl)
  rw [eq]
  clear eq
  have c0 := idI a
  generalize inR a 1 999 = t0 at c0 ⊢
  go_enter Tryd.func29, Tryd.ntmps29
  go_wp2_with fail
  refine (c0 _).mono ?_
  rintro e w' ⟨rfl, rfl⟩
  cases t0
  · skip
    go_wp2
    go_ret
    exact ⟨by first | rfl | (simp [*]), Below.refl _ _⟩
  · skip
    cases t1 : decide (0 ≤ b)
    · skip
      go_wp2
      go_ret
      exact ⟨by first | rfl | (simp [*]), Below.refl _ _⟩
    · skip
      cases t2 : decide (b < 8)
      · skip
        go_wp2
        go_ret
        exact ⟨by first | rfl | (simp [*]), Below.refl _ _⟩
      · skip
        cases t3 : decide (1 ≤ c)
        · skip
          go_wp2
          go_ret
          exact ⟨by first | rfl | (simp [*]), Below.refl _ _⟩
        · skip
          cases t4 : decide (c ≤ 1000)
          all_goals
            go_wp2
            go_ret
            exact ⟨by first | rfl | (simp [*]), Below.refl _ _⟩
set_option maxRecDepth 100000 in
set_option maxHeartbeats 4000000 in
theorem nI_9 (s : Sc) (ai : Option Addr) (ni ci : Nat) (w : World) (g : Nat) (h : s.k = 9) (hb : CB w g s ai ni ci) : Calls Tryd.prog 29 #[.pointer (some ⟨g, 0, none⟩)] w fun e w' => e = .returned (.bool (kind s && fl s && idB s)) ∧ Below w.heap.size w w' := by
  have ek : kind s = true := by unfold kind; rw [h]; rfl
  have ei : idB s = inR s.a 1 999 := by unfold idB; rw [h]; rfl
  rw [fl_9 h, ek, ei]
  obtain ⟨k, key, a, b, c, d, e, f⟩ := s
  dsimp only at h ⊢
  subst h
  obtain ⟨y0, y1, y2, y3, y4, y5, y6, y7, y8⟩ := hb
  clear ek ei
  dsimp only at y0 y1 y2 y3 y4 y5 y6 y7 y8
  have eq : (true && (inR b 1 1000000000000) && inR a 1 999) = (inR a 1 999 && inR b 1 1000000000000) := by
    first | rfl | (simp; done) | ac_rfl | (simp only [Bool.true_and, Bool.and_true]; ac_rfl)
  rw [eq]
  clear eq
  have c0 := idI a
  generalize inR a 1 999 = t0 at c0 ⊢
  have c1 := posI b
  generalize inR b 1 1000000000000 = t1 at c1 ⊢
  go_enter Tryd.func29, Tryd.ntmps29
  go_wp2_with fail
  refine (c0 _).mono ?_
  rintro e w' ⟨rfl, rfl⟩
  cases t0
  · skip
    go_wp2
    go_ret
    exact ⟨by first | rfl | (simp [*]), Below.refl _ _⟩
  · skip
    go_wp2_with fail
    refine (c1 _).mono ?_
    rintro e w' ⟨rfl, rfl⟩
    cases t1
    all_goals
      go_wp2
      go_ret
      exact ⟨by first | rfl | (simp [*]), Below.refl _ _⟩
set_option maxRecDepth 100000 in
set_option maxHeartbeats 4000000 in
theorem nI_10 (s : Sc) (ai : Option Addr) (ni ci : Nat) (w : World) (g : Nat) (h : s.k = 10) (hb : CB w g s ai ni ci) : Calls Tryd.prog 29 #[.pointer (some ⟨g, 0, none⟩)] w fun e w' => e = .returned (.bool (kind s && fl s && idB s)) ∧ Below w.heap.size w w' := by
  have ek : kind s = true := by unfold kind; rw [h]; rfl
  have ei : idB s = inR s.a 1 999 := by unfold idB; rw [h]; rfl
  rw [fl_10 h, ek, ei]
  obtain ⟨k, key, a, b, c, d, e, f⟩ := s
  dsimp only at h ⊢
  subst h
  obtain ⟨y0, y1, y2, y3, y4, y5, y6, y7, y8⟩ := hb
  clear ek ei
  dsimp only at y0 y1 y2 y3 y4 y5 y6 y7 y8
  have eq : (true && (inR b 0 1) && inR a 1 999) = (inR a 1 999 && ((b == 0) || (b == 1))) := by
    rw [inR1]; first | rfl | (simp; done) | ac_rfl | (simp only [Bool.true_and, Bool.and_true]; ac_rfl)
  rw [eq]
  clear eq
  have c0 := idI a
  generalize inR a 1 999 = t0 at c0 ⊢
  go_enter Tryd.func29, Tryd.ntmps29
  go_wp2_with fail
  refine (c0 _).mono ?_
  rintro e w' ⟨rfl, rfl⟩
  cases t0
  · skip
    go_wp2
    go_ret
    exact ⟨by first | rfl | (simp [*]), Below.refl _ _⟩
  · skip
    cases t1 : (b == 0) <;> cases u1 : (b == 1)
    all_goals
      go_wp2
      go_ret
      exact ⟨by first | rfl | (simp [*]), Below.refl _ _⟩
set_option maxRecDepth 100000 in
set_option maxHeartbeats 4000000 in
theorem nI_11 (s : Sc) (ai : Option Addr) (ni ci : Nat) (w : World) (g : Nat) (h : s.k = 11) (hb : CB w g s ai ni ci) : Calls Tryd.prog 29 #[.pointer (some ⟨g, 0, none⟩)] w fun e w' => e = .returned (.bool (kind s && fl s && idB s)) ∧ Below w.heap.size w w' := by
  have ek : kind s = true := by unfold kind; rw [h]; rfl
  have ei : idB s = inR s.a 1 999 := by unfold idB; rw [h]; rfl
  rw [fl_11 h, ek, ei]
  obtain ⟨k, key, a, b, c, d, e, f⟩ := s
  dsimp only at h ⊢
  subst h
  obtain ⟨y0, y1, y2, y3, y4, y5, y6, y7, y8⟩ := hb
  clear ek ei
  dsimp only at y0 y1 y2 y3 y4 y5 y6 y7 y8
  have eq : (true && (inR b 0 5) && inR a 1 999) = (inR a 1 999 && inR b 0 5) := by
    first | rfl | (simp; done) | ac_rfl | (simp only [Bool.true_and, Bool.and_true]; ac_rfl)
  rw [eq]
  clear eq
  have c0 := idI a
  generalize inR a 1 999 = t0 at c0 ⊢
  have c1 := curI b
  generalize inR b 0 5 = t1 at c1 ⊢
  go_enter Tryd.func29, Tryd.ntmps29
  go_wp2_with fail
  refine (c0 _).mono ?_
  rintro e w' ⟨rfl, rfl⟩
  cases t0
  · skip
    go_wp2
    go_ret
    exact ⟨by first | rfl | (simp [*]), Below.refl _ _⟩
  · skip
    go_wp2_with fail
    refine (c1 _).mono ?_
    rintro e w' ⟨rfl, rfl⟩
    cases t1
    all_goals
      go_wp2
      go_ret
      exact ⟨by first | rfl | (simp [*]), Below.refl _ _⟩
set_option maxRecDepth 100000 in
set_option maxHeartbeats 4000000 in
theorem nI_12 (s : Sc) (ai : Option Addr) (ni ci : Nat) (w : World) (g : Nat) (h : s.k = 12) (hb : CB w g s ai ni ci) : Calls Tryd.prog 29 #[.pointer (some ⟨g, 0, none⟩)] w fun e w' => e = .returned (.bool (kind s && fl s && idB s)) ∧ Below w.heap.size w w' := by
  have ek : kind s = true := by unfold kind; rw [h]; rfl
  have ei : idB s = inR s.a 1 999 := by unfold idB; rw [h]; rfl
  rw [fl_12 h, ek, ei]
  obtain ⟨k, key, a, b, c, d, e, f⟩ := s
  dsimp only at h ⊢
  subst h
  obtain ⟨y0, y1, y2, y3, y4, y5, y6, y7, y8⟩ := hb
  clear ek ei
  dsimp only at y0 y1 y2 y3 y4 y5 y6 y7 y8
  have eq : (true && (inR b 0 5 && inR c 1 1000000000000) && inR a 1 999) = (inR a 1 999 && inR b 0 5 && inR c 1 1000000000000) := by
    first | rfl | (simp; done) | ac_rfl | (simp only [Bool.true_and, Bool.and_true]; ac_rfl)
  rw [eq]
  clear eq
  have c0 := idI a
  generalize inR a 1 999 = t0 at c0 ⊢
  have c1 := curI b
  generalize inR b 0 5 = t1 at c1 ⊢
  have c2 := posI c
  generalize inR c 1 1000000000000 = t2 at c2 ⊢
  go_enter Tryd.func29, Tryd.ntmps29
  go_wp2_with fail
  refine (c0 _).mono ?_
  rintro e w' ⟨rfl, rfl⟩
  cases t0
  · skip
    go_wp2
    go_ret
    exact ⟨by first | rfl | (simp [*]), Below.refl _ _⟩
  · skip
    go_wp2_with fail
    refine (c1 _).mono ?_
    rintro e w' ⟨rfl, rfl⟩
    cases t1
    · skip
      go_wp2
      go_ret
      exact ⟨by first | rfl | (simp [*]), Below.refl _ _⟩
    · skip
      go_wp2_with fail
      refine (c2 _).mono ?_
      rintro e w' ⟨rfl, rfl⟩
      cases t2
      all_goals
        go_wp2
        go_ret
        exact ⟨by first | rfl | (simp [*]), Below.refl _ _⟩
set_option maxRecDepth 100000 in
set_option maxHeartbeats 4000000 in
theorem nI_13 (s : Sc) (ai : Option Addr) (ni ci : Nat) (w : World) (g : Nat) (h : s.k = 13) (hb : CB w g s ai ni ci) : Calls Tryd.prog 29 #[.pointer (some ⟨g, 0, none⟩)] w fun e w' => e = .returned (.bool (kind s && fl s && idB s)) ∧ Below w.heap.size w w' := by
  have ek : kind s = true := by unfold kind; rw [h]; rfl
  have ei : idB s = inR s.a 1 999 := by unfold idB; rw [h]; rfl
  rw [fl_13 h, ek, ei]
  obtain ⟨k, key, a, b, c, d, e, f⟩ := s
  dsimp only at h ⊢
  subst h
  obtain ⟨y0, y1, y2, y3, y4, y5, y6, y7, y8⟩ := hb
  clear ek ei
  dsimp only at y0 y1 y2 y3 y4 y5 y6 y7 y8
  have eq : (true && (true) && inR a 1 999) = (inR a 1 999) := by
    first | rfl | (simp; done) | ac_rfl | (simp only [Bool.true_and, Bool.and_true]; ac_rfl)
  rw [eq]
  clear eq
  have c0 := idI a
  generalize inR a 1 999 = t0 at c0 ⊢
  go_enter Tryd.func29, Tryd.ntmps29
  go_wp2_with fail
  refine (c0 _).mono ?_
  rintro e w' ⟨rfl, rfl⟩
  cases t0
  all_goals
    go_wp2
    go_ret
    exact ⟨by first | rfl | (simp [*]), Below.refl _ _⟩
set_option maxRecDepth 100000 in
set_option maxHeartbeats 4000000 in
theorem nI_no (s : Sc) (ai : Option Addr) (ni ci : Nat) (w : World) (g : Nat) (h : inR s.k 1 13 = false) (hb : CB w g s ai ni ci) : Calls Tryd.prog 29 #[.pointer (some ⟨g, 0, none⟩)] w fun e w' => e = .returned (.bool (kind s && fl s && idB s)) ∧ Below w.heap.size w w' := by
  have ek : kind s = false := h
  rw [ek]
  have y0 := hb.c0
  have q1 : (s.k == 1) = false := beq_eq_false_iff_ne.2 (fun e => by rw [e] at h; exact absurd h (by decide))
  have q2 : (s.k == 2) = false := beq_eq_false_iff_ne.2 (fun e => by rw [e] at h; exact absurd h (by decide))
  have q3 : (s.k == 3) = false := beq_eq_false_iff_ne.2 (fun e => by rw [e] at h; exact absurd h (by decide))
  have q4 : (s.k == 4) = false := beq_eq_false_iff_ne.2 (fun e => by rw [e] at h; exact absurd h (by decide))
  have q5 : (s.k == 5) = false := beq_eq_false_iff_ne.2 (fun e => by rw [e] at h; exact absurd h (by decide))
  have q6 : (s.k == 6) = false := beq_eq_false_iff_ne.2 (fun e => by rw [e] at h; exact absurd h (by decide))
  have q7 : (s.k == 7) = false := beq_eq_false_iff_ne.2 (fun e => by rw [e] at h; exact absurd h (by decide))
  have q8 : (s.k == 8) = false := beq_eq_false_iff_ne.2 (fun e => by rw [e] at h; exact absurd h (by decide))
  have q9 : (s.k == 9) = false := beq_eq_false_iff_ne.2 (fun e => by rw [e] at h; exact absurd h (by decide))
  have q10 : (s.k == 10) = false := beq_eq_false_iff_ne.2 (fun e => by rw [e] at h; exact absurd h (by decide))
  have q11 : (s.k == 11) = false := beq_eq_false_iff_ne.2 (fun e => by rw [e] at h; exact absurd h (by decide))
  have q12 : (s.k == 12) = false := beq_eq_false_iff_ne.2 (fun e => by rw [e] at h; exact absurd h (by decide))
  have q13 : (s.k == 13) = false := beq_eq_false_iff_ne.2 (fun e => by rw [e] at h; exact absurd h (by decide))
  clear ek h hb
  generalize s.k = k at *
  go_enter Tryd.func29, Tryd.ntmps29
  go_wp2
  go_ret
  exact ⟨rfl, Below.refl _ _⟩
end Go.Proofs.YtcpglphhhmgjkaaDoor.cm
