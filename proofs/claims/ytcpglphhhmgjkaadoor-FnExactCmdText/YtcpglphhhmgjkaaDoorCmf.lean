/-
  Plain helpers of this seat's proofs: what each kind asks of the numbers. Conditions: none.
-/
import Derived.Test.YtcpglphhhmgjkaaDoorCmm
import Derived.Test.YtcpglphhhmgjkaaDoorCmi
namespace Go.Proofs.YtcpglphhhmgjkaaDoor.cm
open Go.ChangeShapes Go.WideShapes Go.ChangeAt Go.RowKit
open gen
open four (F4)
theorem fl_1 {s : Sc} (h : s.k = 1) : fl s = (inR s.a 0 100000) := by unfold fl; rw [h]; rfl
theorem fl_2 {s : Sc} (h : s.k = 2) : fl s = (inR s.a 0 5 && inR s.b 0 5 && !(s.a == s.b) && inR s.c 1 1000000 && inR s.d 1 1000000) := by unfold fl; rw [h]; rfl
theorem fl_3 {s : Sc} (h : s.k = 3) : fl s = (inR s.b 0 1000000000000) := by unfold fl; rw [h]; rfl
theorem fl_4 {s : Sc} (h : s.k = 4) : fl s = (inR s.b 0 10000 && inR s.c 0 10000) := by unfold fl; rw [h]; rfl
theorem fl_5 {s : Sc} (h : s.k = 5) : fl s = (inR s.b 1 999 && inR s.c 1 999 && inR s.d 0 5 && inR s.e 1 24 && inR s.f 0 10000) := by unfold fl; rw [h]; rfl
theorem fl_6 {s : Sc} (h : s.k = 6) : fl s = (inR s.b 0 7 && inR s.c 1 1000) := by unfold fl; rw [h]; rfl
theorem fl_7 {s : Sc} (h : s.k = 7) : fl s = (inR s.b 0 5 && inR s.c 1 1000000000000) := by unfold fl; rw [h]; rfl
theorem fl_8 {s : Sc} (h : s.k = 8) : fl s = (inR s.b 0 7 && inR s.c 1 1000) := by unfold fl; rw [h]; rfl
theorem fl_9 {s : Sc} (h : s.k = 9) : fl s = (inR s.b 1 1000000000000) := by unfold fl; rw [h]; rfl
theorem fl_10 {s : Sc} (h : s.k = 10) : fl s = (inR s.b 0 1) := by unfold fl; rw [h]; rfl
theorem fl_11 {s : Sc} (h : s.k = 11) : fl s = (inR s.b 0 5) := by unfold fl; rw [h]; rfl
theorem fl_12 {s : Sc} (h : s.k = 12) : fl s = (inR s.b 0 5 && inR s.c 1 1000000000000) := by unfold fl; rw [h]; rfl
theorem fl_13 {s : Sc} (h : s.k = 13) : fl s = (true) := by unfold fl; rw [h]; rfl
set_option maxHeartbeats 2000000 in
theorem fS_1 (s : Sc) (ai : Option Addr) (ni ci : Nat) (w : World) (h : s.k = 1) : Calls Tryd.prog 23 #[.agg #[.int .i64 s.k, .string s.key, .int .i64 s.a, .int .i64 s.b, .int .i64 s.c, .int .i64 s.d, .int .i64 s.e, .int .i64 s.f, .slice ai ni ci]] w fun e w' => e = .returned (.bool (fl s)) ∧ Below w.heap.size w w' := by
  rw [fl_1 h]
  obtain ⟨k, key, a, b, c, d, e, f⟩ := s
  dsimp only at h ⊢
  subst h
  have B0 := Lib.hid (show Below w.heap.size w (w.alloc (.cells #[.int .i64 1, .string key, .int .i64 a, .int .i64 b, .int .i64 c, .int .i64 d, .int .i64 e, .int .i64 f, .slice ai ni ci] 29)) from bAl (Below.refl _ _) (Nat.le_refl _) _)
  have c0 := dayS a
  generalize inR a 0 100000 = t0 at c0 ⊢
  go_enter Tryd.func23, Tryd.ntmps23
  go_wp2_with fail
  refine (c0 _).mono ?_
  rintro e w' ⟨rfl, rfl⟩
  cases t0
  all_goals
    go_wp2
    go_ret
    exact ⟨rfl, B0.out⟩
set_option maxHeartbeats 2000000 in
theorem fS_2 (s : Sc) (ai : Option Addr) (ni ci : Nat) (w : World) (h : s.k = 2) : Calls Tryd.prog 23 #[.agg #[.int .i64 s.k, .string s.key, .int .i64 s.a, .int .i64 s.b, .int .i64 s.c, .int .i64 s.d, .int .i64 s.e, .int .i64 s.f, .slice ai ni ci]] w fun e w' => e = .returned (.bool (fl s)) ∧ Below w.heap.size w w' := by
  rw [fl_2 h]
  obtain ⟨k, key, a, b, c, d, e, f⟩ := s
  dsimp only at h ⊢
  subst h
  have B0 := Lib.hid (show Below w.heap.size w (w.alloc (.cells #[.int .i64 2, .string key, .int .i64 a, .int .i64 b, .int .i64 c, .int .i64 d, .int .i64 e, .int .i64 f, .slice ai ni ci] 29)) from bAl (Below.refl _ _) (Nat.le_refl _) _)
  have C := Lib.hid (fun W => rokS a b c d W)
  generalize (inR a 0 5 && inR b 0 5 && !(a == b) && inR c 1 1000000 && inR d 1 1000000) = T at C ⊢
  go_enter Tryd.func23, Tryd.ntmps23
  go_wp2_with fail
  refine (C.out _).mono ?_
  rintro e w1 ⟨rfl, b1⟩
  have B1 := Lib.hid (B0.out.trans (b1.mono B0.out.size))
  clear b1
  go_wp2
  go_ret
  exact ⟨rfl, B1.out⟩
set_option maxHeartbeats 2000000 in
theorem fS_3 (s : Sc) (ai : Option Addr) (ni ci : Nat) (w : World) (h : s.k = 3) : Calls Tryd.prog 23 #[.agg #[.int .i64 s.k, .string s.key, .int .i64 s.a, .int .i64 s.b, .int .i64 s.c, .int .i64 s.d, .int .i64 s.e, .int .i64 s.f, .slice ai ni ci]] w fun e w' => e = .returned (.bool (fl s)) ∧ Below w.heap.size w w' := by
  rw [fl_3 h]
  obtain ⟨k, key, a, b, c, d, e, f⟩ := s
  dsimp only at h ⊢
  subst h
  have B0 := Lib.hid (show Below w.heap.size w (w.alloc (.cells #[.int .i64 3, .string key, .int .i64 a, .int .i64 b, .int .i64 c, .int .i64 d, .int .i64 e, .int .i64 f, .slice ai ni ci] 29)) from bAl (Below.refl _ _) (Nat.le_refl _) _)
  have c0 := inB b 0 1000000000000
  generalize inR b 0 1000000000000 = t0 at c0 ⊢
  go_enter Tryd.func23, Tryd.ntmps23
  go_wp2_with fail
  refine (c0 _).mono ?_
  rintro e w' ⟨rfl, rfl⟩
  cases t0
  all_goals
    go_wp2
    go_ret
    exact ⟨rfl, B0.out⟩
set_option maxHeartbeats 2000000 in
theorem fS_4 (s : Sc) (ai : Option Addr) (ni ci : Nat) (w : World) (h : s.k = 4) : Calls Tryd.prog 23 #[.agg #[.int .i64 s.k, .string s.key, .int .i64 s.a, .int .i64 s.b, .int .i64 s.c, .int .i64 s.d, .int .i64 s.e, .int .i64 s.f, .slice ai ni ci]] w fun e w' => e = .returned (.bool (fl s)) ∧ Below w.heap.size w w' := by
  rw [fl_4 h]
  obtain ⟨k, key, a, b, c, d, e, f⟩ := s
  dsimp only at h ⊢
  subst h
  have B0 := Lib.hid (show Below w.heap.size w (w.alloc (.cells #[.int .i64 4, .string key, .int .i64 a, .int .i64 b, .int .i64 c, .int .i64 d, .int .i64 e, .int .i64 f, .slice ai ni ci] 29)) from bAl (Below.refl _ _) (Nat.le_refl _) _)
  have c0 := inB b 0 10000
  generalize inR b 0 10000 = t0 at c0 ⊢
  have c1 := inB c 0 10000
  generalize inR c 0 10000 = t1 at c1 ⊢
  go_enter Tryd.func23, Tryd.ntmps23
  go_wp2_with fail
  refine (c0 _).mono ?_
  rintro e w' ⟨rfl, rfl⟩
  cases t0
  · skip
    go_wp2
    go_ret
    exact ⟨rfl, B0.out⟩
  · skip
    go_wp2_with fail
    refine (c1 _).mono ?_
    rintro e w' ⟨rfl, rfl⟩
    cases t1
    all_goals
      go_wp2
      go_ret
      exact ⟨rfl, B0.out⟩
set_option maxHeartbeats 2000000 in
theorem fS_5 (s : Sc) (ai : Option Addr) (ni ci : Nat) (w : World) (h : s.k = 5) : Calls Tryd.prog 23 #[.agg #[.int .i64 s.k, .string s.key, .int .i64 s.a, .int .i64 s.b, .int .i64 s.c, .int .i64 s.d, .int .i64 s.e, .int .i64 s.f, .slice ai ni ci]] w fun e w' => e = .returned (.bool (fl s)) ∧ Below w.heap.size w w' := by
  rw [fl_5 h]
  obtain ⟨k, key, a, b, c, d, e, f⟩ := s
  dsimp only at h ⊢
  subst h
  have B0 := Lib.hid (show Below w.heap.size w (w.alloc (.cells #[.int .i64 5, .string key, .int .i64 a, .int .i64 b, .int .i64 c, .int .i64 d, .int .i64 e, .int .i64 f, .slice ai ni ci] 29)) from bAl (Below.refl _ _) (Nat.le_refl _) _)
  have c0 := idS b
  generalize inR b 1 999 = t0 at c0 ⊢
  have c1 := idS c
  generalize inR c 1 999 = t1 at c1 ⊢
  have c2 := curS d
  generalize inR d 0 5 = t2 at c2 ⊢
  have c3 := inB e 1 24
  generalize inR e 1 24 = t3 at c3 ⊢
  have c4 := inB f 0 10000
  generalize inR f 0 10000 = t4 at c4 ⊢
  go_enter Tryd.func23, Tryd.ntmps23
  go_wp2_with fail
  refine (c0 _).mono ?_
  rintro e w' ⟨rfl, rfl⟩
  cases t0
  · skip
    go_wp2
    go_ret
    exact ⟨rfl, B0.out⟩
  · skip
    go_wp2_with fail
    refine (c1 _).mono ?_
    rintro e w' ⟨rfl, rfl⟩
    cases t1
    · skip
      go_wp2
      go_ret
      exact ⟨rfl, B0.out⟩
    · skip
      go_wp2_with fail
      refine (c2 _).mono ?_
      rintro e w' ⟨rfl, rfl⟩
      cases t2
      · skip
        go_wp2
        go_ret
        exact ⟨rfl, B0.out⟩
      · skip
        go_wp2_with fail
        refine (c3 _).mono ?_
        rintro e w' ⟨rfl, rfl⟩
        cases t3
        · skip
          go_wp2
          go_ret
          exact ⟨rfl, B0.out⟩
        · skip
          go_wp2_with fail
          refine (c4 _).mono ?_
          rintro e w' ⟨rfl, rfl⟩
          cases t4
          all_goals
            go_wp2
            go_ret
            exact ⟨rfl, B0.out⟩
set_option maxHeartbeats 2000000 in
theorem fS_6 (s : Sc) (ai : Option Addr) (ni ci : Nat) (w : World) (h : s.k = 6) : Calls Tryd.prog 23 #[.agg #[.int .i64 s.k, .string s.key, .int .i64 s.a, .int .i64 s.b, .int .i64 s.c, .int .i64 s.d, .int .i64 s.e, .int .i64 s.f, .slice ai ni ci]] w fun e w' => e = .returned (.bool (fl s)) ∧ Below w.heap.size w w' := by
  rw [fl_6 h]
  obtain ⟨k, key, a, b, c, d, e, f⟩ := s
  dsimp only at h ⊢
  subst h
  have B0 := Lib.hid (show Below w.heap.size w (w.alloc (.cells #[.int .i64 6, .string key, .int .i64 a, .int .i64 b, .int .i64 c, .int .i64 d, .int .i64 e, .int .i64 f, .slice ai ni ci] 29)) from bAl (Below.refl _ _) (Nat.le_refl _) _)
  have c0 := inB b 0 7
  generalize inR b 0 7 = t0 at c0 ⊢
  have c1 := inB c 1 1000
  generalize inR c 1 1000 = t1 at c1 ⊢
  go_enter Tryd.func23, Tryd.ntmps23
  go_wp2_with fail
  refine (c0 _).mono ?_
  rintro e w' ⟨rfl, rfl⟩
  cases t0
  · skip
    go_wp2
    go_ret
    exact ⟨rfl, B0.out⟩
  · skip
    go_wp2_with fail
    refine (c1 _).mono ?_
    rintro e w' ⟨rfl, rfl⟩
    cases t1
    all_goals
      go_wp2
      go_ret
      exact ⟨rfl, B0.out⟩
set_option maxHeartbeats 2000000 in
theorem fS_7 (s : Sc) (ai : Option Addr) (ni ci : Nat) (w : World) (h : s.k = 7) : Calls Tryd.prog 23 #[.agg #[.int .i64 s.k, .string s.key, .int .i64 s.a, .int .i64 s.b, .int .i64 s.c, .int .i64 s.d, .int .i64 s.e, .int .i64 s.f, .slice ai ni ci]] w fun e w' => e = .returned (.bool (fl s)) ∧ Below w.heap.size w w' := by
  rw [fl_7 h]
  obtain ⟨k, key, a, b, c, d, e, f⟩ := s
  dsimp only at h ⊢
  subst h
  have B0 := Lib.hid (show Below w.heap.size w (w.alloc (.cells #[.int .i64 7, .string key, .int .i64 a, .int .i64 b, .int .i64 c, .int .i64 d, .int .i64 e, .int .i64 f, .slice ai ni ci] 29)) from bAl (Below.refl _ _) (Nat.le_refl _) _)
  have c0 := curS b
  generalize inR b 0 5 = t0 at c0 ⊢
  have c1 := inB c 1 1000000000000
  generalize inR c 1 1000000000000 = t1 at c1 ⊢
  go_enter Tryd.func23, Tryd.ntmps23
  go_wp2_with fail
  refine (c0 _).mono ?_
  rintro e w' ⟨rfl, rfl⟩
  cases t0
  · skip
    go_wp2
    go_ret
    exact ⟨rfl, B0.out⟩
  · skip
    go_wp2_with fail
    refine (c1 _).mono ?_
    rintro e w' ⟨rfl, rfl⟩
    cases t1
    all_goals
      go_wp2
      go_ret
      exact ⟨rfl, B0.out⟩
set_option maxHeartbeats 2000000 in
theorem fS_8 (s : Sc) (ai : Option Addr) (ni ci : Nat) (w : World) (h : s.k = 8) : Calls Tryd.prog 23 #[.agg #[.int .i64 s.k, .string s.key, .int .i64 s.a, .int .i64 s.b, .int .i64 s.c, .int .i64 s.d, .int .i64 s.e, .int .i64 s.f, .slice ai ni ci]] w fun e w' => e = .returned (.bool (fl s)) ∧ Below w.heap.size w w' := by
  rw [fl_8 h]
  obtain ⟨k, key, a, b, c, d, e, f⟩ := s
  dsimp only at h ⊢
  subst h
  have B0 := Lib.hid (show Below w.heap.size w (w.alloc (.cells #[.int .i64 8, .string key, .int .i64 a, .int .i64 b, .int .i64 c, .int .i64 d, .int .i64 e, .int .i64 f, .slice ai ni ci] 29)) from bAl (Below.refl _ _) (Nat.le_refl _) _)
  have c0 := inB b 0 7
  generalize inR b 0 7 = t0 at c0 ⊢
  have c1 := inB c 1 1000
  generalize inR c 1 1000 = t1 at c1 ⊢
  go_enter Tryd.func23, Tryd.ntmps23
  go_wp2_with fail
  refine (c0 _).mono ?_
  rintro e w' ⟨rfl, rfl⟩
  cases t0
  · skip
    go_wp2
    go_ret
    exact ⟨rfl, B0.out⟩
  · skip
    go_wp2_with fail
    refine (c1 _).mono ?_
    rintro e w' ⟨rfl, rfl⟩
    cases t1
    all_goals
      go_wp2
      go_ret
      exact ⟨rfl, B0.out⟩
set_option maxHeartbeats 2000000 in
theorem fS_9 (s : Sc) (ai : Option Addr) (ni ci : Nat) (w : World) (h : s.k = 9) : Calls Tryd.prog 23 #[.agg #[.int .i64 s.k, .string s.key, .int .i64 s.a, .int .i64 s.b, .int .i64 s.c, .int .i64 s.d, .int .i64 s.e, .int .i64 s.f, .slice ai ni ci]] w fun e w' => e = .returned (.bool (fl s)) ∧ Below w.heap.size w w' := by
  rw [fl_9 h]
  obtain ⟨k, key, a, b, c, d, e, f⟩ := s
  dsimp only at h ⊢
  subst h
  have B0 := Lib.hid (show Below w.heap.size w (w.alloc (.cells #[.int .i64 9, .string key, .int .i64 a, .int .i64 b, .int .i64 c, .int .i64 d, .int .i64 e, .int .i64 f, .slice ai ni ci] 29)) from bAl (Below.refl _ _) (Nat.le_refl _) _)
  have c0 := inB b 1 1000000000000
  generalize inR b 1 1000000000000 = t0 at c0 ⊢
  go_enter Tryd.func23, Tryd.ntmps23
  go_wp2_with fail
  refine (c0 _).mono ?_
  rintro e w' ⟨rfl, rfl⟩
  cases t0
  all_goals
    go_wp2
    go_ret
    exact ⟨rfl, B0.out⟩
set_option maxHeartbeats 2000000 in
theorem fS_10 (s : Sc) (ai : Option Addr) (ni ci : Nat) (w : World) (h : s.k = 10) : Calls Tryd.prog 23 #[.agg #[.int .i64 s.k, .string s.key, .int .i64 s.a, .int .i64 s.b, .int .i64 s.c, .int .i64 s.d, .int .i64 s.e, .int .i64 s.f, .slice ai ni ci]] w fun e w' => e = .returned (.bool (fl s)) ∧ Below w.heap.size w w' := by
  rw [fl_10 h]
  obtain ⟨k, key, a, b, c, d, e, f⟩ := s
  dsimp only at h ⊢
  subst h
  have B0 := Lib.hid (show Below w.heap.size w (w.alloc (.cells #[.int .i64 10, .string key, .int .i64 a, .int .i64 b, .int .i64 c, .int .i64 d, .int .i64 e, .int .i64 f, .slice ai ni ci] 29)) from bAl (Below.refl _ _) (Nat.le_refl _) _)
  have c0 := inB b 0 1
  generalize inR b 0 1 = t0 at c0 ⊢
  go_enter Tryd.func23, Tryd.ntmps23
  go_wp2_with fail
  refine (c0 _).mono ?_
  rintro e w' ⟨rfl, rfl⟩
  cases t0
  all_goals
    go_wp2
    go_ret
    exact ⟨rfl, B0.out⟩
set_option maxHeartbeats 2000000 in
theorem fS_11 (s : Sc) (ai : Option Addr) (ni ci : Nat) (w : World) (h : s.k = 11) : Calls Tryd.prog 23 #[.agg #[.int .i64 s.k, .string s.key, .int .i64 s.a, .int .i64 s.b, .int .i64 s.c, .int .i64 s.d, .int .i64 s.e, .int .i64 s.f, .slice ai ni ci]] w fun e w' => e = .returned (.bool (fl s)) ∧ Below w.heap.size w w' := by
  rw [fl_11 h]
  obtain ⟨k, key, a, b, c, d, e, f⟩ := s
  dsimp only at h ⊢
  subst h
  have B0 := Lib.hid (show Below w.heap.size w (w.alloc (.cells #[.int .i64 11, .string key, .int .i64 a, .int .i64 b, .int .i64 c, .int .i64 d, .int .i64 e, .int .i64 f, .slice ai ni ci] 29)) from bAl (Below.refl _ _) (Nat.le_refl _) _)
  have c0 := curS b
  generalize inR b 0 5 = t0 at c0 ⊢
  go_enter Tryd.func23, Tryd.ntmps23
  go_wp2_with fail
  refine (c0 _).mono ?_
  rintro e w' ⟨rfl, rfl⟩
  cases t0
  all_goals
    go_wp2
    go_ret
    exact ⟨rfl, B0.out⟩
set_option maxHeartbeats 2000000 in
theorem fS_12 (s : Sc) (ai : Option Addr) (ni ci : Nat) (w : World) (h : s.k = 12) : Calls Tryd.prog 23 #[.agg #[.int .i64 s.k, .string s.key, .int .i64 s.a, .int .i64 s.b, .int .i64 s.c, .int .i64 s.d, .int .i64 s.e, .int .i64 s.f, .slice ai ni ci]] w fun e w' => e = .returned (.bool (fl s)) ∧ Below w.heap.size w w' := by
  rw [fl_12 h]
  obtain ⟨k, key, a, b, c, d, e, f⟩ := s
  dsimp only at h ⊢
  subst h
  have B0 := Lib.hid (show Below w.heap.size w (w.alloc (.cells #[.int .i64 12, .string key, .int .i64 a, .int .i64 b, .int .i64 c, .int .i64 d, .int .i64 e, .int .i64 f, .slice ai ni ci] 29)) from bAl (Below.refl _ _) (Nat.le_refl _) _)
  have c0 := curS b
  generalize inR b 0 5 = t0 at c0 ⊢
  have c1 := inB c 1 1000000000000
  generalize inR c 1 1000000000000 = t1 at c1 ⊢
  go_enter Tryd.func23, Tryd.ntmps23
  go_wp2_with fail
  refine (c0 _).mono ?_
  rintro e w' ⟨rfl, rfl⟩
  cases t0
  · skip
    go_wp2
    go_ret
    exact ⟨rfl, B0.out⟩
  · skip
    go_wp2_with fail
    refine (c1 _).mono ?_
    rintro e w' ⟨rfl, rfl⟩
    cases t1
    all_goals
      go_wp2
      go_ret
      exact ⟨rfl, B0.out⟩
set_option maxHeartbeats 2000000 in
theorem fS_13 (s : Sc) (ai : Option Addr) (ni ci : Nat) (w : World) (h : s.k = 13) : Calls Tryd.prog 23 #[.agg #[.int .i64 s.k, .string s.key, .int .i64 s.a, .int .i64 s.b, .int .i64 s.c, .int .i64 s.d, .int .i64 s.e, .int .i64 s.f, .slice ai ni ci]] w fun e w' => e = .returned (.bool (fl s)) ∧ Below w.heap.size w w' := by
  rw [fl_13 h]
  obtain ⟨k, key, a, b, c, d, e, f⟩ := s
  dsimp only at h ⊢
  subst h
  have B0 := Lib.hid (show Below w.heap.size w (w.alloc (.cells #[.int .i64 13, .string key, .int .i64 a, .int .i64 b, .int .i64 c, .int .i64 d, .int .i64 e, .int .i64 f, .slice ai ni ci] 29)) from bAl (Below.refl _ _) (Nat.le_refl _) _)
  go_enter Tryd.func23, Tryd.ntmps23
  go_wp2
  go_ret
  exact ⟨rfl, B0.out⟩
theorem fS (s : Sc) (ai : Option Addr) (ni ci : Nat) (w : World) (h : kind s = true) : Calls Tryd.prog 23 #[.agg #[.int .i64 s.k, .string s.key, .int .i64 s.a, .int .i64 s.b, .int .i64 s.c, .int .i64 s.d, .int .i64 s.e, .int .i64 s.f, .slice ai ni ci]] w fun e w' => e = .returned (.bool (fl s)) ∧ Below w.heap.size w w' := by
  have q : s.k = 1 ∨ s.k = 2 ∨ s.k = 3 ∨ s.k = 4 ∨ s.k = 5 ∨ s.k = 6 ∨ s.k = 7 ∨ s.k = 8 ∨ s.k = 9 ∨ s.k = 10 ∨ s.k = 11 ∨ s.k = 12 ∨ s.k = 13 := by
    unfold kind inR at h
    simp at h
    omega
  rcases q with h | h | h | h | h | h | h | h | h | h | h | h | h
  · exact fS_1 s ai ni ci w h
  · exact fS_2 s ai ni ci w h
  · exact fS_3 s ai ni ci w h
  · exact fS_4 s ai ni ci w h
  · exact fS_5 s ai ni ci w h
  · exact fS_6 s ai ni ci w h
  · exact fS_7 s ai ni ci w h
  · exact fS_8 s ai ni ci w h
  · exact fS_9 s ai ni ci w h
  · exact fS_10 s ai ni ci w h
  · exact fS_11 s ai ni ci w h
  · exact fS_12 s ai ni ci w h
  · exact fS_13 s ai ni ci w h
end Go.Proofs.YtcpglphhhmgjkaaDoor.cm
