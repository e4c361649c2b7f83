/-
  Plain helpers of this seat's proofs: the numbers of a command, and how many a kind has. Conditions: none.
-/
import Derived.Test.YtcpglphhhmgjkaaDoorCmm
namespace Go.Proofs.YtcpglphhhmgjkaaDoor.cm
open Go.ChangeShapes Go.WideShapes Go.ChangeAt Go.RowKit
open gen
open four (F4)
def nA (s : Sc) (i : Nat) : Value := .int .i64 ((nums s).getD i 0)
theorem numsS (s : Sc) (ai : Option Addr) (ni ci : Nat) (w : World) : Calls Tryd.prog 25 #[.agg #[.int .i64 s.k, .string s.key, .int .i64 s.a, .int .i64 s.b, .int .i64 s.c, .int .i64 s.d, .int .i64 s.e, .int .i64 s.f, .slice ai ni ci]] w fun e w' => ∃ g, e = .returned (.slice (some ⟨g, 0, none⟩) 6 6) ∧ Blk w' g 6 (nA s) ∧ w.heap.size ≤ g ∧ Below w.heap.size w w' := by
  have K := Blk.new (w.alloc (.cells #[.int .i64 s.k, .string s.key, .int .i64 s.a, .int .i64 s.b, .int .i64 s.c, .int .i64 s.d, .int .i64 s.e, .int .i64 s.f, .slice ai ni ci] 29)) #[.int .i64 s.a, .int .i64 s.b, .int .i64 s.c, .int .i64 s.d, .int .i64 s.e, .int .i64 s.f] 2 6 rfl
  simp only [sz_al] at K
  go_enter Tryd.func25, Tryd.ntmps25
  go_wp2
  go_ret
  refine ⟨_, rfl, K.lit ?_, by omega, bAl (bAl (Below.refl _ _) (Nat.le_refl _) _) (Nat.le_refl _) _⟩
  intro i hi
  match i, hi with
  | 0, _ => rfl
  | 1, _ => rfl
  | 2, _ => rfl
  | 3, _ => rfl
  | 4, _ => rfl
  | 5, _ => rfl
set_option maxHeartbeats 8000000 in
theorem cntS (k : Int) (w : World) (h : inR k 1 13 = true) : Calls Tryd.prog 26 #[.int .i64 k] w fun e w' => e = .returned (.int .i64 (cnt k : Nat)) ∧ Below w.heap.size w w' := by
  have q : k = 1 ∨ k = 2 ∨ k = 3 ∨ k = 4 ∨ k = 5 ∨ k = 6 ∨ k = 7 ∨ k = 8 ∨ k = 9 ∨ k = 10 ∨ k = 11 ∨ k = 12 ∨ k = 13 := by
    unfold inR at h
    simp at h
    omega
  clear h
  rcases q with rfl | rfl | rfl | rfl | rfl | rfl | rfl | rfl | rfl | rfl | rfl | rfl | rfl
  all_goals
    go_enter Tryd.func26, Tryd.ntmps26
    go_wp2
    go_ret
    exact ⟨rfl, bAl (Below.refl _ _) (Nat.le_refl _) _⟩
theorem cnt_le (k : Int) (h : inR k 1 13 = true) : cnt k ≤ 6 := by
  have q : k = 1 ∨ k = 2 ∨ k = 3 ∨ k = 4 ∨ k = 5 ∨ k = 6 ∨ k = 7 ∨ k = 8 ∨ k = 9 ∨ k = 10 ∨ k = 11 ∨ k = 12 ∨ k = 13 := by
    unfold inR at h
    simp at h
    omega
  rcases q with rfl | rfl | rfl | rfl | rfl | rfl | rfl | rfl | rfl | rfl | rfl | rfl | rfl <;> decide
end Go.Proofs.YtcpglphhhmgjkaaDoor.cm
