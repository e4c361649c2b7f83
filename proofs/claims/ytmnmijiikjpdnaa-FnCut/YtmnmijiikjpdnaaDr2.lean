/-
  Plain helpers of this seat's proofs: contracts of the functions that draw arguments from a code. Conditions: none.
-/
import Derived.Test.YtmnmijiikjpdnaaDr1
namespace Go.Proofs.Ytmnmijiikjpdnaa.draw
open Go.ChangeShapes Go.WideShapes Go.ChangeAt Go.RowKit
/-- A word, drawn. -/
def GotU (w : World) (b len : Nat) (e : Ending) (w' : World) : Prop :=
  ∃ x : Int, (Lit.int .u64 x).wf = true ∧ e = .returned (.int .u64 x) ∧ Only b w w' ∧ Rd w' b len
/-- A number of 64 bits, drawn. -/
def GotW (w : World) (b len : Nat) (e : Ending) (w' : World) : Prop :=
  ∃ x : Int, (Lit.int .i64 x).wf = true ∧ e = .returned (.int .i64 x) ∧ Only b w w' ∧ Rd w' b len
theorem wf_small (x : Int) (h1 : -1000000000000000000 ≤ x) (h2 : x ≤ 1000000000000000000) : (Lit.int .i64 x).wf = true := by
  simp [Lit.wf, IntKind.min, IntKind.max, IntKind.bits, IntKind.signed]; omega
theorem Got.any {w : World} {b len : Nat} {lo hi : Int} {e : Ending} {w' : World} (h : Got w b len lo hi e w') (h1 : -1000000000000000000 ≤ lo) (h2 : hi ≤ 1000000000000000000) : GotW w b len e w' := by
  obtain ⟨x, a, c, r⟩ := h
  exact ⟨x, wf_small _ (by omega) (by omega), r⟩
set_option maxHeartbeats 400000 in
theorem word (w : World) (b len : Nat) (r : Rd w b len) : Calls Try.prog 76 #[.pointer (some ⟨b, 0, none⟩)] w (GotU w b len) := by
  have R := Lib.hid r
  clear r
  go_enter Try.func76, Try.ntmps76
  go_wp2
  go_loopw [3, 4] (fun x i wr => Only b w wr ∧ Rd wr b len ∧ ∃ v : Int, (Lit.int .u64 v).wf = true ∧ x = .int .u64 v ∧ ∃ k : Nat, k ≤ 8 ∧ i = .int .i64 k) (fun _ i _ => 8 - (intOf i).toNat)
  case atStart => exact ⟨Only.refl _ _, R.out, 0, by decide, rfl, 0, by omega, rfl⟩
  case round =>
    obtain ⟨hB, hr, v, hv, rfl, k, hk, rfl⟩ := hrel
    have RR := Lib.hid hr
    have BB := Lib.hid hB
    have VV := Lib.hid hv
    clear hr hB hv
    by_cases hlt : k < 8
    · go_wp2_with fail
      refine (next _ b len RR.out).mono ?_
      rintro e w1 ⟨z, z1, z2, rfl, b1, r1⟩
      have R1 := Lib.hid r1
      have B1 := Lib.hid b1
      clear r1 b1
      go_wp2
      go_roundw
      case rel => exact ⟨BB.out.trans B1.out, R1.out, _, wf_bits .or .u64 _ _, rfl, k + 1, by omega, by go_num⟩
      case measure => simp [intOf]; omega
    · go_wp2
      go_ret
      exact ⟨v, VV.out, rfl, BB.out, RR.out⟩
set_option maxHeartbeats 400000 in
theorem near (w : World) (b len : Nat) (lo hi : Int) (r : Rd w b len) (h0 : -1000000000000000 ≤ lo) (h1 : lo ≤ hi) (h2 : hi ≤ 1000000000000000) : Calls Try.prog 71 #[.pointer (some ⟨b, 0, none⟩), .int .i64 lo, .int .i64 hi] w (GotW w b len) := by
  have R := Lib.hid r
  clear r
  have t1 : decide (hi < lo) = false := by simp; omega
  go_enter Try.func71, Try.ntmps71
  go_wp2_with fail
  refine (below w b len 8 R.out (by omega) (by omega)).mono ?_
  rintro e w1 ⟨x, x1, x2, rfl, b1, r1⟩
  have R1 := Lib.hid r1
  have B1 := Lib.hid b1
  clear r1 b1
  by_cases e0 : x = 0
  · subst e0
    go_wp2
    go_ret
    exact ⟨lo, wf_small _ (by omega) (by omega), rfl, B1.out, R1.out⟩
  · have f0 : (x == 0) = false := by simp [e0]
    clear e0
    by_cases e1 : x = 1
    · subst e1
      go_wp2
      go_ret
      exact ⟨hi, wf_small _ (by omega) (by omega), rfl, B1.out, R1.out⟩
    · have f1 : (x == 1) = false := by simp [e1]
      clear e1
      go_wp2_with fail
      refine (word w1 b len R1.out).mono ?_
      rintro e w2 ⟨v, v1, rfl, b2, r2⟩
      have R2 := Lib.hid r2
      have B2 := Lib.hid b2
      have V1 := Lib.hid v1
      clear r2 b2 v1
      go_wp2
      go_ret
      exact ⟨_, wrap64_wf _, rfl, B1.out.trans B2.out, R2.out⟩
set_option maxHeartbeats 400000 in
theorem off (w : World) (b len : Nat) (lo hi : Int) (r : Rd w b len) (h0 : -1000000000000000 ≤ lo) (h1 : lo ≤ hi) (h2 : hi ≤ 1000000000000000) : Calls Try.prog 56 #[.pointer (some ⟨b, 0, none⟩), .int .i64 lo, .int .i64 hi] w (GotW w b len) := by
  have R := Lib.hid r
  clear r
  go_enter Try.func56, Try.ntmps56
  go_wp2_with fail
  refine (once w b len 24 R.out (by omega) (by omega)).mono ?_
  rintro e w1 ⟨t, rfl, b1, r1⟩
  have R1 := Lib.hid r1
  have B1 := Lib.hid b1
  clear r1 b1
  cases t
  · go_wp2_with fail
    refine (near w1 b len lo hi R1.out h0 h1 h2).mono ?_
    rintro e w2 ⟨v, v1, rfl, b2, r2⟩
    have R2 := Lib.hid r2
    have B2 := Lib.hid b2
    have V1 := Lib.hid v1
    clear r2 b2 v1
    go_wp2
    go_ret
    exact ⟨v, V1.out, rfl, B1.out.trans B2.out, R2.out⟩
  · go_wp2_with fail
    refine (below _ b len 4 (R1.out.alloc _) (by omega) (by omega)).mono ?_
    rintro e w2 ⟨x, x1, x2, rfl, b2, r2⟩
    have c0 := b2.cell (k := w1.heap.size) (o := 0) (by simp) (by have := R1.out.lt; omega)
    have c1 := b2.cell (k := w1.heap.size) (o := 1) (by simp) (by have := R1.out.lt; omega)
    have c2 := b2.cell (k := w1.heap.size) (o := 2) (by simp) (by have := R1.out.lt; omega)
    have c3 := b2.cell (k := w1.heap.size) (o := 3) (by simp) (by have := R1.out.lt; omega)
    simp [World.cell?_alloc_new] at c0 c1 c2 c3
    have R2 := Lib.hid r2
    have B2 := Lib.hid b2
    clear r2 b2
    obtain rfl | rfl | rfl | rfl : x = 0 ∨ x = 1 ∨ x = 2 ∨ x = 3 := by omega
    all_goals
      go_wp2
      go_ret
    · exact ⟨_, wf_small _ (by omega) (by omega), rfl, (B1.out.alloc _).trans B2.out, R2.out⟩
    · exact ⟨_, wf_small _ (by omega) (by omega), rfl, (B1.out.alloc _).trans B2.out, R2.out⟩
    · exact ⟨_, by decide, rfl, (B1.out.alloc _).trans B2.out, R2.out⟩
    · exact ⟨_, by decide, rfl, (B1.out.alloc _).trans B2.out, R2.out⟩
end Go.Proofs.Ytmnmijiikjpdnaa.draw
