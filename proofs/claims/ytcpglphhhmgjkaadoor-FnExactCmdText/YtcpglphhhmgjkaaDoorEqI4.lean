/-
  Plain helpers of this seat's proofs: contracts of the functions that compare Items. Conditions: none.
-/
import Derived.Test.YtcpglphhhmgjkaaDoorFou
import Derived.StillTailTactics
namespace Go.Proofs.YtcpglphhhmgjkaaDoor.four
open Go.ChangeShapes Go.WideShapes Go.ChangeAt Go.RowKit
open gen
set_option maxHeartbeats 1000000 in
theorem eqElT (x : F4) (w : World) : Calls Tryd.prog 65 #[.agg #[.int .i64 x.1, .int .i64 x.2.1, .int .i64 x.2.2.1, .int .i64 x.2.2.2], .agg #[.int .i64 x.1, .int .i64 x.2.1, .int .i64 x.2.2.1, .int .i64 x.2.2.2]] w fun e w' => e = .returned (.bool true) ∧ Below w.heap.size w w' := by
  obtain ⟨a, b, c, d⟩ := x
  dsimp only
  go_enter Tryd.func65, Tryd.ntmps65
  go_wp2
  go_ret
  exact ⟨rfl, bAl (bAl (Below.refl _ _) (Nat.le_refl _) _) (Nat.le_refl _) _⟩
set_option maxRecDepth 20000 in
set_option maxHeartbeats 1000000 in
/-- Two slices of the same Items: the answer is yes. -/
theorem eqT (w : World) (a1 a2 : Option Addr) (c1 c2 g1 g2 : Nat) (l : List F4) (r1 : Row w a1 c1 g1 l) (r2 : Row w a2 c2 g2 l) (hn : l.length ≤ 1048576) :
    Calls Tryd.prog 33 #[.slice a1 l.length c1, .slice a2 l.length c2] w fun e w' => e = .returned (.bool true) ∧ Below w.heap.size w w' := by
  have R1 := Lib.hid r1
  have R2 := Lib.hid r2
  have e1 := r1.addr
  have e2 := r2.addr
  have m1 := r1.room
  have m2 := r2.room
  clear r1 r2
  obtain ⟨n, hnz⟩ : ∃ n, n = l.length := ⟨_, rfl⟩
  rw [← hnz] at hn e1 e2 m1 m2 ⊢
  have HNZ := Lib.hid hnz
  clear hnz
  rcases Nat.eq_zero_or_pos n with rfl | hp
  · clear e1 e2
    go_enter Tryd.func33, Tryd.ntmps33
    go_wp2
    go_loop [5] (fun i => i = .int .i64 0) (fun _ => 0)
    case atStart => exact rfl
    case round =>
      obtain rfl := hrel
      go_wp2
      go_ret
      exact ⟨rfl, Below.refl _ _⟩
  · obtain rfl := e1 hp
    obtain rfl := e2 hp
    clear e1 e2
    go_enter Tryd.func33, Tryd.ntmps33
    go_wp2
    go_loopw [5] (fun i wr => Below w.heap.size w wr ∧ ∃ k : Nat, k ≤ n ∧ i = .int .i64 k) (fun i _ => n - (intOf i).toNat)
    case atStart => exact ⟨Below.refl _ _, 0, by omega, rfl⟩
    case round =>
      obtain ⟨hB, k, hk, rfl⟩ := hrel
      have BB := Lib.hid hB
      by_cases hlt : k < n
      · have q1 := (R1.out.cells k (by rw [← HNZ.out]; exact hlt)).keep (hB.block g1 (R1.out.lt (by rw [← HNZ.out]; exact hp)))
        have q2 := (R2.out.cells k (by rw [← HNZ.out]; exact hlt)).keep (hB.block g2 (R2.out.lt (by rw [← HNZ.out]; exact hp)))
        clear hB
        obtain ⟨x, hx⟩ : ∃ x, x = l.getD k zz := ⟨_, rfl⟩
        rw [← hx] at q1 q2
        clear hx
        obtain ⟨x1, x2, x3, x4⟩ := q1
        obtain ⟨y1, y2, y3, y4⟩ := q2
        have z1 : (k : Int) < (n : Int) := by omega
        have u1 : decide (k < n) = true := by simp; omega
        go_wp2
        go_still_tail 8, (by kernel_rfl)
        change wpList _ _ _ _ _ wr.drew
        have B1 := Lib.hid BB.out.drew
        generalize wr.drew = w1 at B1 ⊢
        go_wp2_with fail
        refine (eqElT x w1).mono ?_
        rintro e w2 ⟨rfl, b2⟩
        have B2 := Lib.hid (B1.out.trans (b2.mono B1.out.size))
        clear b2 x1 x2 x3 x4 y1 y2 y3 y4
        go_wp2
        go_roundw
        case rel => exact ⟨B2.out, k + 1, by omega, by go_num⟩
        case measure => simp [intOf]; omega
      · have u1 : decide (k < n) = false := by simp; omega
        clear hB
        go_wp2
        go_ret
        exact ⟨rfl, BB.out⟩
end Go.Proofs.YtcpglphhhmgjkaaDoor.four
