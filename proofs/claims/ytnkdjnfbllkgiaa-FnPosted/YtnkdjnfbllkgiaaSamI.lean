/-
  Plain helpers of this seat's proofs: the contract of the law's own comparison of two slices of numbers. Conditions: none.
-/
import Derived.Test.YtnkdjnfbllkgiaaTrI
import Derived.WalkSmall
namespace Go.Proofs.Ytnkdjnfbllkgiaa.five
open Go.ChangeShapes Go.WideShapes Go.ChangeAt Go.RowKit
set_option maxRecDepth 20000 in
set_option maxHeartbeats 1000000 in
/-- Two slices of the same numbers: the answer is yes. -/
theorem samI (w : World) (a1 a2 : Option Addr) (c1 c2 g1 g2 : Nat) (l : List Int) (r1 : rows.Row w a1 c1 g1 l) (r2 : rows.Row w a2 c2 g2 l) (hn : l.length ≤ 1048576) :
    Calls Try.prog 37 #[.slice a1 l.length c1, .slice a2 l.length c2] w fun e w' => e = .returned (.bool true) ∧ Below w.heap.size w w' := by
  have R1 := Lib.hid r1
  have R2 := Lib.hid r2
  have e1 := r1.addr
  have e2 := r2.addr
  have m1 := r1.room
  have m2 := r2.room
  clear r1 r2
  obtain ⟨n, hnz⟩ : ∃ n, n = l.length := ⟨_, rfl⟩
  rw [← hnz] at hn e1 e2 m1 m2 ⊢
  have HNZ := Lib.hid hnz
  clear hnz
  rcases Nat.eq_zero_or_pos n with rfl | hp
  · clear e1 e2
    go_enter Try.func37, Try.ntmps37
    go_wp2
    go_loop [5] (fun i => i = .int .i64 0) (fun _ => 0)
    case atStart => exact rfl
    case round =>
      obtain rfl := hrel
      go_wp2
      go_ret
      exact ⟨rfl, Below.refl _ _⟩
  · obtain rfl := e1 hp
    obtain rfl := e2 hp
    clear e1 e2
    have ce : ∀ {a b : World} {p : Addr}, Below w.heap.size w a → p.block < w.heap.size → a.cell? p = w.cell? p := fun h hp => h.cell hp
    have lt : ∀ {g : Nat} {v : Value}, w.cell? ⟨g, 0, none⟩ = some v → g < w.heap.size := fun {g v} h0 => by
      unfold World.cell? at h0
      cases hh : w.heap[g]? with
      | none => simp [hh] at h0
      | some o => exact (Array.getElem?_eq_some_iff.1 hh).1
    have G1 := Lib.hid (lt (R1.out.cells 0 (by rw [← HNZ.out]; exact hp)))
    have G2 := Lib.hid (lt (R2.out.cells 0 (by rw [← HNZ.out]; exact hp)))
    clear ce lt
    go_enter Try.func37, Try.ntmps37
    go_wp2
    go_loopw [5] (fun i wr => Hid (Below w.heap.size w wr) ∧ ∃ k : Nat, k ≤ n ∧ i = .int .i64 k) (fun i _ => n - (intOf i).toNat)
    case atStart => exact ⟨Lib.hid (Below.refl _ _), 0, by omega, rfl⟩
    case round =>
      obtain ⟨BB, k, hk, rfl⟩ := hrel
      by_cases hlt : k < n
      · have x1 := (BB.out.cell (p := ⟨g1, k, none⟩) G1.out).trans (R1.out.cells k (by rw [← HNZ.out]; exact hlt))
        have x2 := (BB.out.cell (p := ⟨g2, k, none⟩) G2.out).trans (R2.out.cells k (by rw [← HNZ.out]; exact hlt))
        obtain ⟨x, hx⟩ : ∃ x, x = l.getD k 0 := ⟨_, rfl⟩
        rw [← hx] at x1 x2
        clear hx
        have t1 : (x != x) = false := by simp
        have z1 : (k : Int) < (n : Int) := by omega
        have u1 : decide (k < n) = true := by simp; omega
        go_wp2_with fail
        go_quiet (fail)
        go_wp2
        go_roundw
        case rel => exact ⟨Lib.hid (below_drewN BB.out _), k + 1, by omega, by go_num⟩
        case measure => simp [intOf]; omega
      · have u1 : decide (k < n) = false := by simp; omega
        go_wp2
        go_ret
        exact ⟨rfl, BB.out⟩
end Go.Proofs.Ytnkdjnfbllkgiaa.five
