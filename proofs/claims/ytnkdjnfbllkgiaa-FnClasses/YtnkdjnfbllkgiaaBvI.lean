/-
  Plain helpers of this seat's proofs: the contract of the landed function that tells whether a batch is valid. Conditions: none.
-/
import Derived.Test.YtnkdjnfbllkgiaaPst
namespace Go.Proofs.Ytnkdjnfbllkgiaa.base
open Go.ChangeShapes Go.WideShapes Go.ChangeAt Go.RowKit
open led (F5 z5 nn)
open five (Row At)
noncomputable def bv (l : List F5) : Bool := @decide (led.BV l) (Classical.propDecidable _)
theorem bv_iff {l : List F5} : bv l = true ↔ led.BV l := by unfold bv; simp
theorem bv_not {l : List F5} : bv l = false ↔ ¬ led.BV l := by unfold bv; simp
/-- The first k posts of a batch are valid. -/
def Bk (l : List F5) (k : Nat) : Prop := ∀ i, i < k → led.plok (l.getD i z5) = true ∧ led.inR (nn (l.getD i z5)) (-1000000000000) 1000000000000 = true
set_option maxRecDepth 40000 in
set_option maxHeartbeats 4000000 in
theorem bvI (w : World) (a : Option Addr) (cap g : Nat) (l : List F5) (r : Row w a cap g l) (hn : l.length ≤ 1048577) : Calls Try.prog 54 #[.slice a l.length cap] w (fun e w' => e = .returned (.bool (bv l)) ∧ Below w.heap.size w w') := by
  have R := Lib.hid r
  have e1 := r.addr
  have m1 := r.room
  clear r
  obtain ⟨n, hnz⟩ : ∃ n, n = l.length := ⟨_, rfl⟩
  rw [← hnz] at hn e1 m1 ⊢
  have HNZ := Lib.hid hnz
  clear hnz
  by_cases h20 : 20 < n
  · have t1 : decide ((20 : Int) < (n : Int)) = true := by simp; omega
    have E := Lib.hid (show bv l = false from bv_not.2 fun h => by have := h.1; rw [← HNZ.out] at this; omega)
    clear e1
    go_enter Try.func54, Try.ntmps54
    go_wp2
    go_ret
    exact ⟨by rw [E.out]; rfl, Below.refl _ _⟩
  · have t1 : decide ((20 : Int) < (n : Int)) = false := by simp; omega
    go_enter Try.func54, Try.ntmps54
    go_wp2
    go_loopw [10] (fun iv wr => Hid (Below w.heap.size w wr) ∧ ∃ k : Nat, k ≤ n ∧ iv = .int .i64 k ∧ Hid (Bk l k)) (fun iv _ => n - (intOf iv).toNat)
    case atStart => exact ⟨Lib.hid (Below.refl _ _), 0, by omega, rfl, Lib.hid fun i hi => absurd hi (by omega)⟩
    case round =>
      obtain ⟨BB, k, hk, rfl, OK⟩ := hrel
      by_cases hlt : k < n
      · have HLT := Lib.hid (show k < l.length from by rw [← HNZ.out]; exact hlt)
        obtain rfl := e1 (by omega)
        have gl := R.out.lt (by rw [← HNZ.out]; omega)
        have q1 := (R.out.cells k HLT.out).keep (BB.out.block g gl)
        obtain ⟨x, hx⟩ : ∃ x, x = l.getD k z5 := ⟨_, rfl⟩
        rw [← hx] at q1
        have HX := Lib.hid hx
        clear hx gl e1
        obtain ⟨x1, x2, x3, x4, x5⟩ := q1
        have z1 : (k : Int) < (n : Int) := by omega
        have u1 : decide (k < n) = true := by simp; omega
        obtain ⟨W1, hW1⟩ : ∃ W1, W1 = wr.alloc (.cells #[.int .i64 x.1, .int .i64 x.2.1, .int .i64 x.2.2.1, .int .i64 x.2.2.2.1, .int .i64 x.2.2.2.2] 52) := ⟨_, rfl⟩
        have A1 := Lib.hid (show At W1 wr.heap.size 0 x from by rw [hW1]; exact five.At.boxed wr x _)
        have B1 := Lib.hid (show Below w.heap.size w W1 from by rw [hW1]; exact BB.out.alloc BB.out.size _)
        have CP := Lib.hid (placeI x W1)
        cases hp : led.plok x with
        | false =>
          have E := Lib.hid (show bv l = false from bv_not.2 fun h => by have := (h.2 k HLT.out).1; rw [← HX.out, hp] at this; cases this)
          rw [hp] at CP
          clear hp
          go_wp2_with fail
          rw [← hW1]
          clear hW1
          refine CP.out.mono ?_
          rintro e w2 ⟨rfl, b2⟩
          have B2 := Lib.hid (five.Grew.step B1.out (Nat.le_refl _) b2)
          clear b2
          go_wp2
          go_ret
          exact ⟨by rw [E.out]; rfl, B2.out⟩
        | true =>
          have HP := Lib.hid hp
          rw [hp] at CP
          clear hp
          go_wp2_with fail
          rw [← hW1]
          clear hW1
          refine CP.out.mono ?_
          rintro e w2 ⟨rfl, b2⟩
          have B2 := Lib.hid (five.Grew.step B1.out (Nat.le_refl _) b2)
          obtain ⟨y1, y2, y3, y4, y5⟩ := A1.out.keep (w' := w2) (b2.below.block _ A1.out.lt)
          simp only [Nat.zero_add] at y1 y2 y3 y4 y5
          clear b2 x1 x2 x3 x4 x5
          have CA := fun W => amtI x.2.2.2.2 W
          cases ha : led.inR x.2.2.2.2 (-1000000000000) 1000000000000 with
          | false =>
            have E := Lib.hid (show bv l = false from bv_not.2 fun h => by have := (h.2 k HLT.out).2; rw [← HX.out] at this; unfold nn at this; rw [ha] at this; cases this)
            rw [ha] at CA
            clear ha
            go_wp2_with fail
            refine (CA _).mono ?_
            rintro e w3 ⟨rfl, rfl⟩
            clear CA
            go_wp2
            go_ret
            exact ⟨by rw [E.out]; rfl, B2.out⟩
          | true =>
            have OK1 := Lib.hid (show Bk l (k + 1) from fun i hi => by
              rcases Nat.lt_succ_iff_lt_or_eq.1 hi with h | rfl
              · exact OK.out i h
              · rw [← HX.out]; exact ⟨HP.out, ha⟩)
            rw [ha] at CA
            clear ha
            go_wp2_with fail
            refine (CA _).mono ?_
            rintro e w3 ⟨rfl, rfl⟩
            clear CA
            go_wp2
            go_roundw
            case rel => exact ⟨B2, k + 1, by omega, by go_num, OK1⟩
            case measure => simp [intOf]; omega
      · obtain rfl : k = n := by omega
        have u1 : decide (k < k) = false := by simp
        have E := Lib.hid (show bv l = true from bv_iff.2 ⟨by rw [← HNZ.out]; omega, fun i hi => OK.out i (by rw [HNZ.out]; exact hi)⟩)
        clear e1
        go_wp2
        go_ret
        exact ⟨by rw [E.out]; rfl, BB.out⟩
end Go.Proofs.Ytnkdjnfbllkgiaa.base
