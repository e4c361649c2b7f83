/-
  Plain helpers: contracts of the two functions that read a date. Conditions: none.
-/
import Derived.Test.YtlpeadkkkmpccabDoorDigs
import Derived.Test.YtlpeadkkkmpccabDoorPad
namespace Go.Proofs.YtlpeadkkkmpccabDoor.read
open Go.ChangeShapes Go.WideShapes Go.ChangeAt Go.RowKit

theorem impl_len (l : List UInt8) (w : World) (h : l.length ≠ 10) : Calls Tryd.prog 21 #[.string ⟨l.toArray⟩] w fun e w' => e = .returned (.tuple #[.int .i64 0, .bool false]) ∧ w = w' := by
  have t1 : decide ((l.length : Int) = 10) = false := by simp; omega
  go_enter Tryd.func21, Tryd.ntmps21
  go_wp2
  go_ret2
  exact ⟨rfl, rfl⟩
theorem spec_len (l : List UInt8) (w : World) (h : l.length ≠ 10) : Calls Tryd.prog 35 #[.string ⟨l.toArray⟩] w fun e w' => e = .returned (.tuple #[.int .i64 0, .bool false]) ∧ w = w' := by
  have t1 : decide ((l.length : Int) = 10) = false := by simp; omega
  go_enter Tryd.func35, Tryd.ntmps35
  go_wp2
  go_ret2
  exact ⟨rfl, rfl⟩

/-- The form of a date's text. -/
def form (b0 b1 b2 b3 b4 b5 b6 b7 b8 b9 : UInt8) : Prop := b4.toNat = 45 ∧ b7.toNat = 45 ∧ (∀ b ∈ [b0, b1, b2, b3], digs.isD b) ∧ (∀ b ∈ [b5, b6], digs.isD b) ∧ (∀ b ∈ [b8, b9], digs.isD b)

theorem impl_dash (b0 b1 b2 b3 b4 b5 b6 b7 b8 b9 : UInt8) (w : World) (h : ¬ (b4.toNat = 45 ∧ b7.toNat = 45)) : Calls Tryd.prog 21 #[.string ⟨#[b0, b1, b2, b3, b4, b5, b6, b7, b8, b9]⟩] w fun e w' => e = .returned (.tuple #[.int .i64 0, .bool false]) ∧ w = w' := by
  by_cases h4 : b4.toNat = 45
  · have t4 : (((⟨#[b0, b1, b2, b3, b4, b5, b6, b7, b8, b9]⟩ : ByteArray)[4]'(by show 4 < 10; omega)).toNat : Int) = 45 := by show (b4.toNat : Int) = 45; omega
    have t7 : ¬ (((⟨#[b0, b1, b2, b3, b4, b5, b6, b7, b8, b9]⟩ : ByteArray)[7]'(by show 7 < 10; omega)).toNat : Int) = 45 := by show ¬ (b7.toNat : Int) = 45; omega
    clear h
    go_enter Tryd.func21, Tryd.ntmps21
    go_wp2
    go_ret2
    exact ⟨rfl, rfl⟩
  · have t4 : ¬ (((⟨#[b0, b1, b2, b3, b4, b5, b6, b7, b8, b9]⟩ : ByteArray)[4]'(by show 4 < 10; omega)).toNat : Int) = 45 := by show ¬ (b4.toNat : Int) = 45; omega
    clear h
    go_enter Tryd.func21, Tryd.ntmps21
    go_wp2
    go_ret2
    exact ⟨rfl, rfl⟩

set_option maxHeartbeats 400000 in
theorem impl_ten (b0 b1 b2 b3 b4 b5 b6 b7 b8 b9 : UInt8) (w : World) (c : base.Mon w) (h4 : b4.toNat = 45) (h7 : b7.toNat = 45) : Calls Tryd.prog 21 #[.string ⟨#[b0, b1, b2, b3, b4, b5, b6, b7, b8, b9]⟩] w fun e w' => e = .returned (if digs.dok [b0, b1, b2, b3] = true ∧ digs.dok [b5, b6] = true ∧ digs.dok [b8, b9] = true then .tuple #[.int .i64 (dayOf.val (digs.dv [b0, b1, b2, b3]) (digs.dv [b5, b6]) (digs.dv [b8, b9])), .bool (dayOf.ok (digs.dv [b0, b1, b2, b3]) (digs.dv [b5, b6]) (digs.dv [b8, b9]))] else .tuple #[.int .i64 0, .bool false]) ∧ w = w' := by
  have C := Lib.hid c
  clear c
  have t4 : (((⟨#[b0, b1, b2, b3, b4, b5, b6, b7, b8, b9]⟩ : ByteArray)[4]'(by show 4 < 10; omega)).toNat : Int) = 45 := by show (b4.toNat : Int) = 45; omega
  have t7 : (((⟨#[b0, b1, b2, b3, b4, b5, b6, b7, b8, b9]⟩ : ByteArray)[7]'(by show 7 < 10; omega)).toNat : Int) = 45 := by show (b7.toNat : Int) = 45; omega
  have V0 := Lib.hid (digs.value [b0, b1, b2, b3] w (by simp) (by simp))
  have V1 := Lib.hid (digs.value [b5, b6] w (by simp) (by simp))
  have V2 := Lib.hid (digs.value [b8, b9] w (by simp) (by simp))
  generalize digs.dok [b0, b1, b2, b3] = q0 at V0 ⊢
  generalize digs.dok [b5, b6] = q1 at V1 ⊢
  generalize digs.dok [b8, b9] = q2 at V2 ⊢
  generalize digs.dv [b0, b1, b2, b3] = y at V0 ⊢
  generalize digs.dv [b5, b6] = m at V1 ⊢
  generalize digs.dv [b8, b9] = d at V2 ⊢
  by_cases hq : q0 = true ∧ q1 = true ∧ q2 = true
  · obtain ⟨rfl, rfl, rfl⟩ := hq
    rw [if_pos (by simp)]
    go_enter Tryd.func21, Tryd.ntmps21
    go_wp2_with fail
    refine V0.out.mono ?_
    rintro e w1 ⟨rfl, rfl⟩
    go_wp2_with fail
    refine V1.out.mono ?_
    rintro e w1 ⟨rfl, rfl⟩
    go_wp2_with fail
    refine V2.out.mono ?_
    rintro e w1 ⟨rfl, rfl⟩
    go_wp2_with fail
    refine (dayOf.impl y m d w C.out).mono ?_
    rintro e w1 ⟨rfl, rfl⟩
    go_wp2_with fail
    go_ret2
    exact ⟨rfl, rfl⟩
  · rw [if_neg hq]
    cases q0 with
    | false =>
      go_enter Tryd.func21, Tryd.ntmps21
      go_wp2_with fail
      refine V0.out.mono ?_
      rintro e w1 ⟨rfl, rfl⟩
      go_wp2_with fail
      refine V1.out.mono ?_
      rintro e w1 ⟨rfl, rfl⟩
      go_wp2_with fail
      refine V2.out.mono ?_
      rintro e w1 ⟨rfl, rfl⟩
      go_wp2_with fail
      go_ret2
      exact ⟨rfl, rfl⟩
    | true =>
      cases q1 with
      | false =>
        go_enter Tryd.func21, Tryd.ntmps21
        go_wp2_with fail
        refine V0.out.mono ?_
        rintro e w1 ⟨rfl, rfl⟩
        go_wp2_with fail
        refine V1.out.mono ?_
        rintro e w1 ⟨rfl, rfl⟩
        go_wp2_with fail
        refine V2.out.mono ?_
        rintro e w1 ⟨rfl, rfl⟩
        go_wp2_with fail
        go_ret2
        exact ⟨rfl, rfl⟩
      | true =>
        cases q2 with
        | false =>
          go_enter Tryd.func21, Tryd.ntmps21
          go_wp2_with fail
          refine V0.out.mono ?_
          rintro e w1 ⟨rfl, rfl⟩
          go_wp2_with fail
          refine V1.out.mono ?_
          rintro e w1 ⟨rfl, rfl⟩
          go_wp2_with fail
          refine V2.out.mono ?_
          rintro e w1 ⟨rfl, rfl⟩
          go_wp2_with fail
          go_ret2
          exact ⟨rfl, rfl⟩
        | true => exact absurd ⟨rfl, rfl, rfl⟩ hq
end Go.Proofs.YtlpeadkkkmpccabDoor.read
