/-
  Plain helpers: the text of a date, digit by digit. Conditions: none.
-/
import Derived.Test.YtlpeadkkkmpccabDoorRead
namespace Go.Proofs.YtlpeadkkkmpccabDoor.read
open Go.ChangeShapes Go.WideShapes Go.ChangeAt Go.RowKit

def ch (k : Nat) : UInt8 := UInt8.ofNat (48 + k)
theorem ch_toNat {k : Nat} (h : k < 10) : (ch k).toNat = 48 + k := by
  unfold ch
  rw [UInt8.toNat_ofNat']
  omega
theorem ch_isD {k : Nat} (h : k < 10) : digs.isD (ch k) := by
  have := ch_toNat h
  exact ⟨by omega, by omega⟩
theorem ch_of {b : UInt8} {k : Nat} (h : b.toNat = 48 + k) : ch k = b := by
  unfold ch
  rw [← h, UInt8.ofNat_toNat]

theorem pad2L {e0 e1 : Nat} (h0 : e0 < 10) (h1 : e1 < 10) : dec.padL (10 * e0 + e1) 2 = [ch e0, ch e1] := by
  unfold dec.padL
  by_cases h : e0 = 0
  · subst h
    rw [dec.dig_end _ (by omega)]
    simp [ch]
  · rw [dec.dig_step _ (by omega), dec.dig_end _ (by omega), show (10 * e0 + e1) / 10 = e0 by omega, show (10 * e0 + e1) % 10 = e1 by omega]
    rfl
theorem pad4L {e0 e1 e2 e3 : Nat} (h : 1 ≤ e0) (h0 : e0 < 10) (h1 : e1 < 10) (h2 : e2 < 10) (h3 : e3 < 10) : dec.padL (1000 * e0 + 100 * e1 + 10 * e2 + e3) 4 = [ch e0, ch e1, ch e2, ch e3] := by
  unfold dec.padL
  rw [dec.dig_step _ (by omega), show (1000 * e0 + 100 * e1 + 10 * e2 + e3) % 10 = e3 by omega, show (1000 * e0 + 100 * e1 + 10 * e2 + e3) / 10 = 100 * e0 + 10 * e1 + e2 by omega,
    dec.dig_step _ (by omega), show (100 * e0 + 10 * e1 + e2) % 10 = e2 by omega, show (100 * e0 + 10 * e1 + e2) / 10 = 10 * e0 + e1 by omega,
    dec.dig_step _ (by omega), show (10 * e0 + e1) % 10 = e1 by omega, show (10 * e0 + e1) / 10 = e0 by omega, dec.dig_end _ (by omega)]
  rfl

/-- The ten bytes of a date's text. -/
theorem dateL_form {X Y Z : Int} (h : dayOf.ok X Y Z = true) : ∃ f0 f1 f2 f3 g0 g1 k0 k1 : Nat, f0 < 10 ∧ f1 < 10 ∧ f2 < 10 ∧ f3 < 10 ∧ g0 < 10 ∧ g1 < 10 ∧ k0 < 10 ∧ k1 < 10 ∧
    dec.dateL X Y Z = [ch f0, ch f1, ch f2, ch f3, 45, ch g0, ch g1, 45, ch k0, ch k1] ∧ X = 1000 * f0 + 100 * f1 + 10 * f2 + f3 ∧ Y = 10 * g0 + g1 ∧ Z = 10 * k0 + k1 := by
  obtain ⟨h1, h2, h3, h4, h5, h6, _⟩ := of_decide_eq_true h
  have hm := cal.mlen_bd X Y
  refine ⟨X.toNat / 1000, X.toNat / 100 % 10, X.toNat / 10 % 10, X.toNat % 10, Y.toNat / 10, Y.toNat % 10, Z.toNat / 10, Z.toNat % 10, by omega, by omega, by omega, by omega, by omega, by omega, by omega, by omega, ?_, by omega, by omega, by omega⟩
  unfold dec.dateL
  have e1 : dec.padL X.toNat 4 = _ := (congrArg (dec.padL · 4) (show X.toNat = 1000 * (X.toNat / 1000) + 100 * (X.toNat / 100 % 10) + 10 * (X.toNat / 10 % 10) + X.toNat % 10 by omega)).trans (pad4L (by omega) (by omega) (by omega) (by omega) (by omega))
  have e2 : dec.padL Y.toNat 2 = _ := (congrArg (dec.padL · 2) (show Y.toNat = 10 * (Y.toNat / 10) + Y.toNat % 10 by omega)).trans (pad2L (by omega) (by omega))
  have e3 : dec.padL Z.toNat 2 = _ := (congrArg (dec.padL · 2) (show Z.toNat = 10 * (Z.toNat / 10) + Z.toNat % 10 by omega)).trans (pad2L (by omega) (by omega))
  rw [e1, e2, e3]
  rfl

theorem form_of {X Y Z : Int} {b0 b1 b2 b3 b4 b5 b6 b7 b8 b9 : UInt8} (h : dayOf.ok X Y Z = true) (he : dec.dateL X Y Z = [b0, b1, b2, b3, b4, b5, b6, b7, b8, b9]) : form b0 b1 b2 b3 b4 b5 b6 b7 b8 b9 := by
  obtain ⟨f0, f1, f2, f3, g0, g1, k0, k1, a0, a1, a2, a3, c0, c1, d0, d1, e, _⟩ := dateL_form h
  rw [e] at he
  simp only [List.cons.injEq, and_true] at he
  obtain ⟨rfl, rfl, rfl, rfl, rfl, rfl, rfl, rfl, rfl, rfl⟩ := he
  refine ⟨rfl, rfl, ?_, ?_, ?_⟩ <;> intro b hb <;> simp only [List.mem_cons, List.not_mem_nil, or_false] at hb
  · rcases hb with rfl | rfl | rfl | rfl <;> exact ch_isD (by assumption)
  · rcases hb with rfl | rfl <;> exact ch_isD (by assumption)
  · rcases hb with rfl | rfl <;> exact ch_isD (by assumption)

theorem isD_val {b : UInt8} (h : digs.isD b) : ∃ e : Nat, e < 10 ∧ b.toNat = 48 + e := ⟨b.toNat - 48, by have := h.2; omega, by have := h.1; omega⟩

/-- A text of the form is the text of what it names. -/
theorem text_of {b0 b1 b2 b3 b4 b5 b6 b7 b8 b9 : UInt8} (h : form b0 b1 b2 b3 b4 b5 b6 b7 b8 b9) (ho : dayOf.ok (digs.dv [b0, b1, b2, b3]) (digs.dv [b5, b6]) (digs.dv [b8, b9]) = true) :
    dec.dateL (digs.dv [b0, b1, b2, b3]) (digs.dv [b5, b6]) (digs.dv [b8, b9]) = [b0, b1, b2, b3, b4, b5, b6, b7, b8, b9] := by
  obtain ⟨h4, h7, h1, h2, h3⟩ := h
  obtain ⟨o1, o2, o3, o4, o5, o6, _⟩ := of_decide_eq_true ho
  obtain ⟨e0, q0, r0⟩ := isD_val (h1 b0 (by simp))
  obtain ⟨e1, q1, r1⟩ := isD_val (h1 b1 (by simp))
  obtain ⟨e2, q2, r2⟩ := isD_val (h1 b2 (by simp))
  obtain ⟨e3, q3, r3⟩ := isD_val (h1 b3 (by simp))
  obtain ⟨e5, q5, r5⟩ := isD_val (h2 b5 (by simp))
  obtain ⟨e6, q6, r6⟩ := isD_val (h2 b6 (by simp))
  obtain ⟨e8, q8, r8⟩ := isD_val (h3 b8 (by simp))
  obtain ⟨e9, q9, r9⟩ := isD_val (h3 b9 (by simp))
  have x : digs.dv [b0, b1, b2, b3] = ((1000 * e0 + 100 * e1 + 10 * e2 + e3 : Nat) : Int) := by
    unfold digs.dv; rw [if_pos h1]; congr 1; simp [digs.num]; omega
  have y : digs.dv [b5, b6] = ((10 * e5 + e6 : Nat) : Int) := by
    unfold digs.dv; rw [if_pos h2]; congr 1; simp [digs.num]; omega
  have z : digs.dv [b8, b9] = ((10 * e8 + e9 : Nat) : Int) := by
    unfold digs.dv; rw [if_pos h3]; congr 1; simp [digs.num]; omega
  rw [x] at o1
  unfold dec.dateL
  rw [x, y, z, Int.toNat_natCast, Int.toNat_natCast, Int.toNat_natCast, pad4L (by omega) q0 q1 q2 q3, pad2L q5 q6, pad2L q8 q9, ch_of r0, ch_of r1, ch_of r2, ch_of r3, ch_of r5, ch_of r6, ch_of r8, ch_of r9,
    show b4 = 45 from UInt8.toNat_inj.1 h4, show b7 = 45 from UInt8.toNat_inj.1 h7]
  rfl

/-- The landed function reads the text of a day as that day. -/
theorem impl_text {n X Y Z : Int} (h : cal.isDate n X Y Z) (w : World) (c : base.Mon w) : Calls Tryd.prog 21 #[.string ⟨(dec.dateL X Y Z).toArray⟩] w fun e w' => e = .returned (.tuple #[.int .i64 n, .bool true]) ∧ w = w' := by
  have ho : dayOf.ok X Y Z = true := decide_eq_true h.1
  obtain ⟨f0, f1, f2, f3, g0, g1, k0, k1, a0, a1, a2, a3, c0, c1, d0, d1, e, ex, ey, ez⟩ := dateL_form ho
  obtain ⟨h4, h7, h1, h2, h3⟩ := form_of ho e
  rw [e]
  refine (impl_ten (ch f0) (ch f1) (ch f2) (ch f3) 45 (ch g0) (ch g1) 45 (ch k0) (ch k1) w c h4 h7).mono fun e w' q => ⟨?_, q.2⟩
  have x : digs.dv [ch f0, ch f1, ch f2, ch f3] = X := by
    unfold digs.dv; rw [if_pos h1, ex]; simp only [digs.num, List.foldl_cons, List.foldl_nil, ch_toNat a0, ch_toNat a1, ch_toNat a2, ch_toNat a3]; omega
  have y : digs.dv [ch g0, ch g1] = Y := by
    unfold digs.dv; rw [if_pos h2, ey]; simp only [digs.num, List.foldl_cons, List.foldl_nil, ch_toNat c0, ch_toNat c1]; omega
  have z : digs.dv [ch k0, ch k1] = Z := by
    unfold digs.dv; rw [if_pos h3, ez]; simp only [digs.num, List.foldl_cons, List.foldl_nil, ch_toNat d0, ch_toNat d1]; omega
  rw [q.1, if_pos ⟨decide_eq_true h1, decide_eq_true h2, decide_eq_true h3⟩, x, y, z, ho]
  rw [show dayOf.val X Y Z = cal.dayN X Y Z from if_pos h.1, h.2]
end Go.Proofs.YtlpeadkkkmpccabDoor.read
