/-
  Plain helpers: the two functions that read a date answer alike. Conditions: none.
-/
import Derived.Test.YtlpeadkkkmpccabDoorRead2
import Derived.Test.YtlpeadkkkmpccabDoorReadMath
namespace Go.Proofs.YtlpeadkkkmpccabDoor.read
open Go.ChangeShapes Go.WideShapes Go.ChangeAt Go.RowKit

theorem st_form {b0 b1 b2 b3 b4 b5 b6 b7 b8 b9 : UInt8} (h : form b0 b1 b2 b3 b4 b5 b6 b7 b8 b9) : st b0 b1 b2 b3 b4 b5 b6 b7 b8 b9 10 = (digs.dv [b0, b1, b2, b3], digs.dv [b5, b6], digs.dv [b8, b9]) := by
  obtain ⟨h4, h7, h1, h2, h3⟩ := h
  have n4 : ¬ digs.isD b4 := fun h => by have := h.1; omega
  have n7 : ¬ digs.isD b7 := fun h => by have := h.1; omega
  have d0 := h1 b0 (by simp)
  have d1 := h1 b1 (by simp)
  have d2 := h1 b2 (by simp)
  have d3 := h1 b3 (by simp)
  have d5 := h2 b5 (by simp)
  have d6 := h2 b6 (by simp)
  have d8 := h3 b8 (by simp)
  have d9 := h3 b9 (by simp)
  have a0 := d0.1
  have a1 := d1.1
  have a2 := d2.1
  have a3 := d3.1
  have a5 := d5.1
  have a6 := d6.1
  have a8 := d8.1
  have a9 := d9.1
  show (dig b4 (dig b3 (dig b2 (dig b1 (dig b0 (0))))), dig b7 (dig b6 (dig b5 (0))), dig b9 (dig b8 (0))) = _
  rw [dig_no _ n4, dig_no _ n7, dig_yes _ d0, dig_yes _ d1, dig_yes _ d2, dig_yes _ d3, dig_yes _ d5, dig_yes _ d6, dig_yes _ d8, dig_yes _ d9]
  unfold digs.dv
  rw [if_pos h1, if_pos h2, if_pos h3]
  simp only [digs.num, List.foldl_cons, List.foldl_nil, Prod.mk.injEq]
  exact ⟨by omega, by omega, by omega⟩

/-- One answer, of the model's function and of the landed one. -/
def Same (l : List UInt8) (v : Int) (q : Bool) : Prop :=
  (∀ w, base.Mon w → Calls Tryd.prog 35 #[.string ⟨l.toArray⟩] w fun e w' => e = .returned (.tuple #[.int .i64 v, .bool q]) ∧ Below w.heap.size w w') ∧
  (∀ w, base.Mon w → Calls Tryd.prog 21 #[.string ⟨l.toArray⟩] w fun e w' => e = .returned (.tuple #[.int .i64 v, .bool q]) ∧ w = w')

theorem same (l : List UInt8) : ∃ v q, Same l v q := by
  by_cases hl : l.length = 10
  · obtain ⟨b0, b1, b2, b3, b4, b5, b6, b7, b8, b9, rfl⟩ : ∃ b0 b1 b2 b3 b4 b5 b6 b7 b8 b9, l = [b0, b1, b2, b3, b4, b5, b6, b7, b8, b9] := by
      match l, hl with
      | [b0, b1, b2, b3, b4, b5, b6, b7, b8, b9], _ => exact ⟨b0, b1, b2, b3, b4, b5, b6, b7, b8, b9, rfl⟩
    by_cases hf : form b0 b1 b2 b3 b4 b5 b6 b7 b8 b9
    · refine ⟨dayOf.val (digs.dv [b0, b1, b2, b3]) (digs.dv [b5, b6]) (digs.dv [b8, b9]), dayOf.ok (digs.dv [b0, b1, b2, b3]) (digs.dv [b5, b6]) (digs.dv [b8, b9]), fun w c => ?_, fun w c => ?_⟩
      · refine (spec_ten b0 b1 b2 b3 b4 b5 b6 b7 b8 b9 _ _ _ w c (st_form hf)).mono fun e w' h => ⟨?_, h.2⟩
        rw [h.1]
        cases ho : dayOf.ok (digs.dv [b0, b1, b2, b3]) (digs.dv [b5, b6]) (digs.dv [b8, b9]) with
        | true => unfold ans; rw [if_pos ⟨ho, text_of hf ho⟩]
        | false =>
          have hv : dayOf.val (digs.dv [b0, b1, b2, b3]) (digs.dv [b5, b6]) (digs.dv [b8, b9]) = 0 := (dayOf.no_of (of_decide_eq_false ho)).1
          unfold ans; rw [if_neg (by simp [ho]), hv]
      · refine (impl_ten b0 b1 b2 b3 b4 b5 b6 b7 b8 b9 w c hf.1 hf.2.1).mono fun e w' h => ⟨?_, h.2⟩
        rw [h.1, if_pos ⟨decide_eq_true hf.2.2.1, decide_eq_true hf.2.2.2.1, decide_eq_true hf.2.2.2.2⟩]
    · refine ⟨0, false, fun w c => ?_, fun w c => ?_⟩
      · refine (spec_ten b0 b1 b2 b3 b4 b5 b6 b7 b8 b9 _ _ _ w c rfl).mono fun e w' h => ⟨?_, h.2⟩
        rw [h.1]; unfold ans; rw [if_neg (fun h => hf (form_of h.1 h.2))]
      · by_cases hd : b4.toNat = 45 ∧ b7.toNat = 45
        · refine (impl_ten b0 b1 b2 b3 b4 b5 b6 b7 b8 b9 w c hd.1 hd.2).mono fun e w' h => ⟨?_, h.2⟩
          rw [h.1, if_neg (fun h => hf ⟨hd.1, hd.2, of_decide_eq_true h.1, of_decide_eq_true h.2.1, of_decide_eq_true h.2.2⟩)]
        · exact impl_dash b0 b1 b2 b3 b4 b5 b6 b7 b8 b9 w hd
  · exact ⟨0, false, fun w _ => (spec_len l w hl).mono fun e w' h => ⟨h.1, h.2 ▸ Below.refl _ _⟩, fun w _ => impl_len l w hl⟩
end Go.Proofs.YtlpeadkkkmpccabDoor.read
