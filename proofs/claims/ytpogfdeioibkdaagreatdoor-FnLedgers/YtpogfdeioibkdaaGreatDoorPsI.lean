/-
  Plain helpers of this seat's proofs: what posting answers. Conditions: none.
-/
import Derived.Test.YtpogfdeioibkdaaGreatDoorMp
import Derived.Test.YtpogfdeioibkdaaGreatDoorLgS
import Derived.Test.YtpogfdeioibkdaaGreatDoorLed2
import Derived.Test.YtpogfdeioibkdaaGreatDoorBvI
namespace Go.Proofs.YtpogfdeioibkdaaGreatDoor.mp
open Go.ChangeShapes Go.WideShapes Go.ChangeAt Go.RowKit
open led (F5 z5 nn wn same at4 addE Apart addK addAll Pst puts)
open five (Row At)
theorem pst_ex (l b : List F5) : ∃ p : List F5 × Int, Pst l b p.1 p.2 := by
  by_cases q1 : led.LV l
  · by_cases q2 : led.BV b
    · by_cases q3 : led.ZV b
      · by_cases q4 : led.LV (puts l b)
        · exact ⟨(_, _), led.mk0 q1 q2 q3 q4⟩
        · exact ⟨(_, _), led.mk4 q1 q2 q3 q4⟩
      · exact ⟨(_, _), led.mk3 q1 q2 q3⟩
    · exact ⟨(_, _), led.mk2 q1 q2⟩
  · exact ⟨(_, _), led.mk1 q1⟩
/-- What posting answers: the list and the code. -/
noncomputable def pr (l b : List F5) : List F5 := (Classical.choose (pst_ex l b)).1
noncomputable def pc (l b : List F5) : Int := (Classical.choose (pst_ex l b)).2
theorem pst (l b : List F5) : Pst l b (pr l b) (pc l b) := Classical.choose_spec (pst_ex l b)
theorem pst_is {l b r : List F5} {c : Int} (h : Pst l b r c) : pr l b = r ∧ pc l b = c := (pst l b).uniq h
/-- The list and the code, the list in memory of its own. -/
def Psd (w : World) (l b : List F5) (e : Ending) (w' : World) : Prop := ∃ a cap g, e = .returned (.tuple #[.slice a (pr l b).length cap, .int .i64 (pc l b)]) ∧ Row w' a cap g (pr l b) ∧ (0 < (pr l b).length → w.heap.size ≤ g ∧ g < w'.heap.size) ∧ Below w.heap.size w w'
theorem psd_no {w w' : World} {l b : List F5} {c : Int} (h : Pst l b [] c) (hb : Below w.heap.size w w') : Psd w l b (.returned (.tuple #[.slice none 0 0, .int .i64 c])) w' := by
  obtain ⟨h1, h2⟩ := pst_is h
  exact ⟨none, 0, 0, by rw [h1, h2]; rfl, by rw [h1]; exact Row.nil w', fun hp => absurd hp (by rw [h1]; simp), hb⟩
theorem psd_yes {w w' : World} {l b r : List F5} {cap g : Nat} (h : Pst l b r 0) (R : Row w' (some ⟨g, 0, none⟩) cap g r) (h1 : w.heap.size ≤ g) (h2 : g < w'.heap.size) (hb : Below w.heap.size w w') : Psd w l b (.returned (.tuple #[.slice (some ⟨g, 0, none⟩) r.length cap, .int .i64 0])) w' := by
  obtain ⟨e1, e2⟩ := pst_is h
  exact ⟨_, cap, g, by rw [e1, e2], by rw [e1]; exact R, fun _ => ⟨h1, h2⟩, hb⟩
theorem zv_of {b : List F5} (h : ∀ j : Nat, j < 6 → led.csk b j b.length = 0) : led.ZV b := fun c h0 h6 => by
  have := h c.toNat (by omega)
  rw [led.csk_csum, show ((c.toNat : Nat) : Int) = c by omega] at this
  exact this
theorem zv_not {b : List F5} {j : Nat} (hj : j < 6) (h : led.csk b j b.length ≠ 0) : ¬ led.ZV b := fun q => h (by rw [led.csk_csum]; exact q j (by omega) (by omega))
end Go.Proofs.YtpogfdeioibkdaaGreatDoor.mp
