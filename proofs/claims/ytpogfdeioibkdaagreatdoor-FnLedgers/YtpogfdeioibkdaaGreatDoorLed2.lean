/-
  Plain mathematics: the sums of the currencies of a ledger. Conditions: none.
-/
import Derived.Test.YtpogfdeioibkdaaGreatDoorLed
namespace Go.Proofs.YtpogfdeioibkdaaGreatDoor.led
/-- The sum of a currency over the first k posts. -/
def csk (l : List F5) (c : Nat) : Nat → Int
  | 0 => 0
  | k + 1 => csk l c k + (if (l.getD k z5).2.2.2.1 = (c : Int) then nn (l.getD k z5) else 0)
theorem csk_bound {l : List F5} {B : Int} (hB : 0 ≤ B) (h : ∀ i, i < l.length → -B ≤ nn (l.getD i z5) ∧ nn (l.getD i z5) ≤ B) (c : Nat) : ∀ k, k ≤ l.length → -(B * (k : Int)) ≤ csk l c k ∧ csk l c k ≤ B * (k : Int)
  | 0, _ => by simp [csk]
  | k + 1, hk => by
    have h1 := csk_bound hB h c k (by omega)
    have h2 := h k (by omega)
    rw [csk, Int.natCast_add, Int.mul_add]
    generalize B * (k : Int) = t at *
    split <;> omega
/-- What the sums are added from: valid currencies, and numbers that do not add up to too much. -/
structure Sane (l : List F5) : Prop where
  cur : ∀ i, i < l.length → 0 ≤ (l.getD i z5).2.2.2.1 ∧ (l.getD i z5).2.2.2.1 ≤ 5
  num : ∀ i, i < l.length → -1000000000000000 ≤ nn (l.getD i z5) ∧ nn (l.getD i z5) ≤ 1000000000000000
  len : l.length ≤ 400
theorem LV.sane {l : List F5} (h : LV l) : Sane l := ⟨fun i hi => (plok_in (h.2 i hi).pl).d, fun i hi => inR_iff.1 (h.2 i hi).far, h.1⟩
theorem BV.sane {l : List F5} (h : BV l) : Sane l := ⟨fun i hi => (plok_in (h.2 i hi).1).d, fun i hi => by have := inR_iff.1 (h.2 i hi).2; omega, by have := h.1; omega⟩
theorem Sane.small {l : List F5} (h : Sane l) (c : Nat) {k : Nat} (hk : k ≤ l.length) : -400000000000000000 ≤ csk l c k ∧ csk l c k ≤ 400000000000000000 := by
  have h1 := csk_bound (B := 1000000000000000) (by omega) h.num c k hk
  have := h.len
  omega
theorem csk_csum (l : List F5) (c : Nat) : csk l c l.length = csum l c := by
  have key : ∀ (k : Nat), k ≤ l.length → csk l c k = csum (l.take k) c := by
    intro k
    induction k with
    | zero => intro _; simp [csk, csum]
    | succ k ih =>
      intro hk
      have e : l.take (k + 1) = l.take k ++ [l.getD k z5] := by
        rw [List.take_succ_eq_append_getElem (by omega), List.getD_eq_getElem?_getD, List.getElem?_eq_getElem (by omega)]; rfl
      rw [csk, ih (by omega), e, csum_append]
      simp [csum]
  rw [key _ (Nat.le_refl _), List.take_length]
/-- The six sums. -/
def six (l : List F5) : List Int := (List.range 6).map fun c => csk l c l.length
noncomputable def trl (l : List F5) : List Int := if lv l = true then six l else []
theorem trl_t {l : List F5} (h : lv l = true) : trl l = six l := if_pos h
theorem trl_f {l : List F5} (h : lv l = false) : trl l = [] := if_neg (by rw [h]; decide)
theorem six_len (l : List F5) : (six l).length = 6 := by simp [six]
theorem six_get (l : List F5) {c : Nat} (h : c < 6) : (six l).getD c 0 = csk l c l.length := by
  unfold six
  rw [List.getD_eq_getElem?_getD, List.getElem?_map, List.getElem?_range h]; rfl

end Go.Proofs.YtpogfdeioibkdaaGreatDoor.led
