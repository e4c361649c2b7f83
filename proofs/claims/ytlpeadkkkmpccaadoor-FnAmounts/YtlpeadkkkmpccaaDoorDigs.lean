/-
  Plain helpers: the contract of the function that reads a text of digits alone. Conditions: none.
-/
import Derived.Test.YtlpeadkkkmpccaaDoorDec
namespace Go.Proofs.YtlpeadkkkmpccaaDoor.digs
open Go.ChangeShapes Go.WideShapes Go.ChangeAt Go.RowKit

theorem ret_ib {a b : Int} {t u : Bool} (h : a = b) (h' : t = u) : Ending.returned (.tuple #[.int .i64 a, .bool t]) = .returned (.tuple #[.int .i64 b, .bool u]) := by rw [h, h']
/-- A byte is a digit. -/
def isD (b : UInt8) : Prop := 48 ≤ b.toNat ∧ b.toNat ≤ 57
instance (b : UInt8) : Decidable (isD b) := inferInstanceAs (Decidable (_ ∧ _))
/-- The number that a text of digits names. -/
def num (l : List UInt8) : Nat := l.foldl (fun n b => 10 * n + (b.toNat - 48)) 0
/-- What the function answers. -/
def dv (l : List UInt8) : Int := if (∀ b ∈ l, isD b) then (num l : Int) else 0
def dok (l : List UInt8) : Bool := decide (∀ b ∈ l, isD b)

theorem num_snoc (l : List UInt8) (b : UInt8) : num (l ++ [b]) = 10 * num l + (b.toNat - 48) := by simp [num]

set_option maxHeartbeats 400000 in
theorem value (l : List UInt8) (w : World) (h0 : 1 ≤ l.length) (h1 : l.length ≤ 16) : Calls Tryd.prog 38 #[.string ⟨l.toArray⟩] w fun e w' => e = .returned (.tuple #[.int .i64 (dv l), .bool (dok l)]) ∧ w = w' := by
  have t1 : decide ((l.length : Int) < 1) = false := by simp; omega
  have t2 : decide ((16 : Int) < (l.length : Int)) = false := by simp; omega
  go_enter Tryd.func38, Tryd.ntmps38
  go_wp2_with fail
  go_loop [4, 16] (fun a b => ∃ i : Nat, i ≤ l.length ∧ a = .int .i64 (num (l.take i)) ∧ b = .int .i64 i ∧ (∀ b ∈ l.take i, isD b) ∧ num (l.take i) < 10 ^ i) (fun _ b => 20 - (intOf b).toNat)
  case atStart => exact ⟨0, by omega, rfl, rfl, by simp, by simp [num]⟩
  case round =>
    obtain ⟨i, hi, rfl, rfl, hall, hb⟩ := hrel
    have ALL := Lib.hid hall
    have hb2 : 10 ^ i ≤ 10 ^ 16 := Nat.pow_le_pow_right (by omega) (by omega)
    clear hall
    by_cases hlt : i < l.length
    · have d1 : decide ((i : Int) < (l.length : Int)) = true := by simp; omega
      have hs : i < (⟨l.toArray⟩ : ByteArray).size := hlt
      have hbe : (⟨l.toArray⟩ : ByteArray)[i] = l[i] := rfl
      have hm : l[i] ∈ l := List.getElem_mem hlt
      have hno : ¬ isD l[i] → dv l = 0 ∧ dok l = false := fun h => by
        have : ¬ ∀ b ∈ l, isD b := fun h' => h (h' _ hm)
        exact ⟨if_neg this, by simp only [dok]; exact decide_eq_false this⟩
      have htk : l.take (i + 1) = l.take i ++ [l[i]] := by rw [List.take_add_one]; simp [hlt]
      by_cases c1 : l[i].toNat < 48
      · have d2 : decide ((((⟨l.toArray⟩ : ByteArray)[i]).toNat : Int) < 48) = true := by rw [hbe]; simp; omega
        have NO := Lib.hid (hno (fun h => by have := h.1; omega))
        clear hno htk hm
        go_wp2
        go_ret2
        exact ⟨ret_ib NO.out.1.symm NO.out.2.symm, rfl⟩
      · have d2 : decide ((((⟨l.toArray⟩ : ByteArray)[i]).toNat : Int) < 48) = false := by rw [hbe]; simp; omega
        by_cases c2 : 57 < l[i].toNat
        · have d3 : decide ((57 : Int) < (((⟨l.toArray⟩ : ByteArray)[i]).toNat : Int)) = true := by rw [hbe]; simp; omega
          have NO := Lib.hid (hno (fun h => by have := h.2; omega))
          clear hno htk hm
          go_wp2
          go_ret2
          exact ⟨ret_ib NO.out.1.symm NO.out.2.symm, rfl⟩
        · have d3 : decide ((57 : Int) < (((⟨l.toArray⟩ : ByteArray)[i]).toNat : Int)) = false := by rw [hbe]; simp; omega
          have e1 : 48 ≤ (((⟨l.toArray⟩ : ByteArray)[i]).toNat : Int) := by rw [hbe]; omega
          have e2 : (((⟨l.toArray⟩ : ByteArray)[i]).toNat : Int) ≤ 57 := by rw [hbe]; omega
          have TK := Lib.hid htk
          clear hno htk hm
          go_wp2
          go_round
          case rel =>
            refine ⟨i + 1, by omega, ?_, by go_num, ?_, ?_⟩
            · rw [TK.out, num_snoc]; go_num
            · rw [TK.out]; intro b hb; rcases List.mem_append.1 hb with hb | hb
              · exact ALL.out b hb
              · rw [List.mem_singleton.1 hb]; exact ⟨by omega, by omega⟩
            · rw [TK.out, num_snoc, Nat.pow_succ]; omega
          case measure => simp [intOf]; omega
    · have d1 : decide ((i : Int) < (l.length : Int)) = false := by simp; omega
      have he : l.take i = l := List.take_of_length_le (by omega)
      rw [he] at ALL hb ⊢
      have YE := Lib.hid (show dv l = (num l : Int) ∧ dok l = true from ⟨if_pos ALL.out, by simp only [dok]; exact decide_eq_true ALL.out⟩)
      clear he
      go_wp2
      go_ret2
      exact ⟨ret_ib YE.out.1.symm YE.out.2.symm, rfl⟩
end Go.Proofs.YtlpeadkkkmpccaaDoor.digs
