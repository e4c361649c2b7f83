/-
  Plain helpers: contracts of the two functions that write an amount. Conditions: none.
-/
import Derived.Test.YtlpeadkkkmpccaaDoorPad
import Derived.Test.YtlpeadkkkmpccaaDoorCurOf
import Derived.Deep.QuietTactic
import Derived.BigQuiet
namespace Go.Proofs.YtlpeadkkkmpccaaDoor.amt
open Go.ChangeShapes Go.WideShapes Go.ChangeAt Go.RowKit

/-- The places of a currency. -/
def plc (k : Int) : Nat := if k = 2 then 0 else if k = 4 then 3 else 2

theorem plc_impl (k : Int) (w : World) (c : base.Cur w) (h0 : 0 ≤ k) (h5 : k ≤ 5) : Calls Tryd.prog 17 #[.int .i64 k] w fun e w' => e = .returned (.int .i64 (plc k)) ∧ w = w' := by
  obtain ⟨lt, c0, c1, c2, c3, c4, c5, c6, c7, c8, c9, c10, c11⟩ := c
  rcases (show k = 0 ∨ k = 1 ∨ k = 2 ∨ k = 3 ∨ k = 4 ∨ k = 5 by omega) with rfl | rfl | rfl | rfl | rfl | rfl <;>
    (go_enter Tryd.func17, Tryd.ntmps17; go_wp2; go_ret; exact ⟨rfl, rfl⟩)
theorem plc_spec (k : Int) (w : World) (h0 : 0 ≤ k) (h5 : k ≤ 5) : Calls Tryd.prog 18 #[.int .i64 k] w fun e w' => e = .returned (.int .i64 (plc k)) ∧ Below w.heap.size w w' := by
  rcases (show k = 0 ∨ k = 1 ∨ k = 2 ∨ k = 3 ∨ k = 4 ∨ k = 5 by omega) with rfl | rfl | rfl | rfl | rfl | rfl <;>
    (go_enter Tryd.func18, Tryd.ntmps18; go_wp2; go_ret; exact ⟨rfl, by repeat (first | exact Below.refl _ _ | refine Below.alloc ?_ (by simp) _)⟩)
theorem isCur (k : Int) (w : World) (h0 : 0 ≤ k) (h5 : k ≤ 5) : Calls Tryd.prog 31 #[.int .i64 k] w fun e w' => e = .returned (.bool true) ∧ w = w' := by
  have t1 : decide (0 ≤ k) = true := by simp; omega
  have t2 : decide (k < 6) = true := by simp; omega
  go_enter Tryd.func31, Tryd.ntmps31
  go_wp2
  go_ret
  exact ⟨rfl, rfl⟩
theorem isAmt (n : Int) (w : World) (h0 : -1000000000000 ≤ n) (h5 : n ≤ 1000000000000) : Calls Tryd.prog 34 #[.int .i64 n] w fun e w' => e = .returned (.bool true) ∧ w = w' := by
  have t1 : decide (-1000000000000 ≤ n) = true := by simp; omega
  have t2 : decide (n ≤ 1000000000000) = true := by simp; omega
  go_enter Tryd.func34, Tryd.ntmps34
  go_wp2
  go_ret
  exact ⟨rfl, rfl⟩

theorem len_pad (a p : Nat) : p ≤ (dec.padL a p).length ∧ (dec.padL a p).length ≤ a + p + 1 := by
  have := dec.dig_len a
  unfold dec.padL
  simp
  omega
theorem max_p (a : Nat) : max (a : Int) (-(a : Int)) = (a : Int) := by omega
theorem max_n (a : Nat) : max (-(a : Int)) (a : Int) = (a : Int) := by omega
theorem isAmtN (n : Int) (w : World) (h0 : -1000000000000 ≤ n) (h5 : n ≤ 1000000000000) : Calls Tryd.prog 39 #[.int .i64 n] w fun e w' => e = .returned (.bool true) ∧ w = w' := by
  have t1 : decide (-1000000000000 ≤ n) = true := by simp; omega
  have t2 : decide (n ≤ 1000000000000) = true := by simp; omega
  go_enter Tryd.func39, Tryd.ntmps39
  go_wp2
  go_ret
  exact ⟨rfl, rfl⟩
theorem isCurN (k : Int) (w : World) (h0 : 0 ≤ k) (h5 : k ≤ 5) : Calls Tryd.prog 32 #[.int .i64 k] w fun e w' => e = .returned (.bool true) ∧ w = w' := by
  have t1 : decide (0 ≤ k) = true := by simp; omega
  have t2 : decide (k ≤ 5) = true := by simp; omega
  go_enter Tryd.func32, Tryd.ntmps32
  go_wp2
  go_ret
  exact ⟨rfl, rfl⟩

/-- The text of an amount without its sign: its whole, its point and its places. -/
def body (p a : Nat) : List UInt8 := if p = 0 then dec.padL a 1 else (dec.padL a (p + 1)).take ((dec.padL a (p + 1)).length - p) ++ [46] ++ (dec.padL a (p + 1)).drop ((dec.padL a (p + 1)).length - p)
theorem body_0 (a : Nat) : body 0 a = dec.padL a 1 := rfl
theorem body_j {p a j : Nat} (hp : 1 ≤ p) (hj : (dec.padL a (p + 1)).length = j + p) : body p a = (dec.padL a (p + 1)).take j ++ [46] ++ (dec.padL a (p + 1)).drop j := by
  unfold body
  rw [if_neg (by omega), show (dec.padL a (p + 1)).length - p = j by omega]
theorem ext0 (l : List UInt8) (j : Nat) : (⟨l.toArray⟩ : ByteArray).extract 0 j = ⟨(l.take j).toArray⟩ := by
  apply ByteArray.ext; simp
theorem ext1 (l : List UInt8) (j : Nat) : (⟨l.toArray⟩ : ByteArray).extract j l.length = ⟨(l.drop j).toArray⟩ := by
  apply ByteArray.ext; simp
  rw [List.take_of_length_le (by simp)]
theorem plc_3 (k : Int) : plc k ≤ 3 := by unfold plc; split <;> (try split) <;> omega
end Go.Proofs.YtlpeadkkkmpccaaDoor.amt
