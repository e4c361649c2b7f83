/-
  Plain helpers of this seat's proofs: the mathematics of a command as text. Conditions: none.
-/
import Derived.Test.YtcpglphhhmgjkaaDoorCmm
import Derived.Test.YtcpglphhhmgjkaaDoorDec
namespace Go.Proofs.YtcpglphhhmgjkaaDoor.cm
open Go.ChangeShapes Go.WideShapes Go.ChangeAt Go.RowKit
open gen
open four (F4)
/-- The names of the kinds. -/
def nmL : List (List UInt8) := [[100, 97, 121], [114, 97, 116, 101], [99, 111, 110, 115, 117, 109, 101, 114], [109, 101, 114, 99, 104, 97, 110, 116], [111, 114, 100, 101, 114], [115, 104, 105, 112], [112, 97, 121], [114, 101, 102, 117, 110, 100], [100, 105, 115, 112, 117, 116, 101], [114, 117, 108, 101], [112, 97, 121, 111, 117, 116], [114, 101, 108, 101, 97, 115, 101], [112, 97, 121, 111, 102, 102]]
def nw (k : Int) : List UInt8 := nmL.getD (k - 1).toNat []
/-- A number behind a space. -/
def sd (n : Int) : List UInt8 := 32 :: Lib.decDigits n.toNat
/-- The first j numbers, each behind a space. -/
def tn (s : Sc) : Nat → List UInt8
  | 0 => []
  | j + 1 => tn s j ++ sd ((nums s).getD j 0)
/-- An item behind a space. -/
def si (x : F4) : List UInt8 := 32 :: (Lib.decDigits x.1.toNat ++ 120 :: Lib.decDigits x.2.1.toNat)
def ti (l : List F4) : Nat → List UInt8
  | 0 => []
  | j + 1 => ti l j ++ si (l.getD j four.zz)
def txt (s : Sc) (l : List F4) : List UInt8 := s.key.data.toList ++ 32 :: nw s.k ++ tn s (cnt s.k) ++ ti l l.length
/-- Numbers that are no negative ones and not great. -/
def Small (n : Int) : Prop := 0 ≤ n ∧ n ≤ 1000000000000
theorem sd_len {n : Int} (h : Small n) : (sd n).length ≤ 1000000000002 := by
  unfold sd
  have := dec.dig_len n.toNat
  have := h.2
  have := h.1
  simp
  omega
theorem tn_len {s : Sc} : ∀ j, (∀ i, i < j → Small ((nums s).getD i 0)) → (tn s j).length ≤ j * 1000000000002
  | 0, _ => by simp [tn]
  | j + 1, h => by
    have a := tn_len j (fun i hi => h i (by omega))
    have b := sd_len (h j (by omega))
    show (tn s j ++ sd _).length ≤ _
    rw [List.length_append]
    omega
theorem si_len {x : F4} (h : Small x.1) (h' : Small x.2.1) : (si x).length ≤ 2000000000004 := by
  unfold si
  have := dec.dig_len x.1.toNat
  have := dec.dig_len x.2.1.toNat
  have := h.2
  have := h.1
  have := h'.2
  have := h'.1
  simp
  omega
theorem ti_len {l : List F4} : ∀ j, (∀ i, i < j → Small (l.getD i four.zz).1 ∧ Small (l.getD i four.zz).2.1) → (ti l j).length ≤ j * 2000000000004
  | 0, _ => by simp [ti]
  | j + 1, h => by
    have a := ti_len j (fun i hi => h i (by omega))
    have b := si_len (h j (by omega)).1 (h j (by omega)).2
    show (ti l j ++ si _).length ≤ _
    rw [List.length_append]
    omega
theorem nw_len (k : Int) : (nw k).length ≤ 8 := by
  unfold nw
  generalize (k - 1).toNat = i
  match i with
  | 0 => exact (by decide)
  | 1 => exact (by decide)
  | 2 => exact (by decide)
  | 3 => exact (by decide)
  | 4 => exact (by decide)
  | 5 => exact (by decide)
  | 6 => exact (by decide)
  | 7 => exact (by decide)
  | 8 => exact (by decide)
  | 9 => exact (by decide)
  | 10 => exact (by decide)
  | 11 => exact (by decide)
  | 12 => exact (by decide)
  | i + 13 => exact (by simp [nmL])
end Go.Proofs.YtcpglphhhmgjkaaDoor.cm
