/-
  Plain helpers: the contract of the function that writes a number with zeros ahead. Conditions: none.
-/
import Derived.Test.YtlpeadkkkmpccaaDoorDec
import Derived.Test.YtlpeadkkkmpccaaDoorShelf
import Derived.Stop.LaidErr
namespace Go.Proofs.YtlpeadkkkmpccaaDoor.dec
open Go.ChangeShapes Go.WideShapes Go.ChangeAt Go.RowKit

/-- The library's table of powers of ten. -/
def Pow (w : World) : Prop := Lib.TabIs Tryd.prog w "internal/strconv.uint64pow10" .u64 Lib.pow10Tab
theorem gPow : Tryd.prog.globalNamed "internal/strconv.uint64pow10" = some 2 := by kernel_rfl
theorem Pow.below {B : Nat} {w w' : World} (h : Pow w) (hb : Below B w w') (hB : 2 < B) : Pow w' := var?_below hb gPow hB h

theorem repeat_eq (c : Nat) : Lib.repeatL [48] c = List.replicate c 48 := by
  induction c with
  | zero => rfl
  | succ c ih => rw [Lib.repeatL, ih]; rfl
theorem itoa_nat (n : Nat) : Lib.itoa (n : Int) = Lib.decDigits n := by
  unfold Lib.itoa
  rw [if_neg (by omega), Int.toNat_natCast]
theorem below_grow {w : World} {k : Nat} {os : Array Obj} : Below w.heap.size w (Go.Sort.grow (w.drewN k) os) := by
  refine ⟨rfl, rfl, rfl, ?_, fun i hi => ?_⟩
  · show w.heap.size ≤ (w.heap ++ os).size
    simp
  · show (w.heap ++ os)[i]? = _
    rw [Array.getElem?_append, if_pos hi]

theorem max_nat (a b : Nat) : max ((a : Int) - (b : Int)) 0 = ((a - b : Nat) : Int) := by omega

set_option maxHeartbeats 400000 in
theorem padded (n k : Nat) (w : World) (hn : n ≤ 1000000000000000) (hk : k ≤ 1000) (hp : Pow w) : Calls Tryd.prog 35 #[.int .i64 n, .int .i64 k] w fun e w' => e = .returned (.string ⟨(padL n k).toArray⟩) ∧ Below w.heap.size w w' := by
  have dl := dig_len n
  have HP := Lib.hid hp
  clear hp
  go_enter Tryd.func35, Tryd.ntmps35
  go_wp2_with fail
  refine (Tryd.strconv_FormatInt_10 (n : Int) (by omega) (by omega) w HP.out).mono ?_
  rintro e w1 ⟨rfl, j, os, hw⟩
  have B1 := Lib.hid (show Below w.heap.size w w1 from hw ▸ below_grow)
  clear hw
  rw [itoa_nat]
  go_wp2_with fail
  rw [max_nat]
  refine (Tryd.strings_Repeat ⟨#[48]⟩ (k - (Lib.decDigits n).length) w1 (by omega) (by show 1 * _ ≤ _; omega)).mono ?_
  rintro e w2 ⟨rfl, B2⟩
  have B3 := Lib.hid (B1.out.trans (B2.mono B1.out.size))
  clear B2 B1
  rw [show (⟨#[48]⟩ : ByteArray).data.toList = [48] from rfl, repeat_eq]
  have hz : (List.replicate (k - (Lib.decDigits n).length) (48 : UInt8)).length ≤ 1000 := by simp; omega
  go_wp2_with fail
  go_ret
  refine ⟨ret_str ?_, B3.out⟩
  have h := cat (List.replicate (k - (Lib.decDigits n).length) 48) (Lib.decDigits n)
  rw [List.toArray_replicate] at h
  exact h

end Go.Proofs.YtlpeadkkkmpccaaDoor.dec
