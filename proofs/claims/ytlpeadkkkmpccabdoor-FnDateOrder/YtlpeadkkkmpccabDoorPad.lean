/-
  Plain helpers: contracts of the functions that write a number with zeros ahead, and a date. Conditions: none.
-/
import Derived.Test.YtlpeadkkkmpccabDoorDec
import Derived.Test.YtlpeadkkkmpccabDoorShelf
import Derived.Test.YtlpeadkkkmpccabDoorDateOf
import Derived.Stop.LaidErr
namespace Go.Proofs.YtlpeadkkkmpccabDoor.dec
open Go.ChangeShapes Go.WideShapes Go.ChangeAt Go.RowKit

/-- The library's table of powers of ten. -/
def Pow (w : World) : Prop := Lib.TabIs Tryd.prog w "internal/strconv.uint64pow10" .u64 Lib.pow10Tab
theorem gPow : Tryd.prog.globalNamed "internal/strconv.uint64pow10" = some 1 := by kernel_rfl
theorem Pow.below {B : Nat} {w w' : World} (h : Pow w) (hb : Below B w w') (hB : 1 < B) : Pow w' := var?_below hb gPow hB h

theorem repeat_eq (c : Nat) : Lib.repeatL [48] c = List.replicate c 48 := by
  induction c with
  | zero => rfl
  | succ c ih => rw [Lib.repeatL, ih]; rfl
theorem itoa_nat (n : Nat) : Lib.itoa (n : Int) = Lib.decDigits n := by
  unfold Lib.itoa
  rw [if_neg (by omega), Int.toNat_natCast]
theorem below_grow {w : World} {k : Nat} {os : Array Obj} : Below w.heap.size w (Go.Sort.grow (w.drewN k) os) := by
  refine ⟨rfl, rfl, rfl, ?_, fun i hi => ?_⟩
  · show w.heap.size ≤ (w.heap ++ os).size
    simp
  · show (w.heap ++ os)[i]? = _
    rw [Array.getElem?_append, if_pos hi]

theorem max_nat (a b : Nat) : max ((a : Int) - (b : Int)) 0 = ((a - b : Nat) : Int) := by omega

set_option maxHeartbeats 400000 in
theorem padded (n k : Nat) (w : World) (hn : n ≤ 1000000000000000) (hk : k ≤ 1000) (hp : Pow w) : Calls Tryd.prog 51 #[.int .i64 n, .int .i64 k] w fun e w' => e = .returned (.string ⟨(padL n k).toArray⟩) ∧ Below w.heap.size w w' := by
  have dl := dig_len n
  have HP := Lib.hid hp
  clear hp
  go_enter Tryd.func51, Tryd.ntmps51
  go_wp2_with fail
  refine (Tryd.strconv_FormatInt_10 (n : Int) (by omega) (by omega) w HP.out).mono ?_
  rintro e w1 ⟨rfl, j, os, hw⟩
  have B1 := Lib.hid (show Below w.heap.size w w1 from hw ▸ below_grow)
  clear hw
  rw [itoa_nat]
  go_wp2_with fail
  rw [max_nat]
  refine (Tryd.strings_Repeat ⟨#[48]⟩ (k - (Lib.decDigits n).length) w1 (by omega) (by show 1 * _ ≤ _; omega)).mono ?_
  rintro e w2 ⟨rfl, B2⟩
  have B3 := Lib.hid (B1.out.trans (B2.mono B1.out.size))
  clear B2 B1
  rw [show (⟨#[48]⟩ : ByteArray).data.toList = [48] from rfl, repeat_eq]
  have hz : (List.replicate (k - (Lib.decDigits n).length) (48 : UInt8)).length ≤ 1000 := by simp; omega
  go_wp2_with fail
  go_ret
  refine ⟨ret_str ?_, B3.out⟩
  have h := cat (List.replicate (k - (Lib.decDigits n).length) 48) (Lib.decDigits n)
  rw [List.toArray_replicate] at h
  exact h

def txt : Value → ByteArray | .string s => s | _ => ⟨#[]⟩

set_option maxHeartbeats 400000 in
theorem l2Digits (n k : Nat) (w : World) (hn : n ≤ 1000000000000000) (hk : k ≤ 1000) : Calls Tryd.prog 53 #[.int .i64 n, .int .i64 k] w fun e w' => e = .returned (.string ⟨(padL n k).toArray⟩) ∧ Below w.heap.size w w' := by
  have dl := dig_len n
  go_enter Tryd.func53, Tryd.ntmps53
  go_wp2_with fail
  refine (l1Dec n w hn).mono ?_
  rintro e w1 ⟨rfl, B1⟩
  go_wp2_with fail
  have BB1 := Lib.hid B1
  clear B1
  go_loopw [5] (fun s wr => wr = w1 ∧ ∃ j : Nat, (j = 0 ∨ j + (Lib.decDigits n).length ≤ k) ∧ s = .string ⟨(List.replicate j 48 ++ Lib.decDigits n).toArray⟩) (fun s _ => 1000 - (txt s).data.size)
  case atStart => exact ⟨rfl, 0, .inl rfl, rfl⟩
  case round =>
    obtain ⟨rfl, j, hj, rfl⟩ := hrel
    have hz : (List.replicate j (48 : UInt8) ++ Lib.decDigits n).length = j + (Lib.decDigits n).length := by simp
    by_cases hlt : j + (Lib.decDigits n).length < k
    · have u1 : decide (((j + (Lib.decDigits n).length : Nat) : Int) < (k : Int)) = true := by simp; omega
      go_wp2
      go_roundw
      case rel => exact ⟨trivial, j + 1, .inr (by omega), val_str (cat1 48 _)⟩
      case measure =>
        simp [txt]
        omega
    · have u1 : decide (((j + (Lib.decDigits n).length : Nat) : Int) < (k : Int)) = false := by simp; omega
      go_wp2
      go_ret
      refine ⟨ret_str ?_, BB1.out⟩
      rw [show j = k - (Lib.decDigits n).length by omega]
      rfl

/-- The text of a date. -/
def dateL (y m d : Int) : List UInt8 := padL y.toNat 4 ++ [45] ++ padL m.toNat 2 ++ [45] ++ padL d.toNat 2
theorem padL_len (n k : Nat) : (padL n k).length ≤ n + k + 1 := by
  have := dig_len n
  simp [padL]
  omega
theorem pad2 (n k : Int) (w : World) (h0 : 0 ≤ n) (h1 : n ≤ 5000) (hk : 0 ≤ k) (hk1 : k ≤ 1000) (hp : Pow w) : Calls Tryd.prog 51 #[.int .i64 n, .int .i64 k] w fun e w' => e = .returned (.string ⟨(padL n.toNat k.toNat).toArray⟩) ∧ Below w.heap.size w w' := by
  obtain ⟨a, rfl⟩ := Int.eq_ofNat_of_zero_le h0
  obtain ⟨b, rfl⟩ := Int.eq_ofNat_of_zero_le hk
  exact padded a b w (by omega) (by omega) hp
theorem dig2 (n k : Int) (w : World) (h0 : 0 ≤ n) (h1 : n ≤ 5000) (hk : 0 ≤ k) (hk1 : k ≤ 1000) : Calls Tryd.prog 53 #[.int .i64 n, .int .i64 k] w fun e w' => e = .returned (.string ⟨(padL n.toNat k.toNat).toArray⟩) ∧ Below w.heap.size w w' := by
  obtain ⟨a, rfl⟩ := Int.eq_ofNat_of_zero_le h0
  obtain ⟨b, rfl⟩ := Int.eq_ofNat_of_zero_le hk
  exact l2Digits a b w (by omega) (by omega)

set_option maxHeartbeats 400000 in
theorem text_impl (n y m d : Int) (w : World) (c : base.Mon w) (hp : Pow w) (hw : 1 < w.heap.size) (hd : cal.isDate n y m d) : Calls Tryd.prog 20 #[.int .i64 n] w fun e w' => e = .returned (.string ⟨(dateL y m d).toArray⟩) ∧ Below w.heap.size w w' := by
  have C := Lib.hid c
  have HP := Lib.hid hp
  have HD := Lib.hid hd
  have hn0 := cal.day_nonneg hd.1
  have hn1 := hd.1.2.2.2.2.2.2
  have hn2 := hd.2
  have hb := hd.1
  have hml := cal.mlen_bd y m
  obtain ⟨b1, b2, b3, b4, b5, b6, _⟩ := hb
  clear c hp hd
  have L1 := padL_len y.toNat 4
  have L2 := padL_len m.toNat 2
  have L3 := padL_len d.toNat 2
  go_enter Tryd.func20, Tryd.ntmps20
  go_wp2_with fail
  refine (dateOf.isDayT n w (by omega) (by omega)).mono ?_
  rintro e w1 ⟨rfl, rfl⟩
  go_wp2_with fail
  refine (dateOf.impl n y m d w C.out HD.out).mono ?_
  rintro e w1 ⟨rfl, rfl⟩
  go_wp2_with fail
  refine (pad2 y 4 w (by omega) (by omega) (by omega) (by omega) HP.out).mono ?_
  rintro e w1 ⟨rfl, B1⟩
  have BB1 := Lib.hid B1
  have HS1 := B1.size
  clear B1
  go_wp2_with fail
  refine (pad2 m 2 w1 (by omega) (by omega) (by omega) (by omega) (HP.out.below BB1.out hw)).mono ?_
  rintro e w2 ⟨rfl, B2⟩
  have BB2 := Lib.hid (BB1.out.trans (B2.mono HS1))
  have HS2 := BB2.out.size
  clear B2 BB1
  go_wp2_with fail
  refine (pad2 d 2 w2 (by omega) (by omega) (by omega) (by omega) (HP.out.below BB2.out hw)).mono ?_
  rintro e w3 ⟨rfl, B3⟩
  have BB3 := Lib.hid (BB2.out.trans (B3.mono HS2))
  clear B3 BB2
  go_wp2_with fail
  go_ret
  refine ⟨ret_str ?_, BB3.out⟩
  show (⟨_⟩ : ByteArray) ++ (⟨[45].toArray⟩ : ByteArray) ++ (⟨_⟩ : ByteArray) ++ (⟨[45].toArray⟩ : ByteArray) ++ (⟨_⟩ : ByteArray) = _
  rw [cat, cat, cat, cat]
  rfl

set_option maxHeartbeats 400000 in
theorem text_spec (n y m d : Int) (w : World) (c : base.Mon w) (hd : cal.isDate n y m d) : Calls Tryd.prog 23 #[.int .i64 n] w fun e w' => e = .returned (.string ⟨(dateL y m d).toArray⟩) ∧ Below w.heap.size w w' := by
  have C := Lib.hid c
  have HD := Lib.hid hd
  have hn0 := cal.day_nonneg hd.1
  have hn1 := hd.1.2.2.2.2.2.2
  have hn2 := hd.2
  have hb := hd.1
  have hml := cal.mlen_bd y m
  obtain ⟨b1, b2, b3, b4, b5, b6, _⟩ := hb
  clear c hd
  have L1 := padL_len y.toNat 4
  have L2 := padL_len m.toNat 2
  have L3 := padL_len d.toNat 2
  go_enter Tryd.func23, Tryd.ntmps23
  go_wp2_with fail
  refine (dateOf.l2DayT n w (by omega) (by omega)).mono ?_
  rintro e w1 ⟨rfl, rfl⟩
  go_wp2_with fail
  refine (dateOf.spec n y m d w C.out HD.out).mono ?_
  rintro e w0 ⟨rfl, B0⟩
  have BB0 := Lib.hid B0
  have HS0 := B0.size
  clear B0
  go_wp2_with fail
  refine (dig2 y 4 w0 (by omega) (by omega) (by omega) (by omega)).mono ?_
  rintro e w1 ⟨rfl, B1⟩
  have BB1 := Lib.hid (BB0.out.trans (B1.mono HS0))
  have HS1 := BB1.out.size
  clear B1 BB0
  go_wp2_with fail
  refine (dig2 m 2 w1 (by omega) (by omega) (by omega) (by omega)).mono ?_
  rintro e w2 ⟨rfl, B2⟩
  have BB2 := Lib.hid (BB1.out.trans (B2.mono HS1))
  have HS2 := BB2.out.size
  clear B2 BB1
  go_wp2_with fail
  refine (dig2 d 2 w2 (by omega) (by omega) (by omega) (by omega)).mono ?_
  rintro e w3 ⟨rfl, B3⟩
  have BB3 := Lib.hid (BB2.out.trans (B3.mono HS2))
  clear B3 BB2
  go_wp2_with fail
  go_ret
  refine ⟨ret_str ?_, BB3.out⟩
  show (⟨_⟩ : ByteArray) ++ (⟨[45].toArray⟩ : ByteArray) ++ (⟨_⟩ : ByteArray) ++ (⟨[45].toArray⟩ : ByteArray) ++ (⟨_⟩ : ByteArray) = _
  rw [cat, cat, cat, cat]
  rfl

theorem text_impl_no (n : Int) (w : World) (h : n < 0 ∨ 100000 < n) : Calls Tryd.prog 20 #[.int .i64 n] w fun e w' => e = .returned (.string ⟨#[]⟩) ∧ w = w' := by
  by_cases h1 : n < 0
  · have t1 : decide (0 ≤ n) = false := by simp; omega
    clear h
    go_enter Tryd.func20, Tryd.ntmps20
    go_wp2
    go_ret
    exact ⟨rfl, rfl⟩
  · have t1 : decide (0 ≤ n) = true := by simp; omega
    have t2 : decide (n ≤ 100000) = false := by simp; omega
    clear h
    go_enter Tryd.func20, Tryd.ntmps20
    go_wp2
    go_ret
    exact ⟨rfl, rfl⟩
theorem text_spec_no (n : Int) (w : World) (h : n < 0 ∨ 100000 < n) : Calls Tryd.prog 23 #[.int .i64 n] w fun e w' => e = .returned (.string ⟨#[]⟩) ∧ w = w' := by
  by_cases h1 : n < 0
  · have t1 : decide (0 ≤ n) = false := by simp; omega
    clear h
    go_enter Tryd.func23, Tryd.ntmps23
    go_wp2
    go_ret
    exact ⟨rfl, rfl⟩
  · have t1 : decide (0 ≤ n) = true := by simp; omega
    have t2 : decide (n ≤ 100000) = false := by simp; omega
    clear h
    go_enter Tryd.func23, Tryd.ntmps23
    go_wp2
    go_ret
    exact ⟨rfl, rfl⟩
end Go.Proofs.YtlpeadkkkmpccabDoor.dec
