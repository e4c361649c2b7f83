/-
  Plain helpers: the contract of the model's function that reads an amount. Conditions: none.
-/
import Derived.Test.YtlpeadkkkmpccaaDoorAmt3
import Derived.Test.YtlpeadkkkmpccaaDoorDigs
namespace Go.Proofs.YtlpeadkkkmpccaaDoor.ra
open Go.ChangeShapes Go.WideShapes Go.ChangeAt Go.RowKit

/-- The number that the digits of a text name, the others passed over; and the same, capped. -/
def stepD (n : Nat) (b : UInt8) : Nat := if digs.isD b then 10 * n + (b.toNat - 48) else n
def numD (l : List UInt8) : Nat := l.foldl stepD 0
def cap (n : Nat) : Nat := min n 10000000000000
theorem numD_snoc (l : List UInt8) (b : UInt8) : numD (l ++ [b]) = stepD (numD l) b := by simp [numD]
theorem cap_step (n d : Nat) : min (10 * cap n + d) 10000000000000 = cap (10 * n + d) := by unfold cap; omega
/-- What the function reckons. -/
def sgn (l : List UInt8) : Int := if l[0]? = some 45 then -(cap (numD l) : Int) else (cap (numD l) : Int)
def ansS (k : Int) (l : List UInt8) : Value := if l ≠ [] ∧ amt.atx k (sgn l) = l then .tuple #[.int .i64 (sgn l), .bool true] else .tuple #[.int .i64 0, .bool false]

theorem ret_v {a b : Value} (h : a = b) : Ending.returned a = .returned b := by rw [h]
theorem ansS_nil {k : Int} {l : List UInt8} (h : l = []) : .tuple #[.int .i64 0, .bool false] = ansS k l := by
  unfold ansS; rw [if_neg (fun q => q.1 h)]
theorem ansS_yes {k x : Int} {l : List UInt8} (hn : l ≠ []) (hx : sgn l = x) (h : (amt.atx k x == l) = true) : .tuple #[.int .i64 x, .bool true] = ansS k l := by
  unfold ansS; rw [hx, if_pos ⟨hn, by simpa using h⟩]
theorem ansS_ne {k x : Int} {l : List UInt8} (hx : sgn l = x) (h : (amt.atx k x == l) = false) : .tuple #[.int .i64 0, .bool false] = ansS k l := by
  unfold ansS; rw [hx, if_neg (fun q => by simp [q.2] at h)]
theorem spec_long (k : Int) (l : List UInt8) (w : World) (h : 30 < l.length) : Calls Tryd.prog 23 #[.int .i64 k, .string ⟨l.toArray⟩] w fun e w' => e = .returned (.tuple #[.int .i64 0, .bool false]) ∧ w = w' := by
  have t1 : decide ((30 : Int) < (l.length : Int)) = true := by simp; omega
  go_enter Tryd.func23, Tryd.ntmps23
  go_wp2
  go_ret2
  exact ⟨rfl, rfl⟩

set_option maxHeartbeats 1000000 in
theorem spec_short (k : Int) (l : List UInt8) (w : World) (h : l.length ≤ 30) : Calls Tryd.prog 23 #[.int .i64 k, .string ⟨l.toArray⟩] w fun e w' => e = .returned (ansS k l) ∧ Below w.heap.size w w' := by
  have t1 : decide ((30 : Int) < (l.length : Int)) = false := by simp; omega
  go_enter Tryd.func23, Tryd.ntmps23
  go_wp2_with fail
  go_loop [6, 7] (fun a b => ∃ i : Nat, i ≤ l.length ∧ a = .int .i64 (cap (numD (l.take i))) ∧ b = .int .i64 i) (fun _ b => 40 - (intOf b).toNat)
  case atStart => exact ⟨0, by omega, rfl, rfl⟩
  case round =>
    obtain ⟨i, hi, rfl, rfl⟩ := hrel
    by_cases hlt : i < l.length
    · have d1 : decide ((i : Int) < (l.length : Int)) = true := by simp; omega
      have hs : i < (⟨l.toArray⟩ : ByteArray).size := hlt
      have hbe : (⟨l.toArray⟩ : ByteArray)[i] = l[i] := rfl
      have htk : l.take (i + 1) = l.take i ++ [l[i]] := by rw [List.take_add_one]; simp [hlt]
      have hnx : numD (l.take (i + 1)) = stepD (numD (l.take i)) l[i] := by rw [htk, numD_snoc]
      have hc : cap (numD (l.take i)) ≤ 10000000000000 := by unfold cap; omega
      clear htk
      by_cases c1 : l[i].toNat < 48
      · have d2 : decide ((48 : Int) ≤ (((⟨l.toArray⟩ : ByteArray)[i]).toNat : Int)) = false := by rw [hbe]; simp; omega
        have NX := Lib.hid (hnx.trans (if_neg (fun h : digs.isD l[i] => by have := h.1; omega)))
        clear hnx
        go_wp2
        go_round
        case rel => exact ⟨i + 1, by omega, by rw [NX.out], by go_num⟩
        case measure => simp [intOf]; omega
      · have d2 : decide ((48 : Int) ≤ (((⟨l.toArray⟩ : ByteArray)[i]).toNat : Int)) = true := by rw [hbe]; simp; omega
        by_cases c2 : 57 < l[i].toNat
        · have d3 : decide ((((⟨l.toArray⟩ : ByteArray)[i]).toNat : Int) ≤ 57) = false := by rw [hbe]; simp; omega
          have NX := Lib.hid (hnx.trans (if_neg (fun h : digs.isD l[i] => by have := h.2; omega)))
          clear hnx
          go_wp2
          go_round
          case rel => exact ⟨i + 1, by omega, by rw [NX.out], by go_num⟩
          case measure => simp [intOf]; omega
        · have d3 : decide ((((⟨l.toArray⟩ : ByteArray)[i]).toNat : Int) ≤ 57) = true := by rw [hbe]; simp; omega
          have e1 : 48 ≤ (((⟨l.toArray⟩ : ByteArray)[i]).toNat : Int) := by rw [hbe]; omega
          have e2 : (((⟨l.toArray⟩ : ByteArray)[i]).toNat : Int) ≤ 57 := by rw [hbe]; omega
          have NX := Lib.hid (hnx.trans (if_pos (show digs.isD l[i] from ⟨by omega, by omega⟩)))
          clear hnx
          go_wp2
          go_round
          case rel =>
            refine ⟨i + 1, by omega, ?_, by go_num⟩
            rw [NX.out, ← cap_step]
            go_num
          case measure => simp [intOf]; omega
    · have d1 : decide ((i : Int) < (l.length : Int)) = false := by simp; omega
      have he : l.take i = l := List.take_of_length_le (by omega)
      rw [he]
      have hc : cap (numD l) ≤ 10000000000000 := by unfold cap; omega
      clear he
      by_cases hz : l.length = 0
      · have z0 : decide ((0 : Int) < (l.length : Int)) = false := decide_eq_false (by omega)
        have hn : l = [] := List.length_eq_zero_iff.1 hz
        have z1 : (l == []) = true := by rw [hn]; rfl
        have HN := Lib.hid hn
        clear hn
        go_wp2
        go_ret2
        exact ⟨ret_v (ansS_nil HN.out), Below.refl _ _⟩
      · have z0 : decide ((0 : Int) < (l.length : Int)) = true := by simp; omega
        have hs : 0 < (⟨l.toArray⟩ : ByteArray).size := by show 0 < l.length; omega
        have hl0 : 0 < l.length := by omega
        have hbe : (⟨l.toArray⟩ : ByteArray)[0] = l[0] := rfl
        have hn : l ≠ [] := fun q => hz (by rw [q]; rfl)
        have z1 : (l == []) = false := beq_eq_false_iff_ne.2 hn
        have HN := Lib.hid hn
        have hg : l[0]? = some l[0] := List.getElem?_eq_getElem hl0
        by_cases hm : l[0] = 45
        · have m0 : ((((⟨l.toArray⟩ : ByteArray)[0]).toNat : Int) == 45) = true := by rw [hbe, hm]; rfl
          have m1 : ((l[0].toNat : Int) == 45) = true := by rw [hm]; rfl
          have SG : sgn l = -(cap (numD l) : Int) := if_pos (by rw [hg, hm])
          have SP := Lib.hid (amt.spec k (sgn l))
          have SG' := Lib.hid SG
          rw [SG] at SP
          clear hn hg hm SG
          go_wp2_with fail
          refine (SP.out w).mono ?_
          rintro e w1 ⟨rfl, b1⟩
          have B1 := Lib.hid b1
          clear b1
          cases hq : (amt.atx k (-(cap (numD l) : Int)) == l) with
          | true =>
            go_wp2
            go_ret2
            exact ⟨ret_v (ansS_yes HN.out SG'.out hq), B1.out⟩
          | false =>
            go_wp2
            go_ret2
            exact ⟨ret_v (ansS_ne SG'.out hq), B1.out⟩
        · have m0 : ((((⟨l.toArray⟩ : ByteArray)[0]).toNat : Int) == 45) = false := by
            rw [hbe]; simp
            intro q
            exact hm (UInt8.toNat_inj.1 (by rw [show (45 : UInt8).toNat = 45 from rfl]; omega))
          have m1 : ((l[0].toNat : Int) == 45) = false := hbe ▸ m0
          have SG : sgn l = (cap (numD l) : Int) := if_neg (by rw [hg]; simpa using hm)
          have SP := Lib.hid (amt.spec k (sgn l))
          have SG' := Lib.hid SG
          rw [SG] at SP
          clear hn hg hm SG
          go_wp2_with fail
          refine (SP.out w).mono ?_
          rintro e w1 ⟨rfl, b1⟩
          have B1 := Lib.hid b1
          clear b1
          cases hq : (amt.atx k (cap (numD l) : Int) == l) with
          | true =>
            go_wp2
            go_ret2
            exact ⟨ret_v (ansS_yes HN.out SG'.out hq), B1.out⟩
          | false =>
            go_wp2
            go_ret2
            exact ⟨ret_v (ansS_ne SG'.out hq), B1.out⟩
end Go.Proofs.YtlpeadkkkmpccaaDoor.ra
