/-
  Plain helpers of this seat's proofs: contracts of the landed functions that read and write a number. Conditions: none.
-/
import Derived.Test.YtpogfdeioibkdaaGreatDoorPtm
import Derived.Test.YtpogfdeioibkdaaGreatDoorShelf
import Derived.Stop.LaidErr
namespace Go.Proofs.YtpogfdeioibkdaaGreatDoor.ptm
open Go.ChangeShapes Go.WideShapes Go.ChangeAt Go.RowKit
theorem ret_ib {a b : Int} {t u : Bool} (h : a = b) (h' : t = u) : Ending.returned (.tuple #[.int .i64 a, .bool t]) = .returned (.tuple #[.int .i64 b, .bool u]) := by rw [h, h']
/-- What the function answers. -/
def dv (l : List UInt8) : Int := if (∀ b ∈ l, isD b) then (num l : Int) else 0
def dok (l : List UInt8) : Bool := decide (∀ b ∈ l, isD b)


set_option maxHeartbeats 400000 in
theorem value16 (l : List UInt8) (w : World) (h0 : 1 ≤ l.length) (h1 : l.length ≤ 16) : Calls Tryz.prog 78 #[.string ⟨l.toArray⟩] w fun e w' => e = .returned (.tuple #[.int .i64 (dv l), .bool (dok l)]) ∧ w = w' := by
  have t1 : decide ((l.length : Int) < 1) = false := by simp; omega
  have t2 : decide ((16 : Int) < (l.length : Int)) = false := by simp; omega
  go_enter Tryz.func78, Tryz.ntmps78
  go_wp2_with fail
  go_loop [4, 16] (fun a b => ∃ i : Nat, i ≤ l.length ∧ a = .int .i64 (num (l.take i)) ∧ b = .int .i64 i ∧ (∀ b ∈ l.take i, isD b) ∧ num (l.take i) < 10 ^ i) (fun _ b => 20 - (intOf b).toNat)
  case atStart => exact ⟨0, by omega, rfl, rfl, by simp, by simp [num]⟩
  case round =>
    obtain ⟨i, hi, rfl, rfl, hall, hb⟩ := hrel
    have ALL := Lib.hid hall
    have hb2 : 10 ^ i ≤ 10 ^ 16 := Nat.pow_le_pow_right (by omega) (by omega)
    clear hall
    by_cases hlt : i < l.length
    · have d1 : decide ((i : Int) < (l.length : Int)) = true := by simp; omega
      have hs : i < (⟨l.toArray⟩ : ByteArray).size := hlt
      have hbe : (⟨l.toArray⟩ : ByteArray)[i] = l[i] := rfl
      have hm : l[i] ∈ l := List.getElem_mem hlt
      have hno : ¬ isD l[i] → dv l = 0 ∧ dok l = false := fun h => by
        have : ¬ ∀ b ∈ l, isD b := fun h' => h (h' _ hm)
        exact ⟨if_neg this, by simp only [dok]; exact decide_eq_false this⟩
      have htk : l.take (i + 1) = l.take i ++ [l[i]] := by rw [List.take_add_one]; simp [hlt]
      by_cases c1 : l[i].toNat < 48
      · have d2 : decide ((((⟨l.toArray⟩ : ByteArray)[i]).toNat : Int) < 48) = true := by rw [hbe]; simp; omega
        have NO := Lib.hid (hno (fun h => by have := h.1; omega))
        clear hno htk hm
        go_wp2
        go_ret2
        exact ⟨ret_ib NO.out.1.symm NO.out.2.symm, rfl⟩
      · have d2 : decide ((((⟨l.toArray⟩ : ByteArray)[i]).toNat : Int) < 48) = false := by rw [hbe]; simp; omega
        by_cases c2 : 57 < l[i].toNat
        · have d3 : decide ((57 : Int) < (((⟨l.toArray⟩ : ByteArray)[i]).toNat : Int)) = true := by rw [hbe]; simp; omega
          have NO := Lib.hid (hno (fun h => by have := h.2; omega))
          clear hno htk hm
          go_wp2
          go_ret2
          exact ⟨ret_ib NO.out.1.symm NO.out.2.symm, rfl⟩
        · have d3 : decide ((57 : Int) < (((⟨l.toArray⟩ : ByteArray)[i]).toNat : Int)) = false := by rw [hbe]; simp; omega
          have e1 : 48 ≤ (((⟨l.toArray⟩ : ByteArray)[i]).toNat : Int) := by rw [hbe]; omega
          have e2 : (((⟨l.toArray⟩ : ByteArray)[i]).toNat : Int) ≤ 57 := by rw [hbe]; omega
          have TK := Lib.hid htk
          clear hno htk hm
          go_wp2
          go_round
          case rel =>
            refine ⟨i + 1, by omega, ?_, by go_num, ?_, ?_⟩
            · rw [TK.out, num_snoc]; go_num
            · rw [TK.out]; intro b hb; rcases List.mem_append.1 hb with hb | hb
              · exact ALL.out b hb
              · rw [List.mem_singleton.1 hb]; exact ⟨by omega, by omega⟩
            · rw [TK.out, num_snoc, Nat.pow_succ]; omega
          case measure => simp [intOf]; omega
    · have d1 : decide ((i : Int) < (l.length : Int)) = false := by simp; omega
      have he : l.take i = l := List.take_of_length_le (by omega)
      rw [he] at ALL hb ⊢
      have YE := Lib.hid (show dv l = (num l : Int) ∧ dok l = true from ⟨if_pos ALL.out, by simp only [dok]; exact decide_eq_true ALL.out⟩)
      clear he
      go_wp2
      go_ret2
      exact ⟨ret_ib YE.out.1.symm YE.out.2.symm, rfl⟩
theorem value_no (l : List UInt8) (w : World) (h : l.length = 0 ∨ 16 < l.length) (hz : l.length ≤ 4194304) : Calls Tryz.prog 78 #[.string ⟨l.toArray⟩] w fun e w' => e = .returned (.tuple #[.int .i64 0, .bool false]) ∧ w = w' := by
  by_cases h1 : l.length = 0
  · have t1 : decide ((l.length : Int) < 1) = true := decide_eq_true (by omega)
    clear h
    go_enter Tryz.func78, Tryz.ntmps78
    go_wp2
    go_ret2
    exact ⟨rfl, rfl⟩
  · have t1 : decide ((l.length : Int) < 1) = false := decide_eq_false (by omega)
    have t2 : decide ((16 : Int) < (l.length : Int)) = true := decide_eq_true (by omega)
    clear h
    go_enter Tryz.func78, Tryz.ntmps78
    go_wp2
    go_ret2
    exact ⟨rfl, rfl⟩
theorem value (l : List UInt8) (w : World) (hz : l.length ≤ 4194304) : Calls Tryz.prog 78 #[.string ⟨l.toArray⟩] w fun e w' => e = .returned (.tuple #[.int .i64 (valV l), .bool (okV l)]) ∧ w = w' := by
  unfold valV okV
  by_cases h : 1 ≤ l.length ∧ l.length ≤ 16
  · refine (value16 l w h.1 h.2).mono fun e w' q => ⟨?_, q.2⟩
    rw [q.1]
    unfold dv dok
    by_cases ha : ∀ b ∈ l, isD b
    · rw [if_pos ha, if_pos ⟨h.1, h.2, ha⟩, decide_eq_true ha, decide_eq_true (show _ ∧ _ from ⟨h.1, h.2, ha⟩)]
    · rw [if_neg ha, if_neg (fun q => ha q.2.2), decide_eq_false ha, decide_eq_false (fun q => ha q.2.2)]; rfl
  · refine (value_no l w (by omega) hz).mono fun e w' q => ⟨?_, q.2⟩
    rw [q.1, if_neg (fun q => h ⟨q.1, q.2.1⟩), decide_eq_false (fun q => h ⟨q.1, q.2.1⟩)]; rfl

def Pow (w : World) : Prop := Lib.TabIs Tryz.prog w "internal/strconv.uint64pow10" .u64 Lib.pow10Tab
theorem gPow : Tryz.prog.globalNamed "internal/strconv.uint64pow10" = some 2 := by kernel_rfl
theorem Pow.below {B : Nat} {w w' : World} (h : Pow w) (hb : Below B w w') (hB : 2 < B) : Pow w' := var?_below hb gPow hB h
theorem below_grow {w : World} {k : Nat} {os : Array Obj} : Below w.heap.size w (Go.Sort.grow (w.drewN k) os) := by
  refine ⟨rfl, rfl, rfl, ?_, fun i hi => ?_⟩
  · show w.heap.size ≤ (w.heap ++ os).size
    simp
  · show (w.heap ++ os)[i]? = _
    rw [Array.getElem?_append, if_pos hi]
theorem dn {B : Nat} {w w' : World} (h : Below B w w') (k : Nat) : Below B w (w'.drewN k) := ⟨h.os, h.tape, h.output, h.size, h.block⟩
theorem decI (n : Int) (h0 : -9223372036854775808 ≤ n) (h1 : n ≤ 9223372036854775807) (w : World) (c : Pow w) : Calls Tryz.prog 38 #[.int .i64 n] w fun e w' => e = .returned (.string ⟨(Lib.itoa n).toArray⟩) ∧ Below w.heap.size w w' := by
  have HP := Lib.hid c
  clear c
  go_enter Tryz.func38, Tryz.ntmps38
  go_wp2_with fail
  refine (Tryz.strconv_FormatInt_10 n h0 h1 w HP.out).mono ?_
  rintro e w1 ⟨rfl, j, os, hw⟩
  have B1 := Lib.hid (show Below w.heap.size w w1 from hw ▸ below_grow)
  clear hw
  go_wp2
  go_ret
  exact ⟨rfl, B1.out⟩
theorem trim_le (l : List UInt8) : (Lib.trimPrefix l [45]).length ≤ l.length := by
  unfold Lib.trimPrefix; split <;> simp
theorem ret_v {a b : Value} (h : a = b) : Ending.returned a = .returned b := by rw [h]
theorem dv_no {l : List UInt8} (h : okV (dvB l) = false) : (Value.tuple #[.int .i64 0, .bool false]) = .tuple #[.int .i64 (dvN l), .bool (dvO l)] := by
  have : dvO l = false := by unfold dvO; rw [h]; rfl
  rw [this]; unfold dvN; rw [this]; rfl
theorem dv_ne {l : List UInt8} {x : Int} (hx : dvV l = x) (h : (Lib.itoa x == l) = false) : (Value.tuple #[.int .i64 0, .bool false]) = .tuple #[.int .i64 (dvN l), .bool (dvO l)] := by
  have : dvO l = false := by unfold dvO; rw [hx, h]; simp
  rw [this]; unfold dvN; rw [this]; rfl
theorem dv_yes {l : List UInt8} {x : Int} (ho : okV (dvB l) = true) (hx : dvV l = x) (h : (Lib.itoa x == l) = true) : (Value.tuple #[.int .i64 x, .bool true]) = .tuple #[.int .i64 (dvN l), .bool (dvO l)] := by
  have : dvO l = true := by unfold dvO; rw [hx, h, ho]; rfl
  rw [this]; unfold dvN; rw [if_pos this, hx]
set_option maxHeartbeats 1000000 in
theorem decV (l : List UInt8) (w : World) (hp : Pow w) (hz : l.length ≤ 1048576) : Calls Tryz.prog 52 #[.string ⟨l.toArray⟩] w fun e w' => e = .returned (.tuple #[.int .i64 (dvN l), .bool (dvO l)]) ∧ Below w.heap.size w w' := by
  have HP := Lib.hid hp
  have t1 := trim_le l
  have CP := Lib.hid ((Tryz.strings_CutPrefix ⟨l.toArray⟩ ⟨#[45]⟩ w).mono (fun _ _ q => (⟨q.1, q.2.symm⟩ : _ ∧ w = _)))
  clear hp
  go_enter Tryz.func52, Tryz.ntmps52
  go_wp2_with fail
  refine CP.out.mono ?_
  rintro e w' ⟨rfl, rfl⟩
  have VB := valV_lt (Lib.trimPrefix l [45])
  have VV := Lib.hid (value (Lib.trimPrefix l [45]) w (by omega))
  have SN := Lib.hid (fun (h : Lib.hasPrefix l [45] = true) => (show dvV l = -(valV (Lib.trimPrefix l [45]) : Int) from by unfold dvV; rw [if_pos h]; rfl))
  have SP := Lib.hid (fun (h : Lib.hasPrefix l [45] = false) => (show dvV l = (valV (Lib.trimPrefix l [45]) : Int) from by unfold dvV; rw [h]; rfl))
  have AN := Lib.hid (fun (h : okV (Lib.trimPrefix l [45]) = false) => dv_no (l := l) h)
  have AY := Lib.hid (fun x (a : okV (Lib.trimPrefix l [45]) = true) b c => dv_yes (x := x) (l := l) a b c)
  have AX := Lib.hid (fun x b c => dv_ne (x := x) (l := l) b c)
  have TI := Lib.hid (fun n h0 h1 => decI n h0 h1 w HP.out)
  generalize Lib.trimPrefix l [45] = D at VB VV SN SP AN AY t1 ⊢
  generalize valV D = v at VB VV SN SP
  go_wp2_with fail
  refine VV.out.mono ?_
  rintro e w'' ⟨rfl, rfl⟩
  cases ho : okV D with
  | false =>
    cases hn : Lib.hasPrefix l [45] with
    | false =>
      go_wp2
      go_ret2
      exact ⟨ret_v (AN.out ho), Below.refl _ _⟩
    | true =>
      go_wp2
      go_ret2
      exact ⟨ret_v (AN.out ho), Below.refl _ _⟩
  | true =>
    cases hn : Lib.hasPrefix l [45] with
    | false =>
      have sg := Lib.hid (SP.out hn)
      have TT := Lib.hid (TI.out (v : Int) (by omega) (by omega))
      go_wp2_with fail
      refine TT.out.mono ?_
      rintro e w2 ⟨rfl, b2⟩
      have B2 := Lib.hid b2
      clear b2
      cases hq : (Lib.itoa (v : Int) == l) with
      | true =>
        go_wp2
        go_ret2
        exact ⟨ret_v (AY.out _ ho sg.out hq), B2.out⟩
      | false =>
        go_wp2
        go_ret2
        exact ⟨ret_v (AX.out _ sg.out hq), B2.out⟩
    | true =>
      have sg := Lib.hid (SN.out hn)
      have TT := Lib.hid (TI.out (-(v : Int)) (by omega) (by omega))
      go_wp2_with fail
      refine TT.out.mono ?_
      rintro e w2 ⟨rfl, b2⟩
      have B2 := Lib.hid b2
      clear b2
      cases hq : (Lib.itoa (-(v : Int)) == l) with
      | true =>
        go_wp2
        go_ret2
        exact ⟨ret_v (AY.out _ ho sg.out hq), B2.out⟩
      | false =>
        go_wp2
        go_ret2
        exact ⟨ret_v (AX.out _ sg.out hq), B2.out⟩
end Go.Proofs.YtpogfdeioibkdaaGreatDoor.ptm
