/-
  Plain helpers: the contract of the landed function that reads an amount. Conditions: none.
-/
import Derived.Test.YtlpeadkkkmpccaaDoorAmt3
import Derived.Test.YtlpeadkkkmpccaaDoorDigs
namespace Go.Proofs.YtlpeadkkkmpccaaDoor.ri
open Go.ChangeShapes Go.WideShapes Go.ChangeAt Go.RowKit

theorem value_no (l : List UInt8) (w : World) (h : l.length = 0 ∨ 16 < l.length) (hz : l.length ≤ 4194304) : Calls Tryd.prog 38 #[.string ⟨l.toArray⟩] w fun e w' => e = .returned (.tuple #[.int .i64 0, .bool false]) ∧ w = w' := by
  by_cases h1 : l.length = 0
  · have t1 : decide ((l.length : Int) < 1) = true := decide_eq_true (by omega)
    clear h
    go_enter Tryd.func38, Tryd.ntmps38
    go_wp2
    go_ret2
    exact ⟨rfl, rfl⟩
  · have t1 : decide ((l.length : Int) < 1) = false := decide_eq_false (by omega)
    have t2 : decide ((16 : Int) < (l.length : Int)) = true := decide_eq_true (by omega)
    clear h
    go_enter Tryd.func38, Tryd.ntmps38
    go_wp2
    go_ret2
    exact ⟨rfl, rfl⟩
/-- What the function answers, at every text. -/
def okV (l : List UInt8) : Bool := decide (1 ≤ l.length ∧ l.length ≤ 16 ∧ ∀ b ∈ l, digs.isD b)
def valV (l : List UInt8) : Nat := if 1 ≤ l.length ∧ l.length ≤ 16 ∧ ∀ b ∈ l, digs.isD b then digs.num l else 0
theorem fold_lt : ∀ (l : List UInt8) (n : Nat), (∀ b ∈ l, digs.isD b) → l.foldl (fun n b => 10 * n + (b.toNat - 48)) n < (n + 1) * 10 ^ l.length
  | [], n, _ => by simp
  | b :: l, n, h => by
    have h1 := fold_lt l (10 * n + (b.toNat - 48)) (fun x hx => h x (List.mem_cons_of_mem _ hx))
    have h2 := (h b (by simp)).2
    rw [List.foldl_cons, List.length_cons, Nat.pow_succ, Nat.mul_comm (10 ^ l.length) 10, ← Nat.mul_assoc]
    exact Nat.lt_of_lt_of_le h1 (Nat.mul_le_mul_right _ (by omega))
theorem num_lt (l : List UInt8) (h : ∀ b ∈ l, digs.isD b) : digs.num l < 10 ^ l.length := by
  have := fold_lt l 0 h
  simpa [digs.num] using this
theorem valV_lt (l : List UInt8) : valV l < 10000000000000000 := by
  unfold valV
  split
  · rename_i h
    exact Nat.lt_of_lt_of_le (num_lt l h.2.2) (Nat.pow_le_pow_right (by omega) h.2.1)
  · omega
theorem value (l : List UInt8) (w : World) (hz : l.length ≤ 4194304) : Calls Tryd.prog 38 #[.string ⟨l.toArray⟩] w fun e w' => e = .returned (.tuple #[.int .i64 (valV l), .bool (okV l)]) ∧ w = w' := by
  unfold valV okV
  by_cases h : 1 ≤ l.length ∧ l.length ≤ 16
  · refine (digs.value l w h.1 h.2).mono fun e w' q => ⟨?_, q.2⟩
    rw [q.1]
    unfold digs.dv digs.dok
    by_cases ha : ∀ b ∈ l, digs.isD b
    · rw [if_pos ha, if_pos ⟨h.1, h.2, ha⟩, decide_eq_true ha, decide_eq_true (show _ ∧ _ from ⟨h.1, h.2, ha⟩)]
    · rw [if_neg ha, if_neg (fun q => ha q.2.2), decide_eq_false ha, decide_eq_false (fun q => ha q.2.2)]; rfl
  · refine (value_no l w (by omega) hz).mono fun e w' q => ⟨?_, q.2⟩
    rw [q.1, if_neg (fun q => h ⟨q.1, q.2.1⟩), decide_eq_false (fun q => h ⟨q.1, q.2.1⟩)]; rfl

theorem impl_no (k : Int) (l : List UInt8) (w : World) (h : k < 0 ∨ 5 < k) : Calls Tryd.prog 22 #[.int .i64 k, .string ⟨l.toArray⟩] w fun e w' => e = .returned (.tuple #[.int .i64 0, .bool false]) ∧ w = w' := by
  by_cases h1 : k < 0
  · have t1 : decide (0 ≤ k) = false := by simp; omega
    clear h
    go_enter Tryd.func22, Tryd.ntmps22
    go_wp2
    go_ret2
    exact ⟨rfl, rfl⟩
  · have t1 : decide (0 ≤ k) = true := by simp; omega
    have t2 : decide (k < 6) = false := by simp; omega
    clear h
    go_enter Tryd.func22, Tryd.ntmps22
    go_wp2
    go_ret2
    exact ⟨rfl, rfl⟩

/-- The digits that the function reads. -/
def body (l : List UInt8) : List UInt8 := (Lib.cut (Lib.trimPrefix l [45]) [46]).1 ++ (Lib.cut (Lib.trimPrefix l [45]) [46]).2.1
def neg (l : List UInt8) : Bool := Lib.hasPrefix l [45]
def sgn (l : List UInt8) : Int := if neg l = true then -(valV (body l) : Int) else (valV (body l) : Int)
def ansI (k : Int) (l : List UInt8) : Value := if okV (body l) = true ∧ amt.atx k (sgn l) = l then .tuple #[.int .i64 (sgn l), .bool true] else .tuple #[.int .i64 0, .bool false]
theorem sgn_n {l : List UInt8} (h : neg l = true) : sgn l = -(valV (body l) : Int) := if_pos h
theorem sgn_p {l : List UInt8} (h : neg l = false) : sgn l = (valV (body l) : Int) := if_neg (by simp [h])
theorem body_eq (l : List UInt8) : body l = (Lib.cut (Lib.trimPrefix l [45]) [46]).1 ++ (Lib.cut (Lib.trimPrefix l [45]) [46]).2.1 := rfl
theorem ret_v {a b : Value} (h : a = b) : Ending.returned a = .returned b := by rw [h]
theorem ansI_no {k : Int} {l : List UInt8} (h : okV (body l) = false) : .tuple #[.int .i64 0, .bool false] = ansI k l := by
  unfold ansI; rw [if_neg (fun q => by simp [q.1] at h)]
theorem ansI_yes {k x : Int} {l : List UInt8} (hn : okV (body l) = true) (hx : sgn l = x) (h : (amt.atx k x == l) = true) : .tuple #[.int .i64 x, .bool true] = ansI k l := by
  unfold ansI; rw [hx, if_pos ⟨hn, by simpa using h⟩]
theorem ansI_ne {k x : Int} {l : List UInt8} (hx : sgn l = x) (h : (amt.atx k x == l) = false) : .tuple #[.int .i64 0, .bool false] = ansI k l := by
  unfold ansI; rw [hx, if_neg (fun q => by simp [q.2] at h)]
theorem trim_le (l : List UInt8) : (Lib.trimPrefix l [45]).length ≤ l.length := by
  unfold Lib.trimPrefix; split <;> simp
theorem cut_le (l : List UInt8) : (Lib.cut l [46]).1.length ≤ l.length ∧ (Lib.cut l [46]).2.1.length ≤ l.length := by
  unfold Lib.cut; split <;> simp <;> omega

set_option maxHeartbeats 1000000 in
theorem impl_in (k : Int) (l : List UInt8) (m : Int) (w : World) (c : base.Cur w) (hp : dec.Pow w) (hm : w.cell? ⟨1, 0, none⟩ = some (.int .i64 m)) (h0 : 0 ≤ k) (h5 : k ≤ 5) (hz : l.length ≤ 1048576) : Calls Tryd.prog 22 #[.int .i64 k, .string ⟨l.toArray⟩] w fun e w' => e = .returned (ansI k l) ∧ Below w.heap.size w w' := by
  have lt := c.lt
  have lt2 := amt.pow_lt hp
  have C := Lib.hid c
  have HP := Lib.hid hp
  have t1 := trim_le l
  have t2 := cut_le (Lib.trimPrefix l [45])
  have CP := Lib.hid ((Tryd.strings_CutPrefix ⟨l.toArray⟩ ⟨#[45]⟩ w).mono (fun _ _ q => (⟨q.1, q.2.symm⟩ : _ ∧ w = _)))
  have CT := Lib.hid (Tryd.strings_Cut ⟨(Lib.trimPrefix l [45]).toArray⟩ ⟨#[46]⟩ m w (by show (Lib.trimPrefix l [45]).length < _; omega) hm)
  clear c hp hm
  go_enter Tryd.func22, Tryd.ntmps22
  go_wp2_with fail
  refine (amt.isCur k w h0 h5).mono ?_
  rintro e w' ⟨rfl, rfl⟩
  go_wp2_with fail
  refine CP.out.mono ?_
  rintro e w' ⟨rfl, rfl⟩
  go_wp2_with fail
  refine CT.out.mono ?_
  rintro e w' ⟨rfl, nq, hw'⟩
  have B1 := Lib.hid (show Below w.heap.size w w' from hw' ▸ amt.dn (Below.refl _ _) nq)
  clear hw'
  have VB := valV_lt (body l)
  have BD := Lib.hid (body_eq l)
  have x1 : (Lib.cut (Lib.trimPrefix l [45]) [46]).1.length ≤ 1048576 := by omega
  have y1 : (Lib.cut (Lib.trimPrefix l [45]) [46]).2.1.length ≤ 1048576 := by omega
  have VV := Lib.hid (value (body l) w' (by rw [BD.out, List.length_append]; omega))
  have SN := Lib.hid (fun h => sgn_n (l := l) h)
  have SP := Lib.hid (fun h => sgn_p (l := l) h)
  have NG : neg l = Lib.hasPrefix l [45] := rfl
  have AN := Lib.hid (fun h => ansI_no (k := k) (l := l) h)
  have AY := Lib.hid (fun x a b c => ansI_yes (k := k) (x := x) (l := l) a b c)
  have AX := Lib.hid (fun x b c => ansI_ne (k := k) (x := x) (l := l) b c)
  have TI := Lib.hid (fun n => amt.impl k n w' (C.out.below B1.out lt) (HP.out.below B1.out lt2))
  rw [← NG]
  clear t1 t2 NG
  generalize (Lib.cut (Lib.trimPrefix l [45]) [46]) = ct at BD x1 y1 ⊢
  generalize valV (body l) = v at VB VV SN SP
  go_wp2_with fail
  rw [dec.cat, ← BD.out]
  refine VV.out.mono ?_
  rintro e w'' ⟨rfl, rfl⟩
  cases ho : okV (body l) with
  | false =>
    cases hn : neg l with
    | false =>
      go_wp2
      go_ret2
      exact ⟨ret_v (AN.out ho), B1.out⟩
    | true =>
      go_wp2
      go_ret2
      exact ⟨ret_v (AN.out ho), B1.out⟩
  | true =>
    cases hn : neg l with
    | false =>
      have sg := Lib.hid (SP.out hn)
      have TT := Lib.hid (TI.out (v : Int))
      go_wp2_with fail
      refine TT.out.mono ?_
      rintro e w2 ⟨rfl, b2⟩
      have B2 := Lib.hid (B1.out.trans (b2.mono B1.out.size))
      clear b2
      cases hq : (amt.atx k (v : Int) == l) with
      | true =>
        go_wp2
        go_ret2
        exact ⟨ret_v (AY.out _ ho sg.out hq), B2.out⟩
      | false =>
        go_wp2
        go_ret2
        exact ⟨ret_v (AX.out _ sg.out hq), B2.out⟩
    | true =>
      have sg := Lib.hid (SN.out hn)
      have TT := Lib.hid (TI.out (-(v : Int)))
      go_wp2_with fail
      refine TT.out.mono ?_
      rintro e w2 ⟨rfl, b2⟩
      have B2 := Lib.hid (B1.out.trans (b2.mono B1.out.size))
      clear b2
      cases hq : (amt.atx k (-(v : Int)) == l) with
      | true =>
        go_wp2
        go_ret2
        exact ⟨ret_v (AY.out _ ho sg.out hq), B2.out⟩
      | false =>
        go_wp2
        go_ret2
        exact ⟨ret_v (AX.out _ sg.out hq), B2.out⟩
end Go.Proofs.YtlpeadkkkmpccaaDoor.ri
