/-
  Plain helpers of this seat's proofs: the contract of the model's MulDiv. Conditions: none.
-/
import Derived.Test.YtchpjojndkkmeaaDoorRows
import Derived.Test.YtchpjojndkkmeaaDoorLift
import Derived.Deep.QuietTactic
import Derived.BigQuiet
import Derived.Lib.MinMax
import Derived.Lib.Mul64
import Derived.Laws.Bits64b
namespace Go.Proofs.YtchpjojndkkmeaaDoor.md
open Go.ChangeShapes Go.WideShapes Go.ChangeAt Go.RowKit
theorem pow_cast (s : Nat) : ((2 ^ s : Nat) : Int) = (2 : Int) ^ s := by simp
theorem divPow (a s : Nat) : (a : Int) / 2 ^ s = ((a / 2 ^ s : Nat) : Int) := by rw [Int.natCast_ediv, pow_cast]
/-- A product by a divisor, rounded to the nearest number, ties to even. -/
def rq (n c : Nat) : Nat := if c < 2 * (n % c) ∨ (2 * (n % c) = c ∧ n / c % 2 = 1) then n / c + 1 else n / c
/-- The quotient is less than what is rounded. -/
theorem rq_ge (n c : Nat) : n / c ≤ rq n c := by unfold rq; split <;> omega
theorem rq_le (n c : Nat) : rq n c ≤ n / c + 1 := by unfold rq; split <;> omega
/-- One more digit of a long division. -/
theorem wide_step (x b c bit : Nat) (hc : 0 < c) : (2 * x + bit) * b / c = 2 * (x * b / c) + (2 * (x * b % c) + bit * b) / c ∧ (2 * x + bit) * b % c = (2 * (x * b % c) + bit * b) % c := by
  have e := Nat.div_add_mod (x * b) c
  have k : (2 * x + bit) * b = (2 * (x * b % c) + bit * b) + c * (2 * (x * b / c)) := by
    have h1 : (2 * x + bit) * b = 2 * (x * b) + bit * b := by rw [Nat.add_mul, Nat.mul_assoc]
    have h2 : c * (2 * (x * b / c)) = 2 * (c * (x * b / c)) := by rw [← Nat.mul_assoc, Nat.mul_comm c 2, Nat.mul_assoc]
    rw [h1, h2]; omega
  rw [k]
  constructor
  · rw [Nat.add_mul_div_left _ _ hc]; omega
  · rw [Nat.add_mul_mod_self_left]
theorem half (a k : Nat) : a / 2 ^ k = 2 * (a / 2 ^ (k + 1)) + a / 2 ^ k % 2 := by
  rw [Nat.pow_succ, ← Nat.div_div_eq_div_mul]; omega
theorem top (a : Nat) (h : a ≤ 1000000000000) : a / 2 ^ 41 = 0 := Nat.div_eq_of_lt (by omega)
theorem div_mono (a b c k : Nat) : a / 2 ^ k * b / c ≤ a * b / c := Nat.div_le_div_right (Nat.mul_le_mul_right _ (Nat.div_le_self _ _))
/-- What is rounded is monotone. -/
theorem rq_mono (n m c : Nat) (h : n ≤ m) : rq n c ≤ rq m c := by
  have h1 : n / c ≤ m / c := Nat.div_le_div_right h
  rcases Nat.lt_or_ge (n / c) (m / c) with hl | hg
  · have := rq_le n c; have := rq_ge m c; omega
  · have he : n / c = m / c := by omega
    have e1 := Nat.div_add_mod n c
    have e2 := Nat.div_add_mod m c
    rw [he] at e1
    unfold rq
    rw [he]
    split <;> split <;> omega
theorem rq_one (n : Nat) : rq n 1 = n := by unfold rq; simp [Nat.mod_one]
theorem rq_self (n c : Nat) (hc : 0 < c) : rq (n * c) c = n := by
  unfold rq
  rw [Nat.mul_mod_left, Nat.mul_div_cancel _ hc, if_neg (by omega)]
/-- What is rounded differs by at most half of the divisor, and is even for ties. -/
theorem rq_near (n c : Nat) (hc : 0 < c) :
    (rq n c * c ≤ n ∧ (2 * (n - rq n c * c) < c ∨ 2 * (n - rq n c * c) = c ∧ rq n c % 2 = 0)) ∨
    (n ≤ rq n c * c ∧ (2 * (rq n c * c - n) < c ∨ 2 * (rq n c * c - n) = c ∧ rq n c % 2 = 0)) := by
  have e := Nat.div_add_mod n c
  have m := Nat.mod_lt n hc
  rw [Nat.mul_comm] at e
  unfold rq
  split
  · right
    rw [Nat.add_mul, Nat.one_mul]
    generalize n / c * c = p at *
    omega
  · left
    generalize n / c * c = p at *
    omega
theorem inT (n a b : Int) (w : World) (h1 : a ≤ n) (h2 : n ≤ b) : Calls Tryd.prog 22 #[.int .i64 n, .int .i64 a, .int .i64 b] w fun e w' => e = .returned (.bool true) ∧ w = w' := by
  have t1 : decide (a ≤ n) = true := by simp; omega
  have t2 : decide (n ≤ b) = true := by simp; omega
  clear h1 h2
  go_enter Tryd.func22, Tryd.ntmps22
  go_wp2
  go_ret
  exact ⟨rfl, rfl⟩
theorem inF (n a b : Int) (w : World) (h : n < a ∨ b < n) : Calls Tryd.prog 22 #[.int .i64 n, .int .i64 a, .int .i64 b] w fun e w' => e = .returned (.bool false) ∧ w = w' := by
  by_cases h1 : n < a
  · have t1 : decide (a ≤ n) = false := by simp; omega
    clear h h1
    go_enter Tryd.func22, Tryd.ntmps22
    go_wp2
    go_ret
    exact ⟨rfl, rfl⟩
  · have t1 : decide (a ≤ n) = true := by simp; omega
    have t2 : decide (n ≤ b) = false := by simp; omega
    clear h h1
    go_enter Tryd.func22, Tryd.ntmps22
    go_wp2
    go_ret
    exact ⟨rfl, rfl⟩
theorem amtT (n : Int) (w : World) (h1 : -1000000000000 ≤ n) (h2 : n ≤ 1000000000000) : Calls Tryd.prog 43 #[.int .i64 n] w fun e w' => e = .returned (.bool true) ∧ w = w' := by
  go_enter Tryd.func43, Tryd.ntmps43
  go_wp2_with fail
  refine (inT n _ _ w h1 h2).mono ?_
  rintro e w' ⟨rfl, rfl⟩
  go_wp2
  go_ret
  exact ⟨rfl, rfl⟩
theorem amtF (n : Int) (w : World) (h : n < -1000000000000 ∨ 1000000000000 < n) : Calls Tryd.prog 43 #[.int .i64 n] w fun e w' => e = .returned (.bool false) ∧ w = w' := by
  have H := Lib.hid h
  clear h
  go_enter Tryd.func43, Tryd.ntmps43
  go_wp2_with fail
  refine (inF n _ _ w H.out).mono ?_
  rintro e w' ⟨rfl, rfl⟩
  go_wp2
  go_ret
  exact ⟨rfl, rfl⟩
theorem and_one (x : Nat) (h : x ≤ 1000000000000) : bits .and .i64 (x : Int) 1 = ((x % 2 : Nat) : Int) := by
  have h1 : (BitVec.ofInt 64 (x : Int)).toNat = x := by
    rw [BitVec.ofInt_natCast, BitVec.toNat_ofNat]; exact Nat.mod_eq_of_lt (by omega)
  have h2 : (BitVec.ofInt 64 1).toNat = 2 ^ 1 - 1 := by decide
  show IntKind.i64.wrap ((BitVec.ofInt 64 (x : Int) &&& BitVec.ofInt 64 1).toNat : Nat) = _
  rw [BitVec.toNat_and, h1, h2, Nat.and_two_pow_sub_one_eq_mod, IntKind.wrap_i64]
  omega
theorem shr_cast (a i : Nat) : (a : Int) / 2 ^ i = ((a / 2 ^ i : Nat) : Int) := divPow a i
structure WRel (a b c j Q R : Nat) : Prop where
  q : Q = a / 2 ^ j * b / c
  r : R = a / 2 ^ j * b % c
  small : Q ≤ 1000000000000
  less : R < c
set_option maxHeartbeats 4000000 in
theorem wide (P : Ending → World → Prop) (a b c : Nat) (w : World) (ha : a ≤ 1000000000000) (hb : b ≤ 1000000000000) (hc : 1 ≤ c) (hc2 : c ≤ 1000000000000)
    (hyes : a * b / c ≤ 1000000000000 → P (.returned (.tuple #[.int .i64 ((a * b / c : Nat) : Int), .int .i64 ((a * b % c : Nat) : Int), .bool true])) w)
    (hno : 1000000000000 < a * b / c → P (.returned (.tuple #[.int .i64 0, .int .i64 0, .bool false])) w) :
    Calls Tryd.prog 44 #[.int .i64 a, .int .i64 b, .int .i64 c] w P := by
  have HY := Lib.hid hyes
  have HN := Lib.hid hno
  clear hyes hno
  have c0 : ((c : Int) == 0) = false := by simp; omega
  go_enter Tryd.func44, Tryd.ntmps44
  go_wp2
  go_loop [9, 10, 11] (fun q r k => ∃ j Q R : Nat, j ≤ 41 ∧ k = .int .i64 ((j : Int) - 1) ∧ q = .int .i64 Q ∧ r = .int .i64 R ∧ WRel a b c j Q R) (fun _ _ k => (intOf k + 1).toNat)
  case atStart => exact ⟨41, 0, 0, by omega, by go_num, by go_num, by go_num, ⟨by rw [top a ha]; simp, by rw [top a ha]; simp, by omega, by omega⟩⟩
  case round =>
    obtain ⟨j, Q, R, hj, rfl, rfl, rfl, hR⟩ := hrel
    have small := hR.small
    have less := hR.less
    have RE := Lib.hid hR
    clear hR
    by_cases h0 : j = 0
    · subst h0
      go_wp2
      refine bodyPost_ret (v := .tuple #[.int .i64 Q, .int .i64 R, .bool true]) (by simp [results, Tryd.results44, go_sem]) rfl ?_
      have e1 := RE.out.q
      have e2 := RE.out.r
      simp only [Nat.pow_zero, Nat.div_one] at e1 e2
      rw [e1, e2]
      exact HY.out (by omega)
    · obtain ⟨i, rfl⟩ : ∃ i, j = i + 1 := ⟨j - 1, by omega⟩
      rw [show ((i + 1 : Nat) : Int) - 1 = (i : Int) from by omega]
      have hh := half a i
      have hx : a / 2 ^ i ≤ 1000000000000 := Nat.le_trans (Nat.div_le_self _ _) ha
      have hbit := and_one (a / 2 ^ i) hx
      rw [← shr_cast] at hbit
      clear hx
      rcases Nat.mod_two_eq_zero_or_one (a / 2 ^ i) with h2 | h2
      · have t1 : (bits .and .i64 ((a : Int) / 2 ^ i) 1 == 1) = false := by rw [hbit, h2]; rfl
        rw [h2] at hh
        clear h2
        have nb : (2 * R) / c ≤ 3000000000000 := Nat.le_trans (Nat.div_le_self _ _) (by omega)
        obtain ⟨D, hD⟩ : ∃ D, D = (2 * R) / c := ⟨_, rfl⟩
        obtain ⟨M, hM⟩ : ∃ M, M = (2 * R) % c := ⟨_, rfl⟩
        have eD : (2 * (R : Int)) / (c : Int) = (D : Int) := by rw [hD, Int.natCast_ediv]; congr 1
        have eM : (2 * (R : Int)) % (c : Int) = (M : Int) := by rw [hM, Int.natCast_emod]; congr 1
        rw [← hD] at nb
        have ST : Hid (2 * Q + D = a / 2 ^ i * b / c ∧ M = a / 2 ^ i * b % c ∧ M < c) := Lib.hid (by
          obtain ⟨s1, s2⟩ := wide_step (a / 2 ^ (i + 1)) b c 0 (by omega)
          rw [show 2 * (a / 2 ^ (i + 1)) + 0 = a / 2 ^ i by omega] at s1 s2
          rw [hD, hM, s1, s2, RE.out.q, RE.out.r]
          refine ⟨by simp, by simp, Nat.mod_lt _ (by omega)⟩)
        clear hD hM hbit hh
        by_cases hl : 2 * Q + D ≤ 1000000000000
        · go_wp2
          go_round
          case rel => exact ⟨i, 2 * Q + D, M, by omega, by go_num, by go_num, by go_num, ⟨ST.out.1, ST.out.2.1, hl, ST.out.2.2⟩⟩
          case measure => simp [intOf]
        · go_wp2
          refine bodyPost_ret (v := .tuple #[.int .i64 0, .int .i64 0, .bool false]) (by simp [results, Tryd.results44, go_sem]) rfl (HN.out ?_)
          have := div_mono a b c i
          have := ST.out.1
          omega
      · have t1 : (bits .and .i64 ((a : Int) / 2 ^ i) 1 == 1) = true := by rw [hbit, h2]; rfl
        rw [h2] at hh
        clear h2
        have nb : (2 * R + b) / c ≤ 3000000000000 := Nat.le_trans (Nat.div_le_self _ _) (by omega)
        obtain ⟨D, hD⟩ : ∃ D, D = (2 * R + b) / c := ⟨_, rfl⟩
        obtain ⟨M, hM⟩ : ∃ M, M = (2 * R + b) % c := ⟨_, rfl⟩
        have eD : (2 * (R : Int) + (b : Int)) / (c : Int) = (D : Int) := by rw [hD, Int.natCast_ediv]; congr 1
        have eM : (2 * (R : Int) + (b : Int)) % (c : Int) = (M : Int) := by rw [hM, Int.natCast_emod]; congr 1
        rw [← hD] at nb
        have ST : Hid (2 * Q + D = a / 2 ^ i * b / c ∧ M = a / 2 ^ i * b % c ∧ M < c) := Lib.hid (by
          obtain ⟨s1, s2⟩ := wide_step (a / 2 ^ (i + 1)) b c 1 (by omega)
          rw [show 2 * (a / 2 ^ (i + 1)) + 1 = a / 2 ^ i by omega] at s1 s2
          rw [hD, hM, s1, s2, RE.out.q, RE.out.r]
          refine ⟨by simp, by simp, Nat.mod_lt _ (by omega)⟩)
        clear hD hM hbit hh
        by_cases hl : 2 * Q + D ≤ 1000000000000
        · go_wp2
          go_round
          case rel => exact ⟨i, 2 * Q + D, M, by omega, by go_num, by go_num, by go_num, ⟨ST.out.1, ST.out.2.1, hl, ST.out.2.2⟩⟩
          case measure => simp [intOf]
        · go_wp2
          refine bodyPost_ret (v := .tuple #[.int .i64 0, .int .i64 0, .bool false]) (by simp [results, Tryd.results44, go_sem]) rfl (HN.out ?_)
          have := div_mono a b c i
          have := ST.out.1
          omega
theorem rq_up (n c : Nat) (h : c < 2 * (n % c) ∨ (2 * (n % c) = c ∧ n / c % 2 = 1)) : rq n c = n / c + 1 := by unfold rq; rw [if_pos h]
theorem rq_dn (n c : Nat) (h : ¬ (c < 2 * (n % c) ∨ (2 * (n % c) = c ∧ n / c % 2 = 1))) : rq n c = n / c := by unfold rq; rw [if_neg h]
theorem prod_le (a b : Nat) (ha : a ≤ 1000000000000) (hb : b ≤ 1000000000000) : a * b ≤ 1000000000000000000000000 := Nat.le_trans (Nat.mul_le_mul ha hb) (by decide)
/-- What MulDiv answers. -/
def ok (a b c : Int) : Bool := decide (-1000000000000 ≤ a ∧ a ≤ 1000000000000 ∧ 0 ≤ b ∧ b ≤ 1000000000000 ∧ 1 ≤ c ∧ c ≤ 1000000000000 ∧ rq (a.natAbs * b.toNat) c.toNat ≤ 1000000000000)
def val (a b c : Int) : Int := if ok a b c = true then (if a < 0 then -(rq (a.natAbs * b.toNat) c.toNat : Int) else (rq (a.natAbs * b.toNat) c.toNat : Int)) else 0
def Ans (a b c : Int) (w : World) (e : Ending) (w' : World) : Prop := e = .returned (.tuple #[.int .i64 (val a b c), .bool (ok a b c)]) ∧ Below w.heap.size w w'
theorem not_ok {a b c : Int} (h : ¬ (-1000000000000 ≤ a ∧ a ≤ 1000000000000 ∧ 0 ≤ b ∧ b ≤ 1000000000000 ∧ 1 ≤ c ∧ c ≤ 1000000000000 ∧ rq (a.natAbs * b.toNat) c.toNat ≤ 1000000000000)) {w w' : World} (hb : Below w.heap.size w w') :
    Ans a b c w (.returned (.tuple #[.int .i64 0, .bool false])) w' := by
  have e : ok a b c = false := by unfold ok; simp only [decide_eq_false_iff_not]; exact h
  unfold Ans val
  rw [e]
  exact ⟨rfl, hb⟩
theorem is_ok {a b c : Int} (h : -1000000000000 ≤ a ∧ a ≤ 1000000000000 ∧ 0 ≤ b ∧ b ≤ 1000000000000 ∧ 1 ≤ c ∧ c ≤ 1000000000000 ∧ rq (a.natAbs * b.toNat) c.toNat ≤ 1000000000000) {w w' : World} (hb : Below w.heap.size w w') {x : Int}
    (hx : x = if a < 0 then -(rq (a.natAbs * b.toNat) c.toNat : Int) else (rq (a.natAbs * b.toNat) c.toNat : Int)) : Ans a b c w (.returned (.tuple #[.int .i64 x, .bool true])) w' := by
  have e : ok a b c = true := by unfold ok; simp only [decide_eq_true_eq]; exact h
  unfold Ans val
  rw [e, if_pos rfl, ← hx]
  exact ⟨rfl, hb⟩
set_option maxHeartbeats 4000000 in
theorem spec_no (a b c : Int) (w : World) (h : ¬ (-1000000000000 ≤ a ∧ a ≤ 1000000000000 ∧ 0 ≤ b ∧ b ≤ 1000000000000 ∧ 1 ≤ c ∧ c ≤ 1000000000000)) : Calls Tryd.prog 23 #[.int .i64 a, .int .i64 b, .int .i64 c] w (Ans a b c w) := by
  have FIN := Lib.hid (not_ok (a := a) (b := b) (c := c) (fun x => h ⟨x.1, x.2.1, x.2.2.1, x.2.2.2.1, x.2.2.2.2.1, x.2.2.2.2.2.1⟩) (Below.refl w.heap.size w))
  by_cases h1 : a < -1000000000000 ∨ 1000000000000 < a
  · have H1 := Lib.hid h1
    clear h h1
    go_enter Tryd.func23, Tryd.ntmps23
    go_wp2_with fail
    refine (amtF a w H1.out).mono ?_
    rintro e w' ⟨rfl, rfl⟩
    go_wp2
    go_ret2
    exact FIN.out
  · have a1 : -1000000000000 ≤ a := by omega
    have a2 : a ≤ 1000000000000 := by omega
    by_cases h2 : b < 0 ∨ 1000000000000 < b
    · have H2 := Lib.hid h2
      clear h h1 h2
      go_enter Tryd.func23, Tryd.ntmps23
      go_wp2_with fail
      refine (amtT a w a1 a2).mono ?_
      rintro e w' ⟨rfl, rfl⟩
      go_wp2_with fail
      refine (inF b _ _ w H2.out).mono ?_
      rintro e w' ⟨rfl, rfl⟩
      go_wp2
      go_ret2
      exact FIN.out
    · have b1 : 0 ≤ b := by omega
      have b2 : b ≤ 1000000000000 := by omega
      have H3 := Lib.hid (show c < 1 ∨ 1000000000000 < c by omega)
      clear h h1 h2
      go_enter Tryd.func23, Tryd.ntmps23
      go_wp2_with fail
      refine (amtT a w a1 a2).mono ?_
      rintro e w' ⟨rfl, rfl⟩
      go_wp2_with fail
      refine (inT b _ _ w b1 b2).mono ?_
      rintro e w' ⟨rfl, rfl⟩
      go_wp2_with fail
      refine (inF c _ _ w H3.out).mono ?_
      rintro e w' ⟨rfl, rfl⟩
      go_wp2
      go_ret2
      exact FIN.out
set_option maxHeartbeats 4000000 in
theorem spec_yes (a : Int) (A b c : Nat) (w : World) (hA : a.natAbs = A) (ha : A ≤ 1000000000000) (hb : b ≤ 1000000000000) (hc : 1 ≤ c) (hc2 : c ≤ 1000000000000) : Calls Tryd.prog 23 #[.int .i64 a, .int .i64 b, .int .i64 c] w (Ans a b c w) := by
  have a1 : -1000000000000 ≤ a := by omega
  have a2 : a ≤ 1000000000000 := by omega
  have rm : max a (-a) = (A : Int) := by omega
  have ge := rq_ge (A * b) c
  have up := rq_up (A * b) c
  have dn := rq_dn (A * b) c
  have NO : Hid (1000000000000 < rq (A * b) c → Ans a b c w (.returned (.tuple #[.int .i64 0, .bool false])) w) := Lib.hid fun h => not_ok (by
    rw [hA]; simp only [Int.toNat_natCast]; omega) (Below.refl _ _)
  have YES : Hid (rq (A * b) c ≤ 1000000000000 → ∀ x : Int, x = (if a < 0 then -(rq (A * b) c : Int) else (rq (A * b) c : Int)) → Ans a b c w (.returned (.tuple #[.int .i64 x, .bool true])) w) := Lib.hid fun h x hx => is_ok (by
    rw [hA]; simp only [Int.toNat_natCast]; omega) (Below.refl _ _) (by rw [hA]; simpa only [Int.toNat_natCast] using hx)
  have lt : A * b % c < c := Nat.mod_lt _ hc
  clear hA
  have GE := Lib.hid ge
  have UP := Lib.hid up
  have DN := Lib.hid dn
  have LT := Lib.hid lt
  clear ge up dn lt
  go_enter Tryd.func23, Tryd.ntmps23
  go_wp2_with fail
  refine (amtT a w a1 a2).mono ?_
  rintro e w' ⟨rfl, rfl⟩
  go_wp2_with fail
  refine (inT b _ _ w (by omega) (by omega)).mono ?_
  rintro e w' ⟨rfl, rfl⟩
  go_wp2_with fail
  refine (inT c _ _ w (by omega) (by omega)).mono ?_
  rintro e w' ⟨rfl, rfl⟩
  go_wp2_with fail
  refine wide _ A b c w ha hb hc hc2 (fun hy => ?_) (fun hn => ?_)
  · generalize A * b / c = Q at *
    generalize A * b % c = R at *
    generalize rq (A * b) c = K at *
    have lt := LT.out
    rcases Nat.lt_trichotomy c (2 * R) with h | h | h
    · have t3 : decide ((c : Int) < 2 * (R : Int)) = true := by simp; omega
      have hk := UP.out (by omega)
      subst hk
      clear h
      by_cases hM : Q + 1 ≤ 1000000000000
      · have t5 : decide ((1000000000000 : Int) < (Q : Int) + 1) = false := by simp; omega
        have Y := Lib.hid (YES.out hM)
        by_cases hz : a < 0
        · rw [if_pos hz, show ((Q + 1 : Nat) : Int) = (Q : Int) + 1 from by omega] at Y
          go_wp2
          go_ret2
          exact Y.out _ rfl
        · rw [if_neg hz, show ((Q + 1 : Nat) : Int) = (Q : Int) + 1 from by omega] at Y
          go_wp2
          go_ret2
          exact Y.out _ rfl
      · have t5 : decide ((1000000000000 : Int) < (Q : Int) + 1) = true := by simp; omega
        have Y := Lib.hid (NO.out (by omega))
        go_wp2
        go_ret2
        exact Y.out
    · have t3 : decide ((c : Int) < 2 * (R : Int)) = false := by simp; omega
      have t4 : (2 * (R : Int) == (c : Int)) = true := by simp; omega
      rcases Nat.mod_two_eq_zero_or_one Q with h2 | h2
      · have t6 : ((Q : Int) % 2 == 1) = false := by simp; omega
        have hk := (DN.out (by omega)).symm
        subst hk
        clear h h2
        have Y := Lib.hid (YES.out hy)
        by_cases hz : a < 0
        · rw [if_pos hz] at Y
          go_wp2
          go_ret2
          exact Y.out _ rfl
        · rw [if_neg hz] at Y
          go_wp2
          go_ret2
          exact Y.out _ rfl
      · have t6 : ((Q : Int) % 2 == 1) = true := by simp; omega
        have hk := UP.out (by omega)
        subst hk
        clear h h2
        by_cases hM : Q + 1 ≤ 1000000000000
        · have t5 : decide ((1000000000000 : Int) < (Q : Int) + 1) = false := by simp; omega
          have Y := Lib.hid (YES.out hM)
          by_cases hz : a < 0
          · rw [if_pos hz, show ((Q + 1 : Nat) : Int) = (Q : Int) + 1 from by omega] at Y
            go_wp2
            go_ret2
            exact Y.out _ rfl
          · rw [if_neg hz, show ((Q + 1 : Nat) : Int) = (Q : Int) + 1 from by omega] at Y
            go_wp2
            go_ret2
            exact Y.out _ rfl
        · have t5 : decide ((1000000000000 : Int) < (Q : Int) + 1) = true := by simp; omega
          have Y := Lib.hid (NO.out (by omega))
          go_wp2
          go_ret2
          exact Y.out
    · have t3 : decide ((c : Int) < 2 * (R : Int)) = false := by simp; omega
      have t4 : (2 * (R : Int) == (c : Int)) = false := by simp; omega
      have hk := (DN.out (by omega)).symm
      subst hk
      clear h
      have Y := Lib.hid (YES.out hy)
      by_cases hz : a < 0
      · rw [if_pos hz] at Y
        go_wp2
        go_ret2
        exact Y.out _ rfl
      · rw [if_neg hz] at Y
        go_wp2
        go_ret2
        exact Y.out _ rfl
  · have Y := Lib.hid (NO.out (by have := GE.out; omega))
    clear hn
    go_wp2
    go_ret2
    exact Y.out
theorem spec (a b c : Int) (w : World) : Calls Tryd.prog 23 #[.int .i64 a, .int .i64 b, .int .i64 c] w (Ans a b c w) := by
  by_cases h : -1000000000000 ≤ a ∧ a ≤ 1000000000000 ∧ 0 ≤ b ∧ b ≤ 1000000000000 ∧ 1 ≤ c ∧ c ≤ 1000000000000
  · obtain ⟨B, rfl⟩ := Int.eq_ofNat_of_zero_le (show 0 ≤ b by omega)
    obtain ⟨C, rfl⟩ := Int.eq_ofNat_of_zero_le (show 0 ≤ c by omega)
    exact spec_yes a a.natAbs B C w rfl (by omega) (by omega) (by omega) (by omega)
  · exact spec_no a b c w h
end Go.Proofs.YtchpjojndkkmeaaDoor.md
