/-
  Plain helpers of this seat's proofs: contracts of the two MulDiv functions. Conditions: none.
-/
import Derived.Test.YtnkdjnfbllkgiabDiv2
namespace Go.Proofs.Ytnkdjnfbllkgiab.md
open Go.ChangeShapes Go.WideShapes Go.ChangeAt Go.RowKit

/-- A product by a divisor, rounded to the nearest number, ties to even. -/
def rq (n c : Nat) : Nat := if c < 2 * (n % c) ∨ (2 * (n % c) = c ∧ n / c % 2 = 1) then n / c + 1 else n / c

/-- The quotient is less than what is rounded. -/
theorem rq_ge (n c : Nat) : n / c ≤ rq n c := by unfold rq; split <;> omega
theorem rq_le (n c : Nat) : rq n c ≤ n / c + 1 := by unfold rq; split <;> omega

/-- One more digit of a long division. -/
theorem wide_step (x b c bit : Nat) (hc : 0 < c) : (2 * x + bit) * b / c = 2 * (x * b / c) + (2 * (x * b % c) + bit * b) / c ∧ (2 * x + bit) * b % c = (2 * (x * b % c) + bit * b) % c := by
  have e := Nat.div_add_mod (x * b) c
  have k : (2 * x + bit) * b = (2 * (x * b % c) + bit * b) + c * (2 * (x * b / c)) := by
    have h1 : (2 * x + bit) * b = 2 * (x * b) + bit * b := by rw [Nat.add_mul, Nat.mul_assoc]
    have h2 : c * (2 * (x * b / c)) = 2 * (c * (x * b / c)) := by rw [← Nat.mul_assoc, Nat.mul_comm c 2, Nat.mul_assoc]
    rw [h1, h2]; omega
  rw [k]
  constructor
  · rw [Nat.add_mul_div_left _ _ hc]; omega
  · rw [Nat.add_mul_mod_self_left]

theorem half (a k : Nat) : a / 2 ^ k = 2 * (a / 2 ^ (k + 1)) + a / 2 ^ k % 2 := by
  rw [Nat.pow_succ, ← Nat.div_div_eq_div_mul]; omega
theorem top (a : Nat) (h : a ≤ 1000000000000) : a / 2 ^ 41 = 0 := Nat.div_eq_of_lt (by omega)
theorem div_mono (a b c k : Nat) : a / 2 ^ k * b / c ≤ a * b / c := Nat.div_le_div_right (Nat.mul_le_mul_right _ (Nat.div_le_self _ _))

/-- What is rounded is monotone. -/
theorem rq_mono (n m c : Nat) (h : n ≤ m) : rq n c ≤ rq m c := by
  have h1 : n / c ≤ m / c := Nat.div_le_div_right h
  rcases Nat.lt_or_ge (n / c) (m / c) with hl | hg
  · have := rq_le n c; have := rq_ge m c; omega
  · have he : n / c = m / c := by omega
    have e1 := Nat.div_add_mod n c
    have e2 := Nat.div_add_mod m c
    rw [he] at e1
    unfold rq
    rw [he]
    split <;> split <;> omega
theorem rq_one (n : Nat) : rq n 1 = n := by unfold rq; simp [Nat.mod_one]
theorem rq_self (n c : Nat) (hc : 0 < c) : rq (n * c) c = n := by
  unfold rq
  rw [Nat.mul_mod_left, Nat.mul_div_cancel _ hc, if_neg (by omega)]
/-- What is rounded differs by at most half of the divisor, and is even for ties. -/
theorem rq_near (n c : Nat) (hc : 0 < c) :
    (rq n c * c ≤ n ∧ (2 * (n - rq n c * c) < c ∨ 2 * (n - rq n c * c) = c ∧ rq n c % 2 = 0)) ∨
    (n ≤ rq n c * c ∧ (2 * (rq n c * c - n) < c ∨ 2 * (rq n c * c - n) = c ∧ rq n c % 2 = 0)) := by
  have e := Nat.div_add_mod n c
  have m := Nat.mod_lt n hc
  rw [Nat.mul_comm] at e
  unfold rq
  split
  · right
    rw [Nat.add_mul, Nat.one_mul]
    generalize n / c * c = p at *
    omega
  · left
    generalize n / c * c = p at *
    omega

theorem inT (n a b : Int) (w : World) (h1 : a ≤ n) (h2 : n ≤ b) : Calls Try.prog 35 #[.int .i64 n, .int .i64 a, .int .i64 b] w fun e w' => e = .returned (.bool true) ∧ w = w' := by
  have t1 : decide (a ≤ n) = true := by simp; omega
  have t2 : decide (n ≤ b) = true := by simp; omega
  clear h1 h2
  go_enter Try.func35, Try.ntmps35
  go_wp2
  go_ret
  exact ⟨rfl, rfl⟩
theorem inF (n a b : Int) (w : World) (h : n < a ∨ b < n) : Calls Try.prog 35 #[.int .i64 n, .int .i64 a, .int .i64 b] w fun e w' => e = .returned (.bool false) ∧ w = w' := by
  by_cases h1 : n < a
  · have t1 : decide (a ≤ n) = false := by simp; omega
    clear h h1
    go_enter Try.func35, Try.ntmps35
    go_wp2
    go_ret
    exact ⟨rfl, rfl⟩
  · have t1 : decide (a ≤ n) = true := by simp; omega
    have t2 : decide (n ≤ b) = false := by simp; omega
    clear h h1
    go_enter Try.func35, Try.ntmps35
    go_wp2
    go_ret
    exact ⟨rfl, rfl⟩
theorem amtT (n : Int) (w : World) (h1 : -1000000000000 ≤ n) (h2 : n ≤ 1000000000000) : Calls Try.prog 42 #[.int .i64 n] w fun e w' => e = .returned (.bool true) ∧ w = w' := by
  go_enter Try.func42, Try.ntmps42
  go_wp2_with fail
  refine (inT n _ _ w h1 h2).mono ?_
  rintro e w' ⟨rfl, rfl⟩
  go_wp2
  go_ret
  exact ⟨rfl, rfl⟩
theorem amtF (n : Int) (w : World) (h : n < -1000000000000 ∨ 1000000000000 < n) : Calls Try.prog 42 #[.int .i64 n] w fun e w' => e = .returned (.bool false) ∧ w = w' := by
  have H := Lib.hid h
  clear h
  go_enter Try.func42, Try.ntmps42
  go_wp2_with fail
  refine (inF n _ _ w H.out).mono ?_
  rintro e w' ⟨rfl, rfl⟩
  go_wp2
  go_ret
  exact ⟨rfl, rfl⟩
theorem isT (n : Int) (w : World) (h1 : -1000000000000 ≤ n) (h2 : n ≤ 1000000000000) : Calls Try.prog 44 #[.int .i64 n] w fun e w' => e = .returned (.bool true) ∧ w = w' := by
  have t1 : decide (-1000000000000 ≤ n) = true := by simp; omega
  have t2 : decide (n ≤ 1000000000000) = true := by simp; omega
  clear h1 h2
  go_enter Try.func44, Try.ntmps44
  go_wp2
  go_ret
  exact ⟨rfl, rfl⟩
theorem isF (n : Int) (w : World) (h : n < -1000000000000 ∨ 1000000000000 < n) : Calls Try.prog 44 #[.int .i64 n] w fun e w' => e = .returned (.bool false) ∧ w = w' := by
  by_cases h1 : n < -1000000000000
  · have t1 : decide (-1000000000000 ≤ n) = false := by simp; omega
    clear h h1
    go_enter Try.func44, Try.ntmps44
    go_wp2
    go_ret
    exact ⟨rfl, rfl⟩
  · have t1 : decide (-1000000000000 ≤ n) = true := by simp; omega
    have t2 : decide (n ≤ 1000000000000) = false := by simp; omega
    clear h h1
    go_enter Try.func44, Try.ntmps44
    go_wp2
    go_ret
    exact ⟨rfl, rfl⟩

theorem and_one (x : Nat) (h : x ≤ 1000000000000) : bits .and .i64 (x : Int) 1 = ((x % 2 : Nat) : Int) := by
  have h1 : (BitVec.ofInt 64 (x : Int)).toNat = x := by
    rw [BitVec.ofInt_natCast, BitVec.toNat_ofNat]; exact Nat.mod_eq_of_lt (by omega)
  have h2 : (BitVec.ofInt 64 1).toNat = 2 ^ 1 - 1 := by decide
  show IntKind.i64.wrap ((BitVec.ofInt 64 (x : Int) &&& BitVec.ofInt 64 1).toNat : Nat) = _
  rw [BitVec.toNat_and, h1, h2, Nat.and_two_pow_sub_one_eq_mod, IntKind.wrap_i64]
  omega
theorem shr_cast (a i : Nat) : (a : Int) / 2 ^ i = ((a / 2 ^ i : Nat) : Int) := div.divPow a i

structure WRel (a b c j Q R : Nat) : Prop where
  q : Q = a / 2 ^ j * b / c
  r : R = a / 2 ^ j * b % c
  small : Q ≤ 1000000000000
  less : R < c

set_option maxHeartbeats 1000000 in
theorem wide (P : Ending → World → Prop) (a b c : Nat) (w : World) (ha : a ≤ 1000000000000) (hb : b ≤ 1000000000000) (hc : 1 ≤ c) (hc2 : c ≤ 1000000000000)
    (hyes : a * b / c ≤ 1000000000000 → P (.returned (.tuple #[.int .i64 ((a * b / c : Nat) : Int), .int .i64 ((a * b % c : Nat) : Int), .bool true])) w)
    (hno : 1000000000000 < a * b / c → P (.returned (.tuple #[.int .i64 0, .int .i64 0, .bool false])) w) :
    Calls Try.prog 55 #[.int .i64 a, .int .i64 b, .int .i64 c] w P := by
  have HY := Lib.hid hyes
  have HN := Lib.hid hno
  clear hyes hno
  have c0 : ((c : Int) == 0) = false := by simp; omega
  go_enter Try.func55, Try.ntmps55
  go_wp2
  go_loop [9, 10, 11] (fun q r k => ∃ j Q R : Nat, j ≤ 41 ∧ k = .int .i64 ((j : Int) - 1) ∧ q = .int .i64 Q ∧ r = .int .i64 R ∧ WRel a b c j Q R) (fun _ _ k => (intOf k + 1).toNat)
  case atStart => exact ⟨41, 0, 0, by omega, by go_num, by go_num, by go_num, ⟨by rw [top a ha]; simp, by rw [top a ha]; simp, by omega, by omega⟩⟩
  case round =>
    obtain ⟨j, Q, R, hj, rfl, rfl, rfl, hR⟩ := hrel
    have small := hR.small
    have less := hR.less
    have RE := Lib.hid hR
    clear hR
    by_cases h0 : j = 0
    · subst h0
      go_wp2
      refine bodyPost_ret (v := .tuple #[.int .i64 Q, .int .i64 R, .bool true]) (by simp [results, Try.results55, go_sem]) rfl ?_
      have e1 := RE.out.q
      have e2 := RE.out.r
      simp only [Nat.pow_zero, Nat.div_one] at e1 e2
      rw [e1, e2]
      exact HY.out (by omega)
    · obtain ⟨i, rfl⟩ : ∃ i, j = i + 1 := ⟨j - 1, by omega⟩
      rw [show ((i + 1 : Nat) : Int) - 1 = (i : Int) from by omega]
      have hh := half a i
      have hx : a / 2 ^ i ≤ 1000000000000 := Nat.le_trans (Nat.div_le_self _ _) ha
      have hbit := and_one (a / 2 ^ i) hx
      rw [← shr_cast] at hbit
      clear hx
      rcases Nat.mod_two_eq_zero_or_one (a / 2 ^ i) with h2 | h2
      · have t1 : (bits .and .i64 ((a : Int) / 2 ^ i) 1 == 1) = false := by rw [hbit, h2]; rfl
        rw [h2] at hh
        clear h2
        have nb : (2 * R) / c ≤ 3000000000000 := Nat.le_trans (Nat.div_le_self _ _) (by omega)
        obtain ⟨D, hD⟩ : ∃ D, D = (2 * R) / c := ⟨_, rfl⟩
        obtain ⟨M, hM⟩ : ∃ M, M = (2 * R) % c := ⟨_, rfl⟩
        have eD : (2 * (R : Int)) / (c : Int) = (D : Int) := by rw [hD, Int.natCast_ediv]; congr 1
        have eM : (2 * (R : Int)) % (c : Int) = (M : Int) := by rw [hM, Int.natCast_emod]; congr 1
        rw [← hD] at nb
        have ST : Hid (2 * Q + D = a / 2 ^ i * b / c ∧ M = a / 2 ^ i * b % c ∧ M < c) := Lib.hid (by
          obtain ⟨s1, s2⟩ := wide_step (a / 2 ^ (i + 1)) b c 0 (by omega)
          rw [show 2 * (a / 2 ^ (i + 1)) + 0 = a / 2 ^ i by omega] at s1 s2
          rw [hD, hM, s1, s2, RE.out.q, RE.out.r]
          refine ⟨by simp, by simp, Nat.mod_lt _ (by omega)⟩)
        clear hD hM hbit hh
        by_cases hl : 2 * Q + D ≤ 1000000000000
        · go_wp2
          go_round
          case rel => exact ⟨i, 2 * Q + D, M, by omega, by go_num, by go_num, by go_num, ⟨ST.out.1, ST.out.2.1, hl, ST.out.2.2⟩⟩
          case measure => simp [intOf]
        · go_wp2
          refine bodyPost_ret (v := .tuple #[.int .i64 0, .int .i64 0, .bool false]) (by simp [results, Try.results55, go_sem]) rfl (HN.out ?_)
          have := div_mono a b c i
          have := ST.out.1
          omega
      · have t1 : (bits .and .i64 ((a : Int) / 2 ^ i) 1 == 1) = true := by rw [hbit, h2]; rfl
        rw [h2] at hh
        clear h2
        have nb : (2 * R + b) / c ≤ 3000000000000 := Nat.le_trans (Nat.div_le_self _ _) (by omega)
        obtain ⟨D, hD⟩ : ∃ D, D = (2 * R + b) / c := ⟨_, rfl⟩
        obtain ⟨M, hM⟩ : ∃ M, M = (2 * R + b) % c := ⟨_, rfl⟩
        have eD : (2 * (R : Int) + (b : Int)) / (c : Int) = (D : Int) := by rw [hD, Int.natCast_ediv]; congr 1
        have eM : (2 * (R : Int) + (b : Int)) % (c : Int) = (M : Int) := by rw [hM, Int.natCast_emod]; congr 1
        rw [← hD] at nb
        have ST : Hid (2 * Q + D = a / 2 ^ i * b / c ∧ M = a / 2 ^ i * b % c ∧ M < c) := Lib.hid (by
          obtain ⟨s1, s2⟩ := wide_step (a / 2 ^ (i + 1)) b c 1 (by omega)
          rw [show 2 * (a / 2 ^ (i + 1)) + 1 = a / 2 ^ i by omega] at s1 s2
          rw [hD, hM, s1, s2, RE.out.q, RE.out.r]
          refine ⟨by simp, by simp, Nat.mod_lt _ (by omega)⟩)
        clear hD hM hbit hh
        by_cases hl : 2 * Q + D ≤ 1000000000000
        · go_wp2
          go_round
          case rel => exact ⟨i, 2 * Q + D, M, by omega, by go_num, by go_num, by go_num, ⟨ST.out.1, ST.out.2.1, hl, ST.out.2.2⟩⟩
          case measure => simp [intOf]
        · go_wp2
          refine bodyPost_ret (v := .tuple #[.int .i64 0, .int .i64 0, .bool false]) (by simp [results, Try.results55, go_sem]) rfl (HN.out ?_)
          have := div_mono a b c i
          have := ST.out.1
          omega
end Go.Proofs.Ytnkdjnfbllkgiab.md
