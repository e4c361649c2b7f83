/-
  Plain mathematics under a division of two words by one: no program in sight. Conditions: none.
-/
import Derived.WalkKit
import Derived.Lib.BitFns
namespace Go.Proofs.YtchpjojndkkmeaaDoor.knuth

/-- The two words' base. -/
abbrev B : Nat := 4294967296

structure Norm (y1 y0 Y u v : Nat) : Prop where
  y1lo : 2147483648 ≤ y1
  y1hi : y1 < 4294967296
  y0hi : y0 < 4294967296
  eY : Y = y1 * 4294967296 + y0
  uY : u < Y
  vhi : v < 4294967296

variable {y1 y0 Y u v : Nat}

theorem Norm.Ypos (h : Norm y1 y0 Y u v) : 0 < Y := by have := h.eY; have := h.y1lo; omega
theorem Norm.Qlt (h : Norm y1 y0 Y u v) : (u * 4294967296 + v) / Y < 4294967296 := by
  rw [Nat.div_lt_iff_lt_mul h.Ypos]
  have a := h.uY
  have b := h.vhi
  have : (u + 1) * 4294967296 ≤ Y * 4294967296 := Nat.mul_le_mul_right _ a
  omega
theorem Norm.first (h : Norm y1 y0 Y u v) : u / y1 ≤ 4294967297 := by
  have hy : 0 < y1 := by have := h.y1lo; omega
  apply Nat.le_of_lt_succ
  rw [Nat.div_lt_iff_lt_mul hy]
  have := h.uY; have := h.eY; have := h.y0hi; have := h.y1lo
  omega
theorem Norm.guess (h : Norm y1 y0 Y u v) : (u * 4294967296 + v) / Y ≤ u / y1 := by
  have hy : 0 < y1 := by have := h.y1lo; omega
  rw [Nat.le_div_iff_mul_le hy]
  have e := Nat.div_mul_le_self (u * 4294967296 + v) Y
  generalize (u * 4294967296 + v) / Y = q at *
  have hq : q * (y1 * 4294967296) ≤ q * Y := Nat.mul_le_mul_left q (by rw [h.eY]; omega)
  have hq2 : q * (y1 * 4294967296) = q * y1 * 4294967296 := by rw [Nat.mul_assoc]
  have := h.vhi
  omega
theorem prod_eq (q : Nat) (e : Y = y1 * 4294967296 + y0) : q * Y = q * y1 * 4294967296 + q * y0 := by
  rw [e, Nat.mul_add, Nat.mul_assoc]
/-- The test says no: the guess is right. -/
theorem Norm.done (h : Norm y1 y0 Y u v) {q r : Nat} (inv : r + q * y1 = u) (hQ : (u * 4294967296 + v) / Y ≤ q) (t : q * y0 ≤ 4294967296 * r + v) : q = (u * 4294967296 + v) / Y := by
  apply Nat.le_antisymm _ hQ
  rw [Nat.le_div_iff_mul_le h.Ypos, prod_eq q h.eY]
  generalize q * y1 = a at *
  generalize q * y0 = b at *
  omega
/-- The test says yes: one less is still no less. -/
theorem Norm.less (h : Norm y1 y0 Y u v) {q r : Nat} (inv : r + q * y1 = u) (hQ : (u * 4294967296 + v) / Y ≤ q) (t : 4294967296 ≤ q ∨ 4294967296 * r + v < q * y0) : 1 ≤ q ∧ (u * 4294967296 + v) / Y ≤ q - 1 := by
  have hl := h.Qlt
  rcases t with t | t
  · omega
  · have hne : (u * 4294967296 + v) / Y ≠ q := by
      intro e
      have k := Nat.div_mul_le_self (u * 4294967296 + v) Y
      rw [e, prod_eq q h.eY] at k
      generalize q * y1 = a at *
      generalize q * y0 = b at *
      omega
    have : 1 ≤ q := by
      rcases Nat.eq_zero_or_pos q with rfl | p
      · omega
      · exact p
    omega
/-- The rest has grown past a word: the guess is right. -/
theorem Norm.broke (h : Norm y1 y0 Y u v) {q r : Nat} (inv : r + q * y1 = u) (hQ : (u * 4294967296 + v) / Y ≤ q) (hq : q ≤ 4294967296) (hr : 4294967296 ≤ r) : q = (u * 4294967296 + v) / Y := by
  refine h.done inv hQ ?_
  have : q * y0 ≤ 4294967296 * 4294967295 := Nat.mul_le_mul hq (by have := h.y0hi; omega)
  omega
theorem step_inv {q r : Nat} (inv : r + q * y1 = u) (hq : 1 ≤ q) : (r + y1) + (q - 1) * y1 = u := by
  obtain ⟨k, rfl⟩ : ∃ k, q = k + 1 := ⟨q - 1, by omega⟩
  rw [Nat.add_mul] at inv
  simp only [Nat.add_sub_cancel]
  omega
/-- What is left, by words of 64 bits. -/
theorem Norm.left (h : Norm y1 y0 Y u v) (hY : Y < 18446744073709551616) :
    (u * 4294967296 + v) % Y < Y ∧ ((u * 4294967296 + v) / Y) * Y + (u * 4294967296 + v) % Y = u * 4294967296 + v := by
  refine ⟨Nat.mod_lt _ h.Ypos, ?_⟩
  have := Nat.div_add_mod' (u * 4294967296 + v) Y
  have _ := hY
  exact this

/-- The whole division, scaled. -/
theorem whole (X y s Y u1 u0 n Q1 R1 Q0 R0 : Nat) (hy : 0 < y) (eY : Y = y * 2 ^ s) (eU : X * 2 ^ s = (n * 4294967296 + u1) * 4294967296 + u0)
    (e1 : Q1 * Y + R1 = n * 4294967296 + u1) (e0 : Q0 * Y + R0 = R1 * 4294967296 + u0) (hR : R0 < Y) : Q1 * 4294967296 + Q0 = X / y ∧ R0 / 2 ^ s = X % y := by
  have hp : 0 < 2 ^ s := Nat.two_pow_pos s
  have k : X * 2 ^ s = (Q1 * 4294967296 + Q0) * Y + R0 := by
    rw [eU, ← e1, Nat.add_mul, Nat.add_assoc, ← e0, Nat.add_mul, Nat.mul_right_comm]
    omega
  obtain ⟨q, hq⟩ : ∃ q, q = Q1 * 4294967296 + Q0 := ⟨_, rfl⟩
  rw [← hq] at k ⊢
  clear hq eU e1 e0
  rw [eY, ← Nat.mul_assoc] at k
  have hdvd : R0 = (X - q * y) * 2 ^ s := by
    rw [Nat.sub_mul]; omega
  have hle : q * y ≤ X := by
    apply Nat.le_of_mul_le_mul_right _ hp
    omega
  have hlt : X - q * y < y := by
    apply Nat.lt_of_mul_lt_mul_right (a := 2 ^ s)
    rw [← hdvd, ← eY]; exact hR
  have hX : X = (X - q * y) + y * q := by rw [Nat.mul_comm y q]; omega
  have hd : X / y = q := by
    rw [hX, Nat.add_mul_div_left _ _ hy, Nat.div_eq_of_lt hlt]; omega
  have hm : X % y = X - q * y := by
    have := Nat.div_add_mod X y
    rw [hd, Nat.mul_comm] at this; omega
  exact ⟨hd.symm, by rw [hm, hdvd, Nat.mul_div_cancel _ hp]⟩

/-- How far a number is shifted until its top bit is set. -/
theorem norm_shift (y : Nat) (h0 : 0 < y) (h : y < 18446744073709551616) : ∃ s : Nat, s ≤ 63 ∧ Lib.bitLen y = 64 - s ∧ 9223372036854775808 ≤ y * 2 ^ s ∧ y * 2 ^ s < 18446744073709551616 := by
  have key : ∀ (k x : Nat), 0 < x → x < 2 ^ (k + 1) → k ≤ 63 → ∃ l, 1 ≤ l ∧ l ≤ k + 1 ∧ Lib.bitLen x = l ∧ 2 ^ (l - 1) ≤ x ∧ x < 2 ^ l := by
    intro k
    induction k with
    | zero =>
      intro x h0 h _
      have : x = 1 := by omega
      subst this
      exact ⟨1, by omega, by omega, by decide, by decide, by decide⟩
    | succ k ih =>
      intro x h0 h hk
      by_cases c : x < 2 ^ (k + 1)
      · obtain ⟨l, a, b, r⟩ := ih x h0 c (by omega)
        exact ⟨l, a, by omega, r⟩
      · have hx64 : x < 2 ^ 64 := Nat.lt_of_lt_of_le h (Nat.pow_le_pow_right (by omega) (by omega))
        have hh := Lib.bitLen_half x (by omega) hx64
        have h2 : 2 ^ (k + 1) = 2 * 2 ^ k := by rw [Nat.pow_succ]; omega
        have h3 : 2 ^ (k + 2) = 2 * 2 ^ (k + 1) := by rw [Nat.pow_succ]; omega
        have hp : 0 < 2 ^ k := Nat.two_pow_pos k
        obtain ⟨l, a, b, e, lo, hi⟩ := ih (x / 2) (by omega) (by rw [Nat.div_lt_iff_lt_mul (by omega)]; rw [show k + 1 + 1 = k + 2 from rfl, h3] at h; omega) (by omega)
        refine ⟨l + 1, by omega, by omega, by rw [hh, e]; omega, ?_, ?_⟩
        · have : 2 ^ (l + 1 - 1) = 2 * 2 ^ (l - 1) := by
            rw [show l + 1 - 1 = (l - 1) + 1 from by omega, Nat.pow_succ]; omega
          rw [this]; omega
        · rw [Nat.pow_succ]; omega
  obtain ⟨l, a, b, e, lo, hi⟩ := key 63 y h0 h (by omega)
  refine ⟨64 - l, by omega, by rw [e]; omega, ?_, ?_⟩
  · have : 2 ^ (l - 1) * 2 ^ (64 - l) = 9223372036854775808 := by rw [← Nat.pow_add, show l - 1 + (64 - l) = 63 from by omega]
    rw [← this]; exact Nat.mul_le_mul_right _ lo
  · have : 2 ^ l * 2 ^ (64 - l) = 18446744073709551616 := by rw [← Nat.pow_add, show l + (64 - l) = 64 from by omega]
    rw [← this]; exact (Nat.mul_lt_mul_right (Nat.two_pow_pos _)).2 hi

/-- The shifted words. -/
theorem shifted (hi lo s : Nat) (hs : s ≤ 64) : (hi * 2 ^ s + lo / 2 ^ (64 - s)) * 18446744073709551616 + (lo * 2 ^ s) % 18446744073709551616 = (hi * 18446744073709551616 + lo) * 2 ^ s ∧ (lo < 18446744073709551616 → lo / 2 ^ (64 - s) < 2 ^ s) := by
  have e64 : 18446744073709551616 = 2 ^ (64 - s) * 2 ^ s := by rw [← Nat.pow_add, show 64 - s + s = 64 from by omega]
  have hp : 0 < 2 ^ s := Nat.two_pow_pos s
  refine ⟨?_, fun h => ?_⟩
  · have hd : lo * 2 ^ s / 18446744073709551616 = lo / 2 ^ (64 - s) := by rw [e64, Nat.mul_div_mul_right _ _ hp]
    have hm := Nat.div_add_mod' (lo * 2 ^ s) 18446744073709551616
    rw [hd] at hm
    rw [Nat.add_mul, Nat.add_mul, Nat.mul_right_comm hi (2 ^ s) 18446744073709551616]
    omega
  · rw [Nat.div_lt_iff_lt_mul (Nat.two_pow_pos _), Nat.mul_comm, ← e64]; exact h
end Go.Proofs.YtchpjojndkkmeaaDoor.knuth
