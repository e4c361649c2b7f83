/-
  Plain helpers of this seat's proofs: the contract of the landed MulDiv. Conditions: none.
-/
import Derived.Test.YtchpjojndkkmeaaDoorDiv
import Derived.Test.YtchpjojndkkmeaaDoorSmd
namespace Go.Proofs.YtchpjojndkkmeaaDoor.div
open Go.ChangeShapes Go.WideShapes Go.ChangeAt Go.RowKit

theorem pow_cast (s : Nat) : ((2 ^ s : Nat) : Int) = (2 : Int) ^ s := by simp
theorem mulPow (a s : Nat) : (a : Int) * 2 ^ s = ((a * 2 ^ s : Nat) : Int) := by rw [Int.natCast_mul, pow_cast]
theorem divPow (a s : Nat) : (a : Int) / 2 ^ s = ((a / 2 ^ s : Nat) : Int) := by rw [Int.natCast_ediv, pow_cast]
theorem divNat (a b : Nat) : (a : Int) / (b : Int) = ((a / b : Nat) : Int) := (Int.natCast_ediv a b).symm
theorem mulB (a : Nat) : (a : Int) * 4294967296 = ((a * 4294967296 : Nat) : Int) := by omega
theorem wrapSub (a b c : Nat) (h : b + c = a) (hc : c < 18446744073709551616) : IntKind.u64.wrap (((a % 18446744073709551616 : Nat) : Int) - ((b % 18446744073709551616 : Nat) : Int)) = (c : Int) := by
  rw [IntKind.wrap_u64]; omega
theorem wrapAddM (a b : Nat) : IntKind.u64.wrap (((a % 18446744073709551616 : Nat) : Int) + (b : Int)) = (((a + b) % 18446744073709551616 : Nat) : Int) := by
  rw [IntKind.wrap_u64]; omega
theorem orAdd (a b s : Nat) (hb : b < 2 ^ s) : a * 2 ^ s ||| b = a * 2 ^ s + b := by
  rw [Nat.mul_comm]; exact (Nat.two_pow_add_eq_or_of_lt hb a).symm

theorem start_rel {y1 y0 Y n u : Nat} (hN : knuth.Norm y1 y0 Y n u) : LoopRel y1 n ((n * 4294967296 + u) / Y) (.int .u64 ((n / y1 : Nat) : Int)) (.int .u64 ((n - n / y1 * y1 : Nat) : Int)) := by
  have h0 : 0 < y1 := by have := hN.y1lo; omega
  have e := Nat.div_add_mod' n y1
  have m := Nat.mod_lt n h0
  have b := hN.y1hi
  have i := Nat.div_mul_le_self n y1
  exact ⟨_, _, rfl, rfl, Nat.sub_add_cancel i, hN.guess, hN.first, by omega⟩
theorem less_of {y1 y0 Y n u : Nat} (hN : knuth.Norm y1 y0 Y n u) : Less y1 y0 n u ((n * 4294967296 + u) / Y) := fun _ _ a b c => hN.less a b c
theorem broke_of {y1 y0 Y n u : Nat} (hN : knuth.Norm y1 y0 Y n u) : Broke y1 n ((n * 4294967296 + u) / Y) := fun _ _ a b c d => hN.broke a b c d
theorem done_of {y1 y0 Y n u : Nat} (hN : knuth.Norm y1 y0 Y n u) : Done y1 y0 n u ((n * 4294967296 + u) / Y) := fun _ _ a b c => hN.done a b c

theorem div64_hi (hi lo y : Nat) (w : World) (h1 : hi < y) (h2 : y < 18446744073709551616) (h3 : 0 < hi) (h4 : lo < 18446744073709551616) :
    Calls Tryd.prog 57 #[.int .u64 hi, .int .u64 lo, .int .u64 y] w fun e w' => e = .returned (.tuple #[.int .u64 (((hi * 18446744073709551616 + lo) / y : Nat) : Int), .int .u64 (((hi * 18446744073709551616 + lo) % y : Nat) : Int)]) ∧ w = w' := by
  obtain ⟨s, hs, hbl, hY1, hY2⟩ := knuth.norm_shift y (by omega) h2
  obtain ⟨sh1, sh2⟩ := knuth.shifted hi lo s (by omega)
  have hlo := sh2 h4
  have hp : 0 < 2 ^ s := Nat.two_pow_pos s
  have hlz : Calls Tryd.prog 72 #[.int .u64 (y : Int)] w fun e w' => e = .returned (.int .i64 (s : Int)) ∧ w = w' :=
    (Tryd.bits_LeadingZeros64 (y : Int) w (by omega) (by omega)).mono fun e w' ⟨a, b⟩ => ⟨by rw [a, Int.toNat_natCast, hbl, show (64 : Int) - ((64 - s : Nat) : Int) = (s : Int) from by omega], b.symm⟩
  have hhi : hi * 2 ^ s < 18446744073709551616 := Nat.lt_of_le_of_lt (Nat.mul_le_mul_right _ (Nat.le_of_lt h1)) hY2
  have hnY : hi * 2 ^ s + lo / 2 ^ (64 - s) < y * 2 ^ s := by
    have a : (hi + 1) * 2 ^ s ≤ y * 2 ^ s := Nat.mul_le_mul_right _ h1
    rw [Nat.add_mul] at a
    omega
  have eU : (hi * 18446744073709551616 + lo) * 2 ^ s = ((hi * 2 ^ s + lo / 2 ^ (64 - s)) * 4294967296 + (lo * 2 ^ s % 18446744073709551616) / 4294967296) * 4294967296 + (lo * 2 ^ s % 18446744073709551616) % 4294967296 := by
    rw [← sh1]; omega
  obtain ⟨Y, hYe⟩ : ∃ Y, Y = y * 2 ^ s := ⟨_, rfl⟩
  obtain ⟨n, hne⟩ : ∃ n, n = hi * 2 ^ s + lo / 2 ^ (64 - s) := ⟨_, rfl⟩
  obtain ⟨u10, hu10⟩ : ∃ u, u = lo * 2 ^ s % 18446744073709551616 := ⟨_, rfl⟩
  rw [← hne, ← hu10] at eU
  rw [← hYe] at hY1 hY2
  rw [← hne, ← hYe] at hnY
  have hu10b : u10 < 18446744073709551616 := by rw [hu10]; exact Nat.mod_lt _ (by decide)
  have hN : knuth.Norm (Y / 4294967296) (Y % 4294967296) Y n (u10 / 4294967296) := ⟨by omega, by omega, by omega, by omega, hnY, by omega⟩
  obtain ⟨L1, L2⟩ := hN.left hY2
  have hN2 : knuth.Norm (Y / 4294967296) (Y % 4294967296) Y ((n * 4294967296 + u10 / 4294967296) % Y) (u10 % 4294967296) := ⟨by omega, by omega, by omega, by omega, L1, by omega⟩
  obtain ⟨M1, M2⟩ := hN2.left hY2
  have q1 := hN.Qlt
  have q0 := hN2.Qlt
  obtain ⟨W1, W2⟩ := knuth.whole (hi * 18446744073709551616 + lo) y s Y (u10 / 4294967296) (u10 % 4294967296) n _ _ _ _ (by omega) hYe eU L2 M2 M1
  have st1 := start_rel hN
  have st2 := start_rel hN2
  have i1 := Nat.div_mul_le_self n (Y / 4294967296)
  have f1 := hN.first
  have f2 := hN2.first
  have le1 := less_of hN
  have br1 := broke_of hN
  have do1 := done_of hN
  have le2 := less_of hN2
  have br2 := broke_of hN2
  have do2 := done_of hN2
  obtain ⟨Q1, hQ1⟩ : ∃ Q, Q = (n * 4294967296 + u10 / 4294967296) / Y := ⟨_, rfl⟩
  obtain ⟨R1, hR1⟩ : ∃ R, R = (n * 4294967296 + u10 / 4294967296) % Y := ⟨_, rfl⟩
  rw [← hQ1, ← hR1] at L2
  rw [← hR1] at L1 hN2 M1 M2 st2 f2 le2 br2 do2 q0 W1 W2
  rw [← hQ1] at st1 le1 br1 do1 q1 W1
  have i2 := Nat.div_mul_le_self R1 (Y / 4294967296)
  obtain ⟨Q0, hQ0⟩ : ∃ Q, Q = (R1 * 4294967296 + u10 % 4294967296) / Y := ⟨_, rfl⟩
  obtain ⟨R0, hR0⟩ : ∃ R, R = (R1 * 4294967296 + u10 % 4294967296) % Y := ⟨_, rfl⟩
  rw [← hQ0, ← hR0] at M2
  rw [← hR0] at M1 W2
  rw [← hQ0] at st2 le2 br2 do2 q0 W1
  rw [← W1, ← W2]
  refine core hi lo y s Y (Y / 4294967296) (Y % 4294967296) n u10 (u10 / 4294967296) (u10 % 4294967296) (n / (Y / 4294967296)) (n / (Y / 4294967296) * (Y / 4294967296)) (n - n / (Y / 4294967296) * (Y / 4294967296)) Q1 (n * 4294967296 % 18446744073709551616) ((n * 4294967296 + u10 / 4294967296) % 18446744073709551616) (Q1 * Y % 18446744073709551616) R1
    (R1 / (Y / 4294967296)) (R1 / (Y / 4294967296) * (Y / 4294967296)) (R1 - R1 / (Y / 4294967296) * (Y / 4294967296)) Q0 (Q1 * 4294967296) (Q1 * 4294967296 + Q0) (R1 * 4294967296 % 18446744073709551616) ((R1 * 4294967296 + u10 % 4294967296) % 18446744073709551616) (Q0 * Y % 18446744073709551616) R0 (R0 / 2 ^ s)
    w h1 h3 hs hlz (by omega) (by omega) (by omega) (by omega) (by omega) ?_ ?_ ?_ ?_ ?_ ?_ ?_ ?_ ?_ ?_ st1 le1 br1 do1 ?_ ?_ ?_ ?_ ?_ ?_ ?_ st2 le2 br2 do2 ?_ ?_ ?_ ?_ ?_ ?_ ?_
  · rw [mulPow, ← hYe]; exact wrapN _ hY2
  · omega
  · exact maskN Y hY2
  · rw [mulPow, wrapN _ hhi, divPow, bits_or_u64_nat _ _ hhi (by omega), orAdd _ _ _ hlo, ← hne]
  · rw [mulPow, wrapM, ← hu10]
  · omega
  · exact maskN u10 hu10b
  · rw [divNat]; exact wrapN _ (by omega)
  · rw [mulN]; exact wrapN _ (by omega)
  · rw [IntKind.wrap_u64]; omega
  · rw [mulB, wrapM]
  · exact wrapAddM _ _
  · rw [mulN, wrapM]
  · exact wrapSub _ _ _ L2 (by omega)
  · rw [divNat]; exact wrapN _ (by omega)
  · rw [mulN]; exact wrapN _ (by omega)
  · rw [IntKind.wrap_u64]; omega
  · rw [mulB]; exact wrapN _ (by omega)
  · rw [addN]; exact wrapN _ (by omega)
  · rw [mulB, wrapM]
  · exact wrapAddM _ _
  · rw [mulN, wrapM]
  · exact wrapSub _ _ _ M2 (by omega)
  · exact divPow R0 s

set_option maxHeartbeats 400000 in
theorem div64_lo (lo y : Nat) (w : World) (h1 : 0 < y) (h2 : y < 18446744073709551616) (h4 : lo < 18446744073709551616) :
    Calls Tryd.prog 57 #[.int .u64 0, .int .u64 lo, .int .u64 y] w fun e w' => e = .returned (.tuple #[.int .u64 ((lo / y : Nat) : Int), .int .u64 ((lo % y : Nat) : Int)]) ∧ Below w.heap.size w w' := by
  have t1 : ((y : Int) == 0) = false := by simp; omega
  have t2 : decide ((y : Int) ≤ 0) = false := by simp; omega
  have r1 : IntKind.u64.wrap ((lo : Int) / (y : Int)) = ((lo / y : Nat) : Int) := by
    rw [divNat]; exact wrapN _ (Nat.lt_of_le_of_lt (Nat.div_le_self _ _) h4)
  have r2 : ((lo : Int) % (y : Int)) = ((lo % y : Nat) : Int) := (Int.natCast_emod lo y).symm
  clear h2 h4
  go_enter Tryd.func57, Tryd.ntmps57
  go_wp2
  go_quiet (fail)
  go_wp2
  go_ret2
  exact ⟨rfl, below_drewN (Below.refl _ _) _⟩
end Go.Proofs.YtchpjojndkkmeaaDoor.div

namespace Go.Proofs.YtchpjojndkkmeaaDoor.md
open Go.ChangeShapes Go.WideShapes Go.ChangeAt Go.RowKit
theorem isT (n : Int) (w : World) (h1 : -1000000000000 ≤ n) (h2 : n ≤ 1000000000000) : Calls Tryd.prog 34 #[.int .i64 n] w fun e w' => e = .returned (.bool true) ∧ w = w' := by
  have t1 : decide (-1000000000000 ≤ n) = true := by simp; omega
  have t2 : decide (n ≤ 1000000000000) = true := by simp; omega
  clear h1 h2
  go_enter Tryd.func34, Tryd.ntmps34
  go_wp2
  go_ret
  exact ⟨rfl, rfl⟩
theorem isF (n : Int) (w : World) (h : n < -1000000000000 ∨ 1000000000000 < n) : Calls Tryd.prog 34 #[.int .i64 n] w fun e w' => e = .returned (.bool false) ∧ w = w' := by
  by_cases h1 : n < -1000000000000
  · have t1 : decide (-1000000000000 ≤ n) = false := by simp; omega
    clear h h1
    go_enter Tryd.func34, Tryd.ntmps34
    go_wp2
    go_ret
    exact ⟨rfl, rfl⟩
  · have t1 : decide (-1000000000000 ≤ n) = true := by simp; omega
    have t2 : decide (n ≤ 1000000000000) = false := by simp; omega
    clear h h1
    go_enter Tryd.func34, Tryd.ntmps34
    go_wp2
    go_ret
    exact ⟨rfl, rfl⟩
/-- The quotient has more than 64 bits. -/
theorem far (n c : Nat) (hc : 1 ≤ c) (h : c ≤ n / 18446744073709551616) : 1000000000000 < rq n c := by
  have h1 : c * 18446744073709551616 ≤ n := Nat.le_trans (Nat.mul_le_mul_right _ h) (Nat.div_mul_le_self _ _)
  have h2 : 18446744073709551616 ≤ n / c := (Nat.le_div_iff_mul_le hc).2 (by rw [Nat.mul_comm]; exact h1)
  have := rq_ge n c
  omega
/-- What follows the division. -/
structure Dv (n c Q R E : Nat) : Prop where
  q : Q = n / c
  r : R = n % c
  lt : R < c
  e : E + R = c
set_option maxHeartbeats 1000000 in
theorem rqv (P : Ending → World → Prop) (a b c : Nat) (w : World) (ha : a ≤ 1000000000000) (hb : b ≤ 1000000000000) (hc : 1 ≤ c) (hc2 : c ≤ 1000000000000)
    (hyes : rq (a * b) c ≤ 1000000000000 → ∀ w', Below w.heap.size w w' → P (.returned (.tuple #[.int .i64 (rq (a * b) c : Nat), .bool true])) w')
    (hno : 1000000000000 < rq (a * b) c → ∀ w', Below w.heap.size w w' → P (.returned (.tuple #[.int .i64 0, .bool false])) w') :
    Calls Tryd.prog 35 #[.int .u64 a, .int .u64 b, .int .u64 c] w P := by
  have HY := Lib.hid hyes
  have HN := Lib.hid hno
  have hp := prod_le a b ha hb
  clear hyes hno
  have M64 := Lib.hid (div.mul64 a b (by omega) (by omega) w)
  obtain ⟨n, hn⟩ : ∃ n, n = a * b := ⟨_, rfl⟩
  rw [← hn] at HY HN M64 hp
  have NE := Lib.hid hn
  clear hn
  obtain ⟨H, hH⟩ : ∃ H, H = n / 18446744073709551616 := ⟨_, rfl⟩
  obtain ⟨L, hL⟩ : ∃ L, L = n % 18446744073709551616 := ⟨_, rfl⟩
  rw [← hH, ← hL] at M64
  have hLl : L < 18446744073709551616 := by rw [hL]; exact Nat.mod_lt _ (by decide)
  have hHl : H ≤ 54211 := by omega
  have hHL : Hid (H * 18446744073709551616 + L = n) := Lib.hid (by omega)
  by_cases h1 : c ≤ H
  · have t1 : decide (c ≤ H) = true := by simp; omega
    have FR := Lib.hid (far n c hc (by omega))
    clear hH hL h1 hp
    go_enter Tryd.func35, Tryd.ntmps35
    go_wp2_with fail
    refine M64.out.mono ?_
    rintro e w' ⟨rfl, rfl⟩
    go_wp2
    exact HN.out FR.out _ (Below.refl _ _)
  · have t1 : decide (c ≤ H) = false := by simp; omega
    have DV : Hid (Calls Tryd.prog 57 #[.int .u64 H, .int .u64 L, .int .u64 c] w fun e w' => e = .returned (.tuple #[.int .u64 ((n / c : Nat) : Int), .int .u64 ((n % c : Nat) : Int)]) ∧ Below w.heap.size w w') := Lib.hid (by
      rcases Nat.eq_zero_or_pos H with h0 | h0
      · have := div.div64_lo L c w (by omega) (by omega) hLl
        have e : L = n := by have := hHL.out; omega
        rw [h0]
        rw [e] at this ⊢
        exact this
      · have := div.div64_hi H L c w (by omega) (by omega) h0 hLl
        rw [hHL.out] at this
        exact this.mono fun e w' ⟨x, y⟩ => ⟨x, y ▸ Below.refl _ _⟩)
    clear hH hL h1 hp hLl hHL
    obtain ⟨Q, hQ⟩ : ∃ Q, Q = n / c := ⟨_, rfl⟩
    obtain ⟨R, hR⟩ : ∃ R, R = n % c := ⟨_, rfl⟩
    have lt : R < c := by rw [hR]; exact Nat.mod_lt _ hc
    obtain ⟨E, hE⟩ : ∃ E, E + R = c := ⟨c - R, by omega⟩
    rw [← hQ, ← hR] at DV
    have up := rq_up n c
    have dn := rq_dn n c
    have ge := rq_ge n c
    rw [← hQ, ← hR] at up dn
    rw [← hQ] at ge
    have rE : IntKind.u64.wrap ((c : Int) - (R : Int)) = (E : Int) := by rw [IntKind.wrap_u64]; omega
    obtain ⟨K, hK⟩ : ∃ K, K = rq n c := ⟨_, rfl⟩
    rw [← hK] at HY HN up dn ge
    clear hQ hR hK
    go_enter Tryd.func35, Tryd.ntmps35
    go_wp2_with fail
    refine M64.out.mono ?_
    rintro e w' ⟨rfl, rfl⟩
    have UP := Lib.hid up
    have DN := Lib.hid dn
    have eE : E ≤ c := by omega
    have EE := Lib.hid hE
    clear up dn hE
    go_wp2_with fail
    refine DV.out.mono ?_
    rintro e w1 ⟨rfl, hb1⟩
    have B := Lib.hid hb1
    clear hb1
    by_cases hq : Q ≤ 1000000000000
    · have t2 : decide ((1000000000000 : Int) < (Q : Int)) = false := by simp; omega
      have he := EE.out
      rcases Nat.lt_trichotomy E R with h | h | h
      · have t3 : decide (E < R) = true := by simp; omega
        have hk := UP.out (by omega)
        subst hk
        clear he
        by_cases hM : Q + 1 ≤ 1000000000000
        · have t5 : decide ((1000000000000 : Int) < (Q : Int) + 1) = false := by simp; omega
          go_wp2
          have hy := HY.out hM _ B.out; rw [show ((Q + 1 : Nat) : Int) = (Q : Int) + 1 from by omega] at hy; exact hy
        · have t5 : decide ((1000000000000 : Int) < (Q : Int) + 1) = true := by simp; omega
          go_wp2
          exact HN.out (by omega) _ B.out
      · have t3 : decide (E < R) = false := by simp; omega
        have t4 : ((R : Int) == (E : Int)) = true := by simp; omega
        rcases Nat.mod_two_eq_zero_or_one Q with h2 | h2
        · have t6 : ((Q : Int) % 2 == 1) = false := by simp; omega
          have hk := (DN.out (by omega)).symm
          subst hk
          clear he h h2
          by_cases hM : Q ≤ 1000000000000
          · go_wp2
            exact HY.out hM _ B.out
          · omega

        · have t6 : ((Q : Int) % 2 == 1) = true := by simp; omega
          have hk := UP.out (by omega)
          subst hk
          clear he h h2
          by_cases hM : Q + 1 ≤ 1000000000000
          · have t5 : decide ((1000000000000 : Int) < (Q : Int) + 1) = false := by simp; omega
            go_wp2
            have hy := HY.out hM _ B.out; rw [show ((Q + 1 : Nat) : Int) = (Q : Int) + 1 from by omega] at hy; exact hy
          · have t5 : decide ((1000000000000 : Int) < (Q : Int) + 1) = true := by simp; omega
            go_wp2
            exact HN.out (by omega) _ B.out

      · have t3 : decide (E < R) = false := by simp; omega
        have t4 : ((R : Int) == (E : Int)) = false := by simp; omega
        have hk := (DN.out (by omega)).symm
        subst hk
        clear he
        by_cases hM : Q ≤ 1000000000000
        · go_wp2
          exact HY.out hM _ B.out
        · omega
    · have t2 : decide ((1000000000000 : Int) < (Q : Int)) = true := by simp; omega
      go_wp2
      exact HN.out (by omega) _ B.out
set_option maxHeartbeats 1000000 in
theorem impl_no (a b c : Int) (w : World) (h : ¬ (-1000000000000 ≤ a ∧ a ≤ 1000000000000 ∧ 0 ≤ b ∧ b ≤ 1000000000000 ∧ 1 ≤ c ∧ c ≤ 1000000000000)) : Calls Tryd.prog 14 #[.int .i64 a, .int .i64 b, .int .i64 c] w (Ans a b c w) := by
  have FIN := Lib.hid (not_ok (a := a) (b := b) (c := c) (fun x => h ⟨x.1, x.2.1, x.2.2.1, x.2.2.2.1, x.2.2.2.2.1, x.2.2.2.2.2.1⟩) (Below.refl w.heap.size w))
  by_cases h1 : a < -1000000000000 ∨ 1000000000000 < a
  · have H1 := Lib.hid h1
    clear h h1
    go_enter Tryd.func14, Tryd.ntmps14
    go_wp2_with fail
    refine (isF a w H1.out).mono ?_
    rintro e w' ⟨rfl, rfl⟩
    go_wp2
    go_ret2
    exact FIN.out
  · have a1 : -1000000000000 ≤ a := by omega
    have a2 : a ≤ 1000000000000 := by omega
    have t1 : decide (b < 0) = false ∨ decide (b < 0) = true := by simp; omega
    have t2 : decide (1000000000000 < b) = false ∨ decide (1000000000000 < b) = true := by simp; omega
    have t3 : decide (c < 1) = false ∨ decide (c < 1) = true := by simp; omega
    have t4 : decide (1000000000000 < c) = false ∨ decide (1000000000000 < c) = true := by simp; omega
    rcases t1 with t1 | t1 <;> rcases t2 with t2 | t2 <;> rcases t3 with t3 | t3 <;> rcases t4 with t4 | t4
    · exfalso; simp at t1 t2 t3 t4; omega
    all_goals
      clear h h1
      go_enter Tryd.func14, Tryd.ntmps14
      go_wp2_with fail
      refine (isT a w a1 a2).mono ?_
      rintro e w' ⟨rfl, rfl⟩
      go_wp2
      go_ret2
      exact FIN.out
set_option maxHeartbeats 1000000 in
theorem impl_yes (a : Int) (A b c : Nat) (w : World) (hA : a.natAbs = A) (ha : A ≤ 1000000000000) (hb : b ≤ 1000000000000) (hc : 1 ≤ c) (hc2 : c ≤ 1000000000000) : Calls Tryd.prog 14 #[.int .i64 a, .int .i64 b, .int .i64 c] w (Ans a b c w) := by
  have a1 : -1000000000000 ≤ a := by omega
  have a2 : a ≤ 1000000000000 := by omega
  have t1 : decide ((b : Int) < 0) = false := by simp
  have t2 : decide ((1000000000000 : Int) < (b : Int)) = false := by simp; omega
  have t3 : decide ((c : Int) < 1) = false := by simp; omega
  have t4 : decide ((1000000000000 : Int) < (c : Int)) = false := by simp; omega
  have rm : max a (-a) = (A : Int) := by omega
  have NO : Hid (1000000000000 < rq (A * b) c → ∀ w', Below w.heap.size w w' → Ans a b c w (.returned (.tuple #[.int .i64 0, .bool false])) w') := Lib.hid fun h w' hb' => not_ok (by
    rw [hA]; simp only [Int.toNat_natCast]; omega) hb'
  have YES : Hid (rq (A * b) c ≤ 1000000000000 → ∀ w', Below w.heap.size w w' → ∀ x : Int, x = (if a < 0 then -(rq (A * b) c : Int) else (rq (A * b) c : Int)) → Ans a b c w (.returned (.tuple #[.int .i64 x, .bool true])) w') := Lib.hid fun h w' hb' x hx => is_ok (by
    rw [hA]; simp only [Int.toNat_natCast]; omega) hb' (by rw [hA]; simpa only [Int.toNat_natCast] using hx)
  clear hA
  go_enter Tryd.func14, Tryd.ntmps14
  go_wp2_with fail
  refine (isT a w a1 a2).mono ?_
  rintro e w' ⟨rfl, rfl⟩
  go_wp2_with fail
  refine rqv _ A b c w ha hb hc hc2 (fun hy w1 b1 => ?_) (fun hn w1 b1 => ?_)
  · have Y := Lib.hid (YES.out hy w1 b1)
    clear b1 YES NO
    generalize rq (A * b) c = K at *
    by_cases hz : a < 0
    · rw [if_pos hz] at Y
      go_wp2
      go_ret2
      exact Y.out _ rfl
    · rw [if_neg hz] at Y
      go_wp2
      go_ret2
      exact Y.out _ rfl
  · have Y := Lib.hid (NO.out hn w1 b1)
    clear hn b1
    go_wp2
    go_ret2
    exact Y.out
theorem impl (a b c : Int) (w : World) : Calls Tryd.prog 14 #[.int .i64 a, .int .i64 b, .int .i64 c] w (Ans a b c w) := by
  by_cases h : -1000000000000 ≤ a ∧ a ≤ 1000000000000 ∧ 0 ≤ b ∧ b ≤ 1000000000000 ∧ 1 ≤ c ∧ c ≤ 1000000000000
  · obtain ⟨B, rfl⟩ := Int.eq_ofNat_of_zero_le (show 0 ≤ b by omega)
    obtain ⟨C, rfl⟩ := Int.eq_ofNat_of_zero_le (show 0 ≤ c by omega)
    exact impl_yes a a.natAbs B C w rfl (by omega) (by omega) (by omega) (by omega)
  · exact impl_no a b c w h
end Go.Proofs.YtchpjojndkkmeaaDoor.md
