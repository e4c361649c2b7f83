/-
  Plain helpers of this seat's proofs: the contract of math/bits.Div64. Conditions: none.
-/
import Derived.Test.YtchpjojndkkmeaaDoorDiv
namespace Go.Proofs.YtchpjojndkkmeaaDoor.div
open Go.ChangeShapes Go.WideShapes Go.ChangeAt Go.RowKit

theorem pow_cast (s : Nat) : ((2 ^ s : Nat) : Int) = (2 : Int) ^ s := by simp
theorem mulPow (a s : Nat) : (a : Int) * 2 ^ s = ((a * 2 ^ s : Nat) : Int) := by rw [Int.natCast_mul, pow_cast]
theorem divPow (a s : Nat) : (a : Int) / 2 ^ s = ((a / 2 ^ s : Nat) : Int) := by rw [Int.natCast_ediv, pow_cast]
theorem divNat (a b : Nat) : (a : Int) / (b : Int) = ((a / b : Nat) : Int) := (Int.natCast_ediv a b).symm
theorem mulB (a : Nat) : (a : Int) * 4294967296 = ((a * 4294967296 : Nat) : Int) := by omega
theorem wrapSub (a b c : Nat) (h : b + c = a) (hc : c < 18446744073709551616) : IntKind.u64.wrap (((a % 18446744073709551616 : Nat) : Int) - ((b % 18446744073709551616 : Nat) : Int)) = (c : Int) := by
  rw [IntKind.wrap_u64]; omega
theorem wrapAddM (a b : Nat) : IntKind.u64.wrap (((a % 18446744073709551616 : Nat) : Int) + (b : Int)) = (((a + b) % 18446744073709551616 : Nat) : Int) := by
  rw [IntKind.wrap_u64]; omega
theorem orAdd (a b s : Nat) (hb : b < 2 ^ s) : a * 2 ^ s ||| b = a * 2 ^ s + b := by
  rw [Nat.mul_comm]; exact (Nat.two_pow_add_eq_or_of_lt hb a).symm

theorem start_rel {y1 y0 Y n u : Nat} (hN : knuth.Norm y1 y0 Y n u) : LoopRel y1 n ((n * 4294967296 + u) / Y) (.int .u64 ((n / y1 : Nat) : Int)) (.int .u64 ((n - n / y1 * y1 : Nat) : Int)) := by
  have h0 : 0 < y1 := by have := hN.y1lo; omega
  have e := Nat.div_add_mod' n y1
  have m := Nat.mod_lt n h0
  have b := hN.y1hi
  have i := Nat.div_mul_le_self n y1
  exact ⟨_, _, rfl, rfl, Nat.sub_add_cancel i, hN.guess, hN.first, by omega⟩
theorem less_of {y1 y0 Y n u : Nat} (hN : knuth.Norm y1 y0 Y n u) : Less y1 y0 n u ((n * 4294967296 + u) / Y) := fun _ _ a b c => hN.less a b c
theorem broke_of {y1 y0 Y n u : Nat} (hN : knuth.Norm y1 y0 Y n u) : Broke y1 n ((n * 4294967296 + u) / Y) := fun _ _ a b c d => hN.broke a b c d
theorem done_of {y1 y0 Y n u : Nat} (hN : knuth.Norm y1 y0 Y n u) : Done y1 y0 n u ((n * 4294967296 + u) / Y) := fun _ _ a b c => hN.done a b c

theorem div64_hi (hi lo y : Nat) (w : World) (h1 : hi < y) (h2 : y < 18446744073709551616) (h3 : 0 < hi) (h4 : lo < 18446744073709551616) :
    Calls Tryd.prog 57 #[.int .u64 hi, .int .u64 lo, .int .u64 y] w fun e w' => e = .returned (.tuple #[.int .u64 (((hi * 18446744073709551616 + lo) / y : Nat) : Int), .int .u64 (((hi * 18446744073709551616 + lo) % y : Nat) : Int)]) ∧ w = w' := by
  obtain ⟨s, hs, hbl, hY1, hY2⟩ := knuth.norm_shift y (by omega) h2
  obtain ⟨sh1, sh2⟩ := knuth.shifted hi lo s (by omega)
  have hlo := sh2 h4
  have hp : 0 < 2 ^ s := Nat.two_pow_pos s
  have hlz : Calls Tryd.prog 72 #[.int .u64 (y : Int)] w fun e w' => e = .returned (.int .i64 (s : Int)) ∧ w = w' :=
    (Tryd.bits_LeadingZeros64 (y : Int) w (by omega) (by omega)).mono fun e w' ⟨a, b⟩ => ⟨by rw [a, Int.toNat_natCast, hbl, show (64 : Int) - ((64 - s : Nat) : Int) = (s : Int) from by omega], b.symm⟩
  have hhi : hi * 2 ^ s < 18446744073709551616 := Nat.lt_of_le_of_lt (Nat.mul_le_mul_right _ (Nat.le_of_lt h1)) hY2
  have hnY : hi * 2 ^ s + lo / 2 ^ (64 - s) < y * 2 ^ s := by
    have a : (hi + 1) * 2 ^ s ≤ y * 2 ^ s := Nat.mul_le_mul_right _ h1
    rw [Nat.add_mul] at a
    omega
  have eU : (hi * 18446744073709551616 + lo) * 2 ^ s = ((hi * 2 ^ s + lo / 2 ^ (64 - s)) * 4294967296 + (lo * 2 ^ s % 18446744073709551616) / 4294967296) * 4294967296 + (lo * 2 ^ s % 18446744073709551616) % 4294967296 := by
    rw [← sh1]; omega
  obtain ⟨Y, hYe⟩ : ∃ Y, Y = y * 2 ^ s := ⟨_, rfl⟩
  obtain ⟨n, hne⟩ : ∃ n, n = hi * 2 ^ s + lo / 2 ^ (64 - s) := ⟨_, rfl⟩
  obtain ⟨u10, hu10⟩ : ∃ u, u = lo * 2 ^ s % 18446744073709551616 := ⟨_, rfl⟩
  rw [← hne, ← hu10] at eU
  rw [← hYe] at hY1 hY2
  rw [← hne, ← hYe] at hnY
  have hu10b : u10 < 18446744073709551616 := by rw [hu10]; exact Nat.mod_lt _ (by decide)
  have hN : knuth.Norm (Y / 4294967296) (Y % 4294967296) Y n (u10 / 4294967296) := ⟨by omega, by omega, by omega, by omega, hnY, by omega⟩
  obtain ⟨L1, L2⟩ := hN.left hY2
  have hN2 : knuth.Norm (Y / 4294967296) (Y % 4294967296) Y ((n * 4294967296 + u10 / 4294967296) % Y) (u10 % 4294967296) := ⟨by omega, by omega, by omega, by omega, L1, by omega⟩
  obtain ⟨M1, M2⟩ := hN2.left hY2
  have q1 := hN.Qlt
  have q0 := hN2.Qlt
  obtain ⟨W1, W2⟩ := knuth.whole (hi * 18446744073709551616 + lo) y s Y (u10 / 4294967296) (u10 % 4294967296) n _ _ _ _ (by omega) hYe eU L2 M2 M1
  have st1 := start_rel hN
  have st2 := start_rel hN2
  have i1 := Nat.div_mul_le_self n (Y / 4294967296)
  have f1 := hN.first
  have f2 := hN2.first
  have le1 := less_of hN
  have br1 := broke_of hN
  have do1 := done_of hN
  have le2 := less_of hN2
  have br2 := broke_of hN2
  have do2 := done_of hN2
  obtain ⟨Q1, hQ1⟩ : ∃ Q, Q = (n * 4294967296 + u10 / 4294967296) / Y := ⟨_, rfl⟩
  obtain ⟨R1, hR1⟩ : ∃ R, R = (n * 4294967296 + u10 / 4294967296) % Y := ⟨_, rfl⟩
  rw [← hQ1, ← hR1] at L2
  rw [← hR1] at L1 hN2 M1 M2 st2 f2 le2 br2 do2 q0 W1 W2
  rw [← hQ1] at st1 le1 br1 do1 q1 W1
  have i2 := Nat.div_mul_le_self R1 (Y / 4294967296)
  obtain ⟨Q0, hQ0⟩ : ∃ Q, Q = (R1 * 4294967296 + u10 % 4294967296) / Y := ⟨_, rfl⟩
  obtain ⟨R0, hR0⟩ : ∃ R, R = (R1 * 4294967296 + u10 % 4294967296) % Y := ⟨_, rfl⟩
  rw [← hQ0, ← hR0] at M2
  rw [← hR0] at M1 W2
  rw [← hQ0] at st2 le2 br2 do2 q0 W1
  rw [← W1, ← W2]
  refine core hi lo y s Y (Y / 4294967296) (Y % 4294967296) n u10 (u10 / 4294967296) (u10 % 4294967296) (n / (Y / 4294967296)) (n / (Y / 4294967296) * (Y / 4294967296)) (n - n / (Y / 4294967296) * (Y / 4294967296)) Q1 (n * 4294967296 % 18446744073709551616) ((n * 4294967296 + u10 / 4294967296) % 18446744073709551616) (Q1 * Y % 18446744073709551616) R1
    (R1 / (Y / 4294967296)) (R1 / (Y / 4294967296) * (Y / 4294967296)) (R1 - R1 / (Y / 4294967296) * (Y / 4294967296)) Q0 (Q1 * 4294967296) (Q1 * 4294967296 + Q0) (R1 * 4294967296 % 18446744073709551616) ((R1 * 4294967296 + u10 % 4294967296) % 18446744073709551616) (Q0 * Y % 18446744073709551616) R0 (R0 / 2 ^ s)
    w h1 h3 hs hlz (by omega) (by omega) (by omega) (by omega) (by omega) ?_ ?_ ?_ ?_ ?_ ?_ ?_ ?_ ?_ ?_ st1 le1 br1 do1 ?_ ?_ ?_ ?_ ?_ ?_ ?_ st2 le2 br2 do2 ?_ ?_ ?_ ?_ ?_ ?_ ?_
  · rw [mulPow, ← hYe]; exact wrapN _ hY2
  · omega
  · exact maskN Y hY2
  · rw [mulPow, wrapN _ hhi, divPow, bits_or_u64_nat _ _ hhi (by omega), orAdd _ _ _ hlo, ← hne]
  · rw [mulPow, wrapM, ← hu10]
  · omega
  · exact maskN u10 hu10b
  · rw [divNat]; exact wrapN _ (by omega)
  · rw [mulN]; exact wrapN _ (by omega)
  · rw [IntKind.wrap_u64]; omega
  · rw [mulB, wrapM]
  · exact wrapAddM _ _
  · rw [mulN, wrapM]
  · exact wrapSub _ _ _ L2 (by omega)
  · rw [divNat]; exact wrapN _ (by omega)
  · rw [mulN]; exact wrapN _ (by omega)
  · rw [IntKind.wrap_u64]; omega
  · rw [mulB]; exact wrapN _ (by omega)
  · rw [addN]; exact wrapN _ (by omega)
  · rw [mulB, wrapM]
  · exact wrapAddM _ _
  · rw [mulN, wrapM]
  · exact wrapSub _ _ _ M2 (by omega)
  · exact divPow R0 s

set_option maxHeartbeats 400000 in
theorem div64_lo (lo y : Nat) (w : World) (h1 : 0 < y) (h2 : y < 18446744073709551616) (h4 : lo < 18446744073709551616) :
    Calls Tryd.prog 57 #[.int .u64 0, .int .u64 lo, .int .u64 y] w fun e w' => e = .returned (.tuple #[.int .u64 ((lo / y : Nat) : Int), .int .u64 ((lo % y : Nat) : Int)]) ∧ Below w.heap.size w w' := by
  have t1 : ((y : Int) == 0) = false := by simp; omega
  have t2 : decide ((y : Int) ≤ 0) = false := by simp; omega
  have r1 : IntKind.u64.wrap ((lo : Int) / (y : Int)) = ((lo / y : Nat) : Int) := by
    rw [divNat]; exact wrapN _ (Nat.lt_of_le_of_lt (Nat.div_le_self _ _) h4)
  have r2 : ((lo : Int) % (y : Int)) = ((lo % y : Nat) : Int) := (Int.natCast_emod lo y).symm
  clear h2 h4
  go_enter Tryd.func57, Tryd.ntmps57
  go_wp2
  go_quiet (fail)
  go_wp2
  go_ret2
  exact ⟨rfl, below_drewN (Below.refl _ _) _⟩
end Go.Proofs.YtchpjojndkkmeaaDoor.div
