/-
  Plain helpers of this seat's proofs: contracts of math/bits functions. Conditions: none.
-/
import Derived.Test.YtchpjojndkkmeaaDoorRows
import Derived.Test.YtchpjojndkkmeaaDoorLift
import Derived.Test.YtchpjojndkkmeaaDoorShelf
import Derived.Test.YtchpjojndkkmeaaDoorKnuth
import Derived.Lib.Mul64
import Derived.Laws.Bits64b
import Derived.Deep.QuietTactic
import Derived.BigQuiet
namespace Go.Proofs.YtchpjojndkkmeaaDoor.div
open Go.ChangeShapes Go.WideShapes Go.ChangeAt Go.RowKit

theorem maskN (a : Nat) (ha : a < 18446744073709551616) : bits .and .u64 (a : Int) 4294967295 = ((a % 4294967296 : Nat) : Int) := by
  have h := bits_and_u64_nat a 4294967295 ha (by omega)
  have e : a &&& 4294967295 = a % 4294967296 := Nat.and_two_pow_sub_one_eq_mod a 32
  rw [e] at h
  exact h
theorem divN (a : Nat) : (a : Int) / 4294967296 = ((a / 4294967296 : Nat) : Int) := by omega
theorem mulN (a b : Nat) : (a : Int) * (b : Int) = ((a * b : Nat) : Int) := (Int.natCast_mul a b).symm
theorem addN (a b : Nat) : (a : Int) + (b : Int) = ((a + b : Nat) : Int) := (Int.natCast_add a b).symm
theorem wrapN (a : Nat) (ha : a < 18446744073709551616) : IntKind.u64.wrap (a : Int) = (a : Int) := by rw [IntKind.wrap_u64]; omega
theorem wrapM (a : Nat) : IntKind.u64.wrap (a : Int) = ((a % 18446744073709551616 : Nat) : Int) := by rw [IntKind.wrap_u64]; omega

set_option maxHeartbeats 1000000 in
theorem mul64 (x y : Nat) (hx : x < 18446744073709551616) (hy : y < 18446744073709551616) (w : World) :
    Calls Tryd.prog 56 #[.int .u64 x, .int .u64 y] w fun e w' => e = .returned (.tuple #[.int .u64 ((x * y / 18446744073709551616 : Nat) : Int), .int .u64 ((x * y % 18446744073709551616 : Nat) : Int)]) ∧ w = w' := by
  obtain ⟨bd, bt, bw, hhi⟩ := Lib.mul64_hi x y hx hy
  have ba := Lib.half_mul_le (a := x / 4294967296) (b := y / 4294967296) (by omega) (by omega)
  have bb := Lib.half_mul_le (a := x / 4294967296) (b := y % 4294967296) (by omega) (by omega)
  have bc := Lib.half_mul_le (a := x % 4294967296) (b := y / 4294967296) (by omega) (by omega)
  have ba' : x / 4294967296 * (y / 4294967296) < 18446744073709551616 := by omega
  have bb' : x / 4294967296 * (y % 4294967296) < 18446744073709551616 := by omega
  have bc' : x % 4294967296 * (y / 4294967296) < 18446744073709551616 := by omega
  have bh1 : x / 4294967296 * (y / 4294967296) + (x / 4294967296 * (y % 4294967296) + x % 4294967296 * (y % 4294967296) / 4294967296) / 4294967296 < 18446744073709551616 := by omega
  have bh : x / 4294967296 * (y / 4294967296) + (x / 4294967296 * (y % 4294967296) + x % 4294967296 * (y % 4294967296) / 4294967296) / 4294967296 + ((x / 4294967296 * (y % 4294967296) + x % 4294967296 * (y % 4294967296) / 4294967296) % 4294967296 + x % 4294967296 * (y / 4294967296)) / 4294967296 < 18446744073709551616 := by omega
  go_enter Tryd.func56, Tryd.ntmps56
  go_wp2
  simp only [maskN x hx, maskN y hy, divN, mulN, addN, wrapN _ bd, wrapN _ bb', wrapN _ bt, maskN _ bt, wrapN _ bc', wrapN _ bw, wrapN _ ba', wrapN _ bh1, wrapN _ bh, wrapM (x * y)]
  rw [hhi]
  go_ret2
  exact ⟨rfl, rfl⟩


/-- What a loop of the division keeps. -/
def LoopRel (y1 n Q : Nat) (a b : Value) : Prop := ∃ q r : Nat, a = .int .u64 q ∧ b = .int .u64 r ∧ r + q * y1 = n ∧ Q ≤ q ∧ q ≤ 4294967297 ∧ r < 4294967296
def Less (y1 y0 n u Q : Nat) : Prop := ∀ q r : Nat, r + q * y1 = n → Q ≤ q → (4294967296 ≤ q ∨ 4294967296 * r + u < q * y0) → 1 ≤ q ∧ Q ≤ q - 1
def Broke (y1 n Q : Nat) : Prop := ∀ q r : Nat, r + q * y1 = n → Q ≤ q → q ≤ 4294967296 → 4294967296 ≤ r → q = Q
def Done (y1 y0 n u Q : Nat) : Prop := ∀ q r : Nat, r + q * y1 = n → Q ≤ q → q * y0 ≤ 4294967296 * r + u → q = Q

set_option maxHeartbeats 8000000 in
set_option maxRecDepth 100000 in
theorem core (hi lo y s Y y1 y0 n u10 u1 u0 g gm gr Q1 a1 a2 a3 R1 g2 gm2 gr2 Q0 b1 res c1 c2 c3 R0 rem : Nat) (w : World) (h1 : hi < y) (h3 : 0 < hi) (hs : s ≤ 63)
    (hlz : Calls Tryd.prog 72 #[.int .u64 y] w fun e w' => e = .returned (.int .i64 s) ∧ w = w') (y1p : 0 < y1) (y1b : y1 < 4294967296) (y0h : y0 < 4294967296) (u1h : u1 < 4294967296) (u0h : u0 < 4294967296)
    (rY : IntKind.u64.wrap ((y : Int) * 2 ^ s) = (Y : Int)) (r1 : (Y : Int) / 4294967296 = (y1 : Int)) (r0 : bits .and .u64 (Y : Int) 4294967295 = (y0 : Int))
    (rn : bits .or .u64 (IntKind.u64.wrap ((hi : Int) * 2 ^ s)) ((lo : Int) / 2 ^ (64 - s)) = (n : Int)) (ru : IntKind.u64.wrap ((lo : Int) * 2 ^ s) = (u10 : Int)) (ru1 : (u10 : Int) / 4294967296 = (u1 : Int)) (ru0 : bits .and .u64 (u10 : Int) 4294967295 = (u0 : Int))
    (rg : IntKind.u64.wrap ((n : Int) / (y1 : Int)) = (g : Int)) (rm : IntKind.u64.wrap ((g : Int) * (y1 : Int)) = (gm : Int)) (rr : IntKind.u64.wrap ((n : Int) - (gm : Int)) = (gr : Int))
    (START : LoopRel y1 n Q1 (.int .u64 g) (.int .u64 gr)) (l1 : Less y1 y0 n u1 Q1) (k1 : Broke y1 n Q1) (e1 : Done y1 y0 n u1 Q1)
    (ra1 : IntKind.u64.wrap ((n : Int) * 4294967296) = (a1 : Int)) (ra2 : IntKind.u64.wrap ((a1 : Int) + (u1 : Int)) = (a2 : Int)) (ra3 : IntKind.u64.wrap ((Q1 : Int) * (Y : Int)) = (a3 : Int)) (ra4 : IntKind.u64.wrap ((a2 : Int) - (a3 : Int)) = (R1 : Int))
    (rg2 : IntKind.u64.wrap ((R1 : Int) / (y1 : Int)) = (g2 : Int)) (rm2 : IntKind.u64.wrap ((g2 : Int) * (y1 : Int)) = (gm2 : Int)) (rr2 : IntKind.u64.wrap ((R1 : Int) - (gm2 : Int)) = (gr2 : Int))
    (START2 : LoopRel y1 R1 Q0 (.int .u64 g2) (.int .u64 gr2)) (l2 : Less y1 y0 R1 u0 Q0) (k2 : Broke y1 R1 Q0) (e2 : Done y1 y0 R1 u0 Q0)
    (rb1 : IntKind.u64.wrap ((Q1 : Int) * 4294967296) = (b1 : Int)) (rb2 : IntKind.u64.wrap ((b1 : Int) + (Q0 : Int)) = (res : Int))
    (rc1 : IntKind.u64.wrap ((R1 : Int) * 4294967296) = (c1 : Int)) (rc2 : IntKind.u64.wrap ((c1 : Int) + (u0 : Int)) = (c2 : Int)) (rc3 : IntKind.u64.wrap ((Q0 : Int) * (Y : Int)) = (c3 : Int)) (rc4 : IntKind.u64.wrap ((c2 : Int) - (c3 : Int)) = (R0 : Int)) (rc5 : (R0 : Int) / 2 ^ s = (rem : Int)) :
    Calls Tryd.prog 57 #[.int .u64 hi, .int .u64 lo, .int .u64 y] w fun e w' => e = .returned (.tuple #[.int .u64 res, .int .u64 rem]) ∧ w = w' := by
  have HLZ := Lib.hid hlz
  have y1n : ((y1 : Int) == 0) = false := by simp; omega
  have LESS1 := Lib.hid l1
  have BROKE1 := Lib.hid k1
  have DONE1 := Lib.hid e1
  have LESS2 := Lib.hid l2
  have BROKE2 := Lib.hid k2
  have DONE2 := Lib.hid e2
  have ST := Lib.hid START
  have ST2 := Lib.hid START2
  have Y0H := Lib.hid y0h
  have VH1 := Lib.hid u1h
  have VH2 := Lib.hid u0h
  clear hlz l1 k1 e1 l2 k2 e2 START START2
  have t1 : ((y : Int) == 0) = false := by simp; omega
  have t2 : decide (y ≤ hi) = false := by simp; omega
  have t3 : ((hi : Int) == 0) = false := by simp; omega
  go_enter Tryd.func57, Tryd.ntmps57
  go_wp2_with fail
  refine HLZ.out.mono ?_
  rintro e w' ⟨rfl, rfl⟩
  go_wp2
  go_loop [15, 16] (fun a b => LoopRel y1 n Q1 a b) (fun a _ => (intOf a).toNat)
  case atStart => exact ST.out
  case round =>
    obtain ⟨q, r, rfl, rfl, inv, hQ, hq, hr⟩ := hrel
    have INV := Lib.hid inv
    clear inv
    by_cases hb : 4294967296 ≤ q
    · obtain ⟨k, rfl⟩ : ∃ k, q = k + 1 := ⟨q - 1, by omega⟩
      have d1 : decide ((4294967296 : Int) ≤ (k : Int) + 1) = true := by simp; omega
      have LS := Lib.hid (LESS1.out _ _ INV.out hQ (.inl hb))
      have SI := Lib.hid (knuth.step_inv INV.out LS.out.1)
      by_cases hc : 4294967296 ≤ r + y1
      · have d2 : decide ((4294967296 : Int) ≤ (r : Int) + (y1 : Int)) = true := by simp; omega
        have FIN : k = Q1 := BROKE1.out _ _ SI.out LS.out.2 (by omega) hc
        subst FIN
        go_wp2
        go_loop [18, 16] (fun a b => LoopRel y1 R1 Q0 a b) (fun a _ => (intOf a).toNat)
        case atStart => exact ST2.out
        case round =>
          obtain ⟨q, r, rfl, rfl, inv, hQ, hq, hr⟩ := hrel
          have INV := Lib.hid inv
          clear inv
          by_cases hb : 4294967296 ≤ q
          · obtain ⟨k, rfl⟩ : ∃ k, q = k + 1 := ⟨q - 1, by omega⟩
            have d1 : decide ((4294967296 : Int) ≤ (k : Int) + 1) = true := by simp; omega
            have LS := Lib.hid (LESS2.out _ _ INV.out hQ (.inl hb))
            have SI := Lib.hid (knuth.step_inv INV.out LS.out.1)
            by_cases hc : 4294967296 ≤ r + y1
            · have d2 : decide ((4294967296 : Int) ≤ (r : Int) + (y1 : Int)) = true := by simp; omega
              have FIN : k = Q0 := BROKE2.out _ _ SI.out LS.out.2 (by omega) hc
              subst FIN
              go_wp2
              go_ret2
              exact ⟨rfl, rfl⟩
            · have d2 : decide ((4294967296 : Int) ≤ (r : Int) + (y1 : Int)) = false := by simp; omega
              go_wp2
              go_round
              case rel => exact ⟨k, r + y1, by go_num, by go_num, SI.out, LS.out.2, by omega, by omega⟩
              case measure => simp [intOf]
          · have d1 : decide ((4294967296 : Int) ≤ (q : Int)) = false := by simp; omega
            have hp := Y0H.out
            have hpp : q * y0 < 18446744073709551616 := Nat.lt_of_le_of_lt (Nat.mul_le_mul (show q ≤ 4294967295 by omega) (show y0 ≤ 4294967295 by omega)) (by decide)
            obtain ⟨p, hpe⟩ : ∃ p, p = q * y0 := ⟨_, rfl⟩
            have rp : IntKind.u64.wrap ((q : Int) * (y0 : Int)) = (p : Int) := by rw [mulN, ← hpe, wrapN]; rw [hpe]; exact hpp
            have rv := VH2.out
            have rB : IntKind.u64.wrap (4294967296 * (r : Int)) = 4294967296 * (r : Int) := by rw [IntKind.wrap_u64]; omega
            have rB2 : IntKind.u64.wrap (4294967296 * (r : Int) + (u0 : Int)) = 4294967296 * (r : Int) + (u0 : Int) := by rw [IntKind.wrap_u64]; omega
            have HP := Lib.hid hpe
            clear hpe hpp hp
            by_cases ht : 4294967296 * r + u0 < p
            · have d3 : decide (4294967296 * (r : Int) + (u0 : Int) < (p : Int)) = true := by simp; omega
              have LS := Lib.hid (LESS2.out _ _ INV.out hQ (.inr (by rw [← HP.out]; exact ht)))
              have SI := Lib.hid (knuth.step_inv INV.out LS.out.1)
              obtain ⟨k, rfl⟩ : ∃ k, q = k + 1 := ⟨q - 1, by have := LS.out.1; omega⟩
              rw [show ((k + 1 : Nat) : Int) = (k : Int) + 1 from by omega] at rp d1
              by_cases hc : 4294967296 ≤ r + y1
              · have d2 : decide ((4294967296 : Int) ≤ (r : Int) + (y1 : Int)) = true := by simp; omega
                have FIN : k = Q0 := BROKE2.out _ _ SI.out LS.out.2 (by omega) hc
                subst FIN
                go_wp2
                go_ret2
                exact ⟨rfl, rfl⟩
              · have d2 : decide ((4294967296 : Int) ≤ (r : Int) + (y1 : Int)) = false := by simp; omega
                go_wp2
                go_round
                case rel => exact ⟨k, r + y1, by go_num, by go_num, SI.out, LS.out.2, by omega, by omega⟩
                case measure => simp [intOf]
            · have d3 : decide (4294967296 * (r : Int) + (u0 : Int) < (p : Int)) = false := by simp; omega
              have FIN : q = Q0 := DONE2.out _ _ INV.out hQ (by rw [← HP.out]; omega)
              subst FIN
              go_wp2
              go_ret2
              exact ⟨rfl, rfl⟩
      · have d2 : decide ((4294967296 : Int) ≤ (r : Int) + (y1 : Int)) = false := by simp; omega
        go_wp2
        go_round
        case rel => exact ⟨k, r + y1, by go_num, by go_num, SI.out, LS.out.2, by omega, by omega⟩
        case measure => simp [intOf]
    · have d1 : decide ((4294967296 : Int) ≤ (q : Int)) = false := by simp; omega
      have hp := Y0H.out
      have hpp : q * y0 < 18446744073709551616 := Nat.lt_of_le_of_lt (Nat.mul_le_mul (show q ≤ 4294967295 by omega) (show y0 ≤ 4294967295 by omega)) (by decide)
      obtain ⟨p, hpe⟩ : ∃ p, p = q * y0 := ⟨_, rfl⟩
      have rp : IntKind.u64.wrap ((q : Int) * (y0 : Int)) = (p : Int) := by rw [mulN, ← hpe, wrapN]; rw [hpe]; exact hpp
      have rv := VH1.out
      have rB : IntKind.u64.wrap (4294967296 * (r : Int)) = 4294967296 * (r : Int) := by rw [IntKind.wrap_u64]; omega
      have rB2 : IntKind.u64.wrap (4294967296 * (r : Int) + (u1 : Int)) = 4294967296 * (r : Int) + (u1 : Int) := by rw [IntKind.wrap_u64]; omega
      have HP := Lib.hid hpe
      clear hpe hpp hp
      by_cases ht : 4294967296 * r + u1 < p
      · have d3 : decide (4294967296 * (r : Int) + (u1 : Int) < (p : Int)) = true := by simp; omega
        have LS := Lib.hid (LESS1.out _ _ INV.out hQ (.inr (by rw [← HP.out]; exact ht)))
        have SI := Lib.hid (knuth.step_inv INV.out LS.out.1)
        obtain ⟨k, rfl⟩ : ∃ k, q = k + 1 := ⟨q - 1, by have := LS.out.1; omega⟩
        rw [show ((k + 1 : Nat) : Int) = (k : Int) + 1 from by omega] at rp d1
        by_cases hc : 4294967296 ≤ r + y1
        · have d2 : decide ((4294967296 : Int) ≤ (r : Int) + (y1 : Int)) = true := by simp; omega
          have FIN : k = Q1 := BROKE1.out _ _ SI.out LS.out.2 (by omega) hc
          subst FIN
          go_wp2
          go_loop [18, 16] (fun a b => LoopRel y1 R1 Q0 a b) (fun a _ => (intOf a).toNat)
          case atStart => exact ST2.out
          case round =>
            obtain ⟨q, r, rfl, rfl, inv, hQ, hq, hr⟩ := hrel
            have INV := Lib.hid inv
            clear inv
            by_cases hb : 4294967296 ≤ q
            · obtain ⟨k, rfl⟩ : ∃ k, q = k + 1 := ⟨q - 1, by omega⟩
              have d1 : decide ((4294967296 : Int) ≤ (k : Int) + 1) = true := by simp; omega
              have LS := Lib.hid (LESS2.out _ _ INV.out hQ (.inl hb))
              have SI := Lib.hid (knuth.step_inv INV.out LS.out.1)
              by_cases hc : 4294967296 ≤ r + y1
              · have d2 : decide ((4294967296 : Int) ≤ (r : Int) + (y1 : Int)) = true := by simp; omega
                have FIN : k = Q0 := BROKE2.out _ _ SI.out LS.out.2 (by omega) hc
                subst FIN
                go_wp2
                go_ret2
                exact ⟨rfl, rfl⟩
              · have d2 : decide ((4294967296 : Int) ≤ (r : Int) + (y1 : Int)) = false := by simp; omega
                go_wp2
                go_round
                case rel => exact ⟨k, r + y1, by go_num, by go_num, SI.out, LS.out.2, by omega, by omega⟩
                case measure => simp [intOf]
            · have d1 : decide ((4294967296 : Int) ≤ (q : Int)) = false := by simp; omega
              have hp := Y0H.out
              have hpp : q * y0 < 18446744073709551616 := Nat.lt_of_le_of_lt (Nat.mul_le_mul (show q ≤ 4294967295 by omega) (show y0 ≤ 4294967295 by omega)) (by decide)
              obtain ⟨p, hpe⟩ : ∃ p, p = q * y0 := ⟨_, rfl⟩
              have rp : IntKind.u64.wrap ((q : Int) * (y0 : Int)) = (p : Int) := by rw [mulN, ← hpe, wrapN]; rw [hpe]; exact hpp
              have rv := VH2.out
              have rB : IntKind.u64.wrap (4294967296 * (r : Int)) = 4294967296 * (r : Int) := by rw [IntKind.wrap_u64]; omega
              have rB2 : IntKind.u64.wrap (4294967296 * (r : Int) + (u0 : Int)) = 4294967296 * (r : Int) + (u0 : Int) := by rw [IntKind.wrap_u64]; omega
              have HP := Lib.hid hpe
              clear hpe hpp hp
              by_cases ht : 4294967296 * r + u0 < p
              · have d3 : decide (4294967296 * (r : Int) + (u0 : Int) < (p : Int)) = true := by simp; omega
                have LS := Lib.hid (LESS2.out _ _ INV.out hQ (.inr (by rw [← HP.out]; exact ht)))
                have SI := Lib.hid (knuth.step_inv INV.out LS.out.1)
                obtain ⟨k, rfl⟩ : ∃ k, q = k + 1 := ⟨q - 1, by have := LS.out.1; omega⟩
                rw [show ((k + 1 : Nat) : Int) = (k : Int) + 1 from by omega] at rp d1
                by_cases hc : 4294967296 ≤ r + y1
                · have d2 : decide ((4294967296 : Int) ≤ (r : Int) + (y1 : Int)) = true := by simp; omega
                  have FIN : k = Q0 := BROKE2.out _ _ SI.out LS.out.2 (by omega) hc
                  subst FIN
                  go_wp2
                  go_ret2
                  exact ⟨rfl, rfl⟩
                · have d2 : decide ((4294967296 : Int) ≤ (r : Int) + (y1 : Int)) = false := by simp; omega
                  go_wp2
                  go_round
                  case rel => exact ⟨k, r + y1, by go_num, by go_num, SI.out, LS.out.2, by omega, by omega⟩
                  case measure => simp [intOf]
              · have d3 : decide (4294967296 * (r : Int) + (u0 : Int) < (p : Int)) = false := by simp; omega
                have FIN : q = Q0 := DONE2.out _ _ INV.out hQ (by rw [← HP.out]; omega)
                subst FIN
                go_wp2
                go_ret2
                exact ⟨rfl, rfl⟩
        · have d2 : decide ((4294967296 : Int) ≤ (r : Int) + (y1 : Int)) = false := by simp; omega
          go_wp2
          go_round
          case rel => exact ⟨k, r + y1, by go_num, by go_num, SI.out, LS.out.2, by omega, by omega⟩
          case measure => simp [intOf]
      · have d3 : decide (4294967296 * (r : Int) + (u1 : Int) < (p : Int)) = false := by simp; omega
        have FIN : q = Q1 := DONE1.out _ _ INV.out hQ (by rw [← HP.out]; omega)
        subst FIN
        go_wp2
        go_loop [18, 16] (fun a b => LoopRel y1 R1 Q0 a b) (fun a _ => (intOf a).toNat)
        case atStart => exact ST2.out
        case round =>
          obtain ⟨q, r, rfl, rfl, inv, hQ, hq, hr⟩ := hrel
          have INV := Lib.hid inv
          clear inv
          by_cases hb : 4294967296 ≤ q
          · obtain ⟨k, rfl⟩ : ∃ k, q = k + 1 := ⟨q - 1, by omega⟩
            have d1 : decide ((4294967296 : Int) ≤ (k : Int) + 1) = true := by simp; omega
            have LS := Lib.hid (LESS2.out _ _ INV.out hQ (.inl hb))
            have SI := Lib.hid (knuth.step_inv INV.out LS.out.1)
            by_cases hc : 4294967296 ≤ r + y1
            · have d2 : decide ((4294967296 : Int) ≤ (r : Int) + (y1 : Int)) = true := by simp; omega
              have FIN : k = Q0 := BROKE2.out _ _ SI.out LS.out.2 (by omega) hc
              subst FIN
              go_wp2
              go_ret2
              exact ⟨rfl, rfl⟩
            · have d2 : decide ((4294967296 : Int) ≤ (r : Int) + (y1 : Int)) = false := by simp; omega
              go_wp2
              go_round
              case rel => exact ⟨k, r + y1, by go_num, by go_num, SI.out, LS.out.2, by omega, by omega⟩
              case measure => simp [intOf]
          · have d1 : decide ((4294967296 : Int) ≤ (q : Int)) = false := by simp; omega
            have hp := Y0H.out
            have hpp : q * y0 < 18446744073709551616 := Nat.lt_of_le_of_lt (Nat.mul_le_mul (show q ≤ 4294967295 by omega) (show y0 ≤ 4294967295 by omega)) (by decide)
            obtain ⟨p, hpe⟩ : ∃ p, p = q * y0 := ⟨_, rfl⟩
            have rp : IntKind.u64.wrap ((q : Int) * (y0 : Int)) = (p : Int) := by rw [mulN, ← hpe, wrapN]; rw [hpe]; exact hpp
            have rv := VH2.out
            have rB : IntKind.u64.wrap (4294967296 * (r : Int)) = 4294967296 * (r : Int) := by rw [IntKind.wrap_u64]; omega
            have rB2 : IntKind.u64.wrap (4294967296 * (r : Int) + (u0 : Int)) = 4294967296 * (r : Int) + (u0 : Int) := by rw [IntKind.wrap_u64]; omega
            have HP := Lib.hid hpe
            clear hpe hpp hp
            by_cases ht : 4294967296 * r + u0 < p
            · have d3 : decide (4294967296 * (r : Int) + (u0 : Int) < (p : Int)) = true := by simp; omega
              have LS := Lib.hid (LESS2.out _ _ INV.out hQ (.inr (by rw [← HP.out]; exact ht)))
              have SI := Lib.hid (knuth.step_inv INV.out LS.out.1)
              obtain ⟨k, rfl⟩ : ∃ k, q = k + 1 := ⟨q - 1, by have := LS.out.1; omega⟩
              rw [show ((k + 1 : Nat) : Int) = (k : Int) + 1 from by omega] at rp d1
              by_cases hc : 4294967296 ≤ r + y1
              · have d2 : decide ((4294967296 : Int) ≤ (r : Int) + (y1 : Int)) = true := by simp; omega
                have FIN : k = Q0 := BROKE2.out _ _ SI.out LS.out.2 (by omega) hc
                subst FIN
                go_wp2
                go_ret2
                exact ⟨rfl, rfl⟩
              · have d2 : decide ((4294967296 : Int) ≤ (r : Int) + (y1 : Int)) = false := by simp; omega
                go_wp2
                go_round
                case rel => exact ⟨k, r + y1, by go_num, by go_num, SI.out, LS.out.2, by omega, by omega⟩
                case measure => simp [intOf]
            · have d3 : decide (4294967296 * (r : Int) + (u0 : Int) < (p : Int)) = false := by simp; omega
              have FIN : q = Q0 := DONE2.out _ _ INV.out hQ (by rw [← HP.out]; omega)
              subst FIN
              go_wp2
              go_ret2
              exact ⟨rfl, rfl⟩
end Go.Proofs.YtchpjojndkkmeaaDoor.div
