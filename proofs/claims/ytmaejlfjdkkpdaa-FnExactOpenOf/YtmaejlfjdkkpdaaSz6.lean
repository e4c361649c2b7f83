/-
  Plain helpers of this seat's proofs: how many elements an order has. Conditions: none.
-/
import Derived.Test.YtmaejlfjdkkpdaaPls
import Derived.Test.YtmaejlfjdkkpdaaOrd
namespace Go.Proofs.Ytmaejlfjdkkpdaa.pls
open Go.ChangeShapes Go.WideShapes Go.ChangeAt Go.RowKit
open gen
open seven (F7 zz Row At)
open four (F4)
theorem szIOk (a : Option Addr) (len cap m : Nat) (w : World) (h : len ≤ m) (hm : m ≤ 1048576) : Calls Try.prog 42 #[.slice a len cap, .int .i64 m] w fun e w' => e = .returned (.int .i64 ((m - len : Nat) : Int)) ∧ w = w' := by
  obtain ⟨d, hd⟩ : ∃ d, d = m - len := ⟨_, rfl⟩
  rw [← hd]
  have e : (m : Int) - (len : Int) = (d : Int) := by omega
  have t1 : decide ((d : Int) < 0) = false := by simp
  have hd2 : d ≤ 1048576 := by omega
  clear hd
  go_enter Try.func42, Try.ntmps42
  go_wp2
  go_ret
  exact ⟨rfl, rfl⟩
theorem szINo (a : Option Addr) (len cap m : Nat) (w : World) (h : m < len) (hl : len ≤ maxLen) : Calls Try.prog 42 #[.slice a len cap, .int .i64 m] w fun e w' => e = .returned (.int .i64 (-1)) ∧ w = w' := by
  unfold maxLen at hl
  have t1 : decide ((m : Int) - (len : Int) < 0) = true := by simp; omega
  go_enter Try.func42, Try.ntmps42
  go_wp2
  go_ret
  exact ⟨rfl, rfl⟩
theorem szPOk (a : Option Addr) (len cap m : Nat) (w : World) (h : len ≤ m) (hm : m ≤ 1048576) : Calls Try.prog 113 #[.slice a len cap, .int .i64 m] w fun e w' => e = .returned (.int .i64 ((m - len : Nat) : Int)) ∧ w = w' := by
  obtain ⟨d, hd⟩ : ∃ d, d = m - len := ⟨_, rfl⟩
  rw [← hd]
  have e : (m : Int) - (len : Int) = (d : Int) := by omega
  have t1 : decide ((d : Int) < 0) = false := by simp
  have hd2 : d ≤ 1048576 := by omega
  clear hd
  go_enter Try.func113, Try.ntmps113
  go_wp2
  go_ret
  exact ⟨rfl, rfl⟩
theorem szPNo (a : Option Addr) (len cap m : Nat) (w : World) (h : m < len) (hl : len ≤ maxLen) : Calls Try.prog 113 #[.slice a len cap, .int .i64 m] w fun e w' => e = .returned (.int .i64 (-1)) ∧ w = w' := by
  unfold maxLen at hl
  have t1 : decide ((m : Int) - (len : Int) < 0) = true := by simp; omega
  go_enter Try.func113, Try.ntmps113
  go_wp2
  go_ret
  exact ⟨rfl, rfl⟩
theorem szPlOk (a : Option Addr) (len cap m : Nat) (w : World) (h : len ≤ m) (hm : m ≤ 1048576) : Calls Try.prog 81 #[.agg #[.slice a len cap], .int .i64 m] w fun e w' => e = .returned (.int .i64 ((m - len : Nat) : Int)) ∧ Below w.heap.size w w' := by
  have C := fun w => szPOk a len cap m w h hm
  obtain ⟨d, hd⟩ : ∃ d, d = m - len := ⟨_, rfl⟩
  rw [← hd] at C ⊢
  have t1 : decide ((d : Int) < 0) = false := by simp
  clear hd
  go_enter Try.func81, Try.ntmps81
  go_wp2_with fail
  refine (C _).mono ?_
  rintro e w' ⟨rfl, rfl⟩
  go_wp2
  go_ret
  exact ⟨rfl, bAl (Below.refl _ _) (Nat.le_refl _) _⟩
theorem szPlNo (a : Option Addr) (len cap m : Nat) (w : World) (h : m < len) (hl : len ≤ maxLen) : Calls Try.prog 81 #[.agg #[.slice a len cap], .int .i64 m] w fun e w' => e = .returned (.int .i64 (-1)) ∧ Below w.heap.size w w' := by
  have C := fun w => szPNo a len cap m w h hl
  have t1 : decide ((-1 : Int) < 0) = true := by decide
  go_enter Try.func81, Try.ntmps81
  go_wp2_with fail
  refine (C _).mono ?_
  rintro e w' ⟨rfl, rfl⟩
  go_wp2
  go_ret
  exact ⟨rfl, bAl (Below.refl _ _) (Nat.le_refl _) _⟩
/-- What is left of m. -/
def lft (T m : Nat) : Int := if T ≤ m then ((m - T : Nat) : Int) else -1
theorem lft_t {T m : Nat} (h : T ≤ m) : lft T m = ((m - T : Nat) : Int) := if_pos h
theorem lft_f {T m : Nat} (h : ¬ T ≤ m) : lft T m = -1 := if_neg h
set_option maxHeartbeats 1000000 in
theorem szPls (a : Option Addr) (cap m : Nat) (p : List (List F7)) (w : World) (h : InpP w a p) (hn : p.length ≤ maxLen) (hl : ∀ i, i < p.length → (nth p i).length ≤ maxLen) (hm : m ≤ 1048576) : Calls Try.prog 43 #[.slice a p.length cap, .int .i64 m] w fun e w' => e = .returned (.int .i64 (lft (p.length + tl p p.length) m)) ∧ Below w.heap.size w w' := by
  have HI := Lib.hid h
  have HL := Lib.hid hl
  clear h hl
  obtain ⟨T, hT⟩ : ∃ T, T = lft (p.length + tl p p.length) m := ⟨_, rfl⟩
  rw [← hT]
  have HT := Lib.hid hT
  clear hT
  obtain ⟨n, hnz⟩ : ∃ n, n = p.length := ⟨_, rfl⟩
  rw [← hnz] at hn ⊢
  have HNZ := Lib.hid hnz
  clear hnz
  by_cases h0 : n ≤ m
  · obtain ⟨d, hd⟩ : ∃ d, d = m - n := ⟨_, rfl⟩
    have e : (m : Int) - (n : Int) = (d : Int) := by omega
    have t1 : decide ((d : Int) < 0) = false := by simp
    have hd2 : d ≤ 1048576 := by omega
    have HD := Lib.hid (show d = m - n ∧ n ≤ m from ⟨hd, h0⟩)
    clear hd
    go_enter Try.func43, Try.ntmps43
    go_wp2
    go_loopw [1, 5] (fun lv vi wr => Below w.heap.size w wr ∧ ∃ (k M : Nat), k ≤ n ∧ vi = .int .i64 k ∧ lv = .int .i64 M ∧ M + tl p k = d) (fun _ vi _ => n - (intOf vi).toNat)
    case atStart => exact ⟨Below.refl _ _, 0, d, by omega, rfl, rfl, rfl⟩
    case round =>
      obtain ⟨hB, k, M, hk, rfl, rfl, hM⟩ := hrel
      have BB := Lib.hid hB
      by_cases hlt : k < n
      · have HK := Lib.hid (show k < p.length from by rw [← HNZ.out]; exact hlt)
        obtain ⟨c, off, rfl, a', cap', hcell, hin⟩ := HI.out k HK.out
        replace hcell := cell_keep hcell (hB.block c (cell_lt hcell))
        have u1 : decide (k < n) = true := by simp; omega
        have z1 : (k : Int) < (n : Int) := by omega
        have HLq := HL.out k HK.out
        have HMM := Lib.hid hM
        have hM2 : M ≤ 1048576 := by omega
        have TM := Lib.hid (tl_mono p (k + 1) (n - (k + 1)))
        clear hB hin hM
        obtain ⟨q, hq⟩ : ∃ q, q = (nth p k).length := ⟨_, rfl⟩
        rw [← hq] at hcell HLq
        have TS := Lib.hid (show tl p (k + 1) = tl p k + q from by rw [hq]; rfl)
        clear hq
        by_cases h1 : q ≤ M
        · obtain ⟨r, hr⟩ : ∃ r, r = M - q := ⟨_, rfl⟩
          have C := Lib.hid (szPlOk a' q cap' M wr h1 hM2)
          rw [← hr] at C
          have HR := Lib.hid hr
          have t2 : decide ((r : Int) < 0) = false := by simp
          clear hr HLq
          go_wp2_with fail
          refine C.out.mono ?_
          rintro e w1 ⟨rfl, b1⟩
          have B1 := Lib.hid (BB.out.trans (b1.mono BB.out.size))
          clear b1
          go_wp2
          go_roundw
          case rel => exact ⟨B1.out, k + 1, r, by omega, by go_num, rfl, by have := TS.out; have := HMM.out; have := HR.out; omega⟩
          case measure => simp [intOf]; omega
        · have C := Lib.hid (szPlNo a' q cap' M wr (by omega) HLq)
          have t2 : decide ((-1 : Int) < 0) = true := by decide
          have NO := Lib.hid (show T = -1 from HT.out.trans (lft_f (by
            have := TS.out; have := HMM.out; have := HD.out
            rw [← HNZ.out]
            have q1 := TM.out
            rw [show k + 1 + (n - (k + 1)) = n by omega] at q1
            omega)))
          clear HLq
          go_wp2_with fail
          refine C.out.mono ?_
          rintro e w1 ⟨rfl, b1⟩
          have B1 := Lib.hid (BB.out.trans (b1.mono BB.out.size))
          clear b1
          go_wp2
          go_ret
          exact ⟨by rw [NO.out]; rfl, B1.out⟩
      · have u1 : decide (k < n) = false := by simp; omega
        obtain rfl : k = n := by omega
        have YES := Lib.hid (show T = (M : Int) from HT.out.trans (by rw [lft_t (by rw [← HNZ.out]; have := HD.out; omega), ← HNZ.out]; have := HD.out; omega))
        clear hB hM
        go_wp2
        go_ret
        exact ⟨by rw [YES.out]; rfl, BB.out⟩
  · have t1 : decide ((m : Int) - (n : Int) < 0) = true := by simp; omega
    have NO := Lib.hid (show T = -1 from HT.out.trans (lft_f (by rw [← HNZ.out]; omega)))
    unfold maxLen at hn
    go_enter Try.func43, Try.ntmps43
    go_wp2
    go_ret
    exact ⟨by rw [NO.out]; rfl, Below.refl _ _⟩
set_option maxHeartbeats 1000000 in
theorem szO (s : ord.Sc) (ai : Option Addr) (ci : Nat) (l : List F4) (ap : Option Addr) (cp : Nat) (p : List (List F7)) (w : World) (h2 : InpP w ap p) (hl : l.length ≤ maxLen) (hn : p.length ≤ maxLen) (hm : ∀ i, i < p.length → (nth p i).length ≤ maxLen)  :
    Calls Try.prog 14 #[.agg #[.int .i64 s.id, .int .i64 s.co, .int .i64 s.me, .int .i64 s.cu, .int .i64 s.da, .int .i64 s.nn, .int .i64 s.ra, .int .i64 s.nu, .int .i64 s.de, .slice ai l.length ci, .slice ap p.length cp, .int .i64 s.op, .int .i64 s.up], .int .i64 1048576] w fun e w' => e = .returned (.int .i64 (lft (l.length + (p.length + tl p p.length)) 1048576)) ∧ Below w.heap.size w w' := by
  have b0 : Below w.heap.size w (w.alloc (.cells #[.int .i64 s.id, .int .i64 s.co, .int .i64 s.me, .int .i64 s.cu, .int .i64 s.da, .int .i64 s.nn, .int .i64 s.ra, .int .i64 s.nu, .int .i64 s.de, .slice ai l.length ci, .slice ap p.length cp, .int .i64 s.op, .int .i64 s.up] 25)) := bAl (Below.refl _ _) (Nat.le_refl _) _
  have B0 := Lib.hid b0
  have CP := fun m (hm1 : m ≤ 1048576) => szPls ap cp m p (w.alloc (.cells #[.int .i64 s.id, .int .i64 s.co, .int .i64 s.me, .int .i64 s.cu, .int .i64 s.da, .int .i64 s.nn, .int .i64 s.ra, .int .i64 s.nu, .int .i64 s.de, .slice ai l.length ci, .slice ap p.length cp, .int .i64 s.op, .int .i64 s.up] 25)) (h2.below b0) hn hm hm1
  clear b0 h2 hm
  generalize p.length + tl p p.length = Q at CP ⊢
  obtain ⟨T, hT⟩ : ∃ T, T = lft (l.length + Q) 1048576 := ⟨_, rfl⟩
  rw [← hT]
  have HT := Lib.hid hT
  clear hT
  generalize l.length = n at *
  generalize p.length = pn at *
  by_cases h0 : n ≤ 1048576
  · have C := szIOk ai n ci 1048576 (w.alloc (.cells #[.int .i64 s.id, .int .i64 s.co, .int .i64 s.me, .int .i64 s.cu, .int .i64 s.da, .int .i64 s.nn, .int .i64 s.ra, .int .i64 s.nu, .int .i64 s.de, .slice ai n ci, .slice ap pn cp, .int .i64 s.op, .int .i64 s.up] 25)) h0 (Nat.le_refl _)
    obtain ⟨d, hd⟩ : ∃ d, d = 1048576 - n := ⟨_, rfl⟩
    rw [← hd] at C
    have HD := Lib.hid hd
    have CP := CP d (by omega)
    have t1 : decide ((d : Int) < 0) = false := by simp
    clear hd
    obtain ⟨r, hr⟩ : ∃ r, r = lft Q d := ⟨_, rfl⟩
    rw [← hr] at CP
    have HR := Lib.hid (show T = r from by rw [hr, HT.out]; unfold lft; have := HD.out; split <;> split <;> omega)
    have R1 : r = -1 ∨ 0 ≤ r := by rw [hr]; unfold lft; split <;> omega
    clear hr
    rcases R1 with rfl | hr0
    · have t2 : decide ((-1 : Int) < 0) = true := by decide
      go_enter Try.func14, Try.ntmps14
      go_wp2_with fail
      refine C.mono ?_
      rintro e w' ⟨rfl, rfl⟩
      go_wp2_with fail
      refine CP.mono ?_
      rintro e w' ⟨rfl, b⟩
      go_wp2
      go_ret
      exact ⟨by rw [HR.out]; rfl, B0.out.trans (b.mono B0.out.size)⟩
    · have t2 : decide (r < 0) = false := by simp; omega
      go_enter Try.func14, Try.ntmps14
      go_wp2_with fail
      refine C.mono ?_
      rintro e w' ⟨rfl, rfl⟩
      go_wp2_with fail
      refine CP.mono ?_
      rintro e w' ⟨rfl, b⟩
      go_wp2
      go_ret
      exact ⟨by rw [HR.out]; rfl, B0.out.trans (b.mono B0.out.size)⟩
  · have C := szINo ai n ci 1048576 (w.alloc (.cells #[.int .i64 s.id, .int .i64 s.co, .int .i64 s.me, .int .i64 s.cu, .int .i64 s.da, .int .i64 s.nn, .int .i64 s.ra, .int .i64 s.nu, .int .i64 s.de, .slice ai n ci, .slice ap pn cp, .int .i64 s.op, .int .i64 s.up] 25)) (by omega) hl
    have t1 : decide ((-1 : Int) < 0) = true := by decide
    have NO := Lib.hid (show T = -1 from HT.out.trans (lft_f (by omega)))
    clear CP
    go_enter Try.func14, Try.ntmps14
    go_wp2_with fail
    refine C.mono ?_
    rintro e w' ⟨rfl, rfl⟩
    go_wp2
    go_ret
    exact ⟨by rw [NO.out]; rfl, B0.out⟩
end Go.Proofs.Ytmaejlfjdkkpdaa.pls
