/-
  Proved: for every code, what is paid on the drawn plan is what was paid in less what is left, and something is left only when all is paid; the law laws.FnPay returns true and its arguments read as before. Conditions: none beyond the given row.
-/
import Derived.Test.YtmnmijiikjpdnaaDrL
import Derived.Test.YtmnmijiikjpdnaaJTt
import Derived.Test.YtmnmijiikjpdnaaPyS
import Derived.Test.YtmnmijiikjpdnaaPyI
import Derived.Test.YtmnmijiikjpdnaaPkS
import Derived.Test.YtmnmijiikjpdnaaPkI
import Derived.Test.YtmnmijiikjpdnaaSmI
import Derived.Test.YtmnmijiikjpdnaaLn7
import Derived.Carry
namespace Go.Proofs.Ytmnmijiikjpdnaa.fnPay
open Go.ChangeShapes Go.WideShapes Go.ChangeAt Go.RowKit


theorem walk_big (a : Option Addr) (len cap : Nat) (w : World) (hl : len ≤ maxLen) (hb : 1048576 < len) : Calls Try.prog 7 #[.slice a len cap] w fun e w' => e = .returned (.bool true) ∧ Below w.heap.size w w' := by
  go_enter Try.func7, Try.ntmps7
  go_wp2_with fail
  refine (draw.bigT a len cap w hb hl).mono ?_
  rintro e w' ⟨rfl, rfl⟩
  go_wp2
  go_ret
  exact ⟨rfl, Below.refl _ _⟩

set_option maxRecDepth 100000 in
set_option maxHeartbeats 8000000 in
theorem walk_small (a : Option Addr) (cap len : Nat) (w : World) (hB : draw.Bytes w a len) (hn : len ≤ 1048576) : Calls Try.prog 7 #[.slice a len cap] w fun e w' => e = .returned (.bool true) ∧ Below w.heap.size w w' := by
  have HB := Lib.hid hB
  clear hB
  go_enter Try.func7, Try.ntmps7
  go_wp2_with fail
  refine (draw.bigF a len cap w hn).mono ?_
  rintro e w' ⟨rfl, rfl⟩
  go_wp2_with fail
  refine (base.drawPay a len cap w HB.out hn).mono ?_
  rintro e w1 ⟨cl, g, l, n, rfl, rl, lo, hi, p1, p24, b1⟩
  have RL := Lib.hid rl
  have BB := Lib.hid b1
  clear rl b1 HB
  have CS := fun w0 c g r => base.ppS n w0 c g l r (by omega)
  have CI := fun w0 c g r => base.ppI n w0 c g l r (by omega)
  unfold base.Out3 at CS CI
  have lp : (base.pyL l n).length ≤ 24 := Nat.le_trans (base.pyL_len l n) p24
  have FACT := Lib.hid (show pl.PV l → 0 ≤ n → n ≤ 1000000000000 → pl.PV (base.pyL l n) ∧ base.PayT l (base.pyL l n) (n, 0, 0, 0) (base.pyS l n) ∧ base.Pst n (base.pyS l n) from fun hv h0 h1 => by
    have ok : base.pyOk l n = true := by unfold base.pyOk; rw [pl.pv_t hv, Bool.true_and, pl.inR_iff]; exact ⟨h0, h1⟩
    rw [(base.py_yes ok).1, (base.py_yes ok).2]
    refine ⟨?_, ?_, base.pst_b (fun i hi => hv.pin (i := i) hi) h0 l.length (Nat.le_refl _)⟩
    · rw [pl.fw_all]; exact base.pay_pv hv h0
    · rw [pl.fw_all, pl.fs_all]; exact base.pay_tot l (n, 0, 0, 0) h0 (base.pin_mem hv))
  obtain ⟨P, hP⟩ : ∃ P, P = base.pyL l n := ⟨_, rfl⟩
  obtain ⟨T, hT⟩ : ∃ T, T = base.pyS l n := ⟨_, rfl⟩
  rw [← hP, ← hT] at CS CI FACT
  rw [← hP] at lp
  clear hP hT
  obtain ⟨M, t2, t3, t4⟩ := T
  dsimp only at CS CI
  have CSh := Lib.hid CS
  have CIh := Lib.hid CI
  have CPK := fun w0 c g r => base.pkS w0 (some ⟨g, 0, none⟩) c g l r (by omega)
  have CPL := fun w0 c g r => base.pkI w0 (some ⟨g, 0, none⟩) c g l r (by omega)
  have CPKh := Lib.hid CPK
  have CPLh := Lib.hid CPL
  clear CS CI CPK CPL
  have tc : (M != M) = false := by simp
  have tc' : (M == M) = true := by simp
  go_wp2_with fail
  refine (CIh.out w1 _ g RL.out).mono ?_
  rintro e w2 ⟨am, cm, gm, rfl, r0, G0, bb⟩
  replace BB := Lib.hid (BB.out.trans (bb.mono BB.out.size))
  have z2 := bb.size
  replace RL := Lib.hid (RL.out.keep (w' := w2) fun h => bb.block g (by omega))
  clear bb
  have RM := Lib.hid r0
  have GRM := Lib.hid G0
  clear r0 G0
  have XP := Lib.hid (base.Bx.new w2 (0, 0, 0, 0, t4, t3, t2))
  have zbbp : (w2.alloc (.cells #[.int .i64 0, .int .i64 0, .int .i64 0, .int .i64 0, .int .i64 t4, .int .i64 t3, .int .i64 t2] 26)).heap.size = w2.heap.size + 1 := by simp
  have al := fun k hk => Below.heap_alloc w2 (.cells #[.int .i64 0, .int .i64 0, .int .i64 0, .int .i64 0, .int .i64 t4, .int .i64 t3, .int .i64 t2] 26) k hk
  replace RL := Lib.hid (RL.out.keep (w' := w2.alloc (.cells #[.int .i64 0, .int .i64 0, .int .i64 0, .int .i64 0, .int .i64 t4, .int .i64 t3, .int .i64 t2] 26)) fun h => al g (by omega))
  replace RM := Lib.hid (RM.out.keep (w' := w2.alloc (.cells #[.int .i64 0, .int .i64 0, .int .i64 0, .int .i64 0, .int .i64 t4, .int .i64 t3, .int .i64 t2] 26)) fun h => al gm (by have := (GRM.out h).2; omega))
  replace BB := Lib.hid (BB.out.alloc BB.out.size (.cells #[.int .i64 0, .int .i64 0, .int .i64 0, .int .i64 0, .int .i64 t4, .int .i64 t3, .int .i64 t2] 26))
  clear al
  go_wp2_with fail
  obtain ⟨bp, hbp⟩ : ∃ bp, bp = w2.heap.size := ⟨_, rfl⟩
  rw [← hbp] at XP zbbp ⊢
  generalize w2.alloc (.cells #[.int .i64 0, .int .i64 0, .int .i64 0, .int .i64 0, .int .i64 t4, .int .i64 t3, .int .i64 t2] 26) = Wbp at XP BB zbbp RL RM ⊢
  have lbp : bp < Wbp.heap.size := by omega
  have mbp : w2.heap.size ≤ bp := by omega
  clear hbp
  refine (CSh.out Wbp _ g RL.out).mono ?_
  rintro e w3 ⟨aw, cw, gw, rfl, r0, G0, bb⟩
  replace BB := Lib.hid (BB.out.trans (bb.mono BB.out.size))
  have z3 := bb.size
  replace RL := Lib.hid (RL.out.keep (w' := w3) fun h => bb.block g (by omega))
  replace RM := Lib.hid (RM.out.keep (w' := w3) fun h => bb.block gm (by have := (GRM.out h).2; omega))
  replace XP := Lib.hid (XP.out.keep (w' := w3) (bb.block bp (by omega)))
  clear bb
  have RW := Lib.hid r0
  have GRW := Lib.hid G0
  clear r0 G0
  have XQ := Lib.hid (base.Bx.new w3 (0, 0, 0, 0, t4, t3, t2))
  have zbbq : (w3.alloc (.cells #[.int .i64 0, .int .i64 0, .int .i64 0, .int .i64 0, .int .i64 t4, .int .i64 t3, .int .i64 t2] 26)).heap.size = w3.heap.size + 1 := by simp
  have al := fun k hk => Below.heap_alloc w3 (.cells #[.int .i64 0, .int .i64 0, .int .i64 0, .int .i64 0, .int .i64 t4, .int .i64 t3, .int .i64 t2] 26) k hk
  replace RL := Lib.hid (RL.out.keep (w' := w3.alloc (.cells #[.int .i64 0, .int .i64 0, .int .i64 0, .int .i64 0, .int .i64 t4, .int .i64 t3, .int .i64 t2] 26)) fun h => al g (by omega))
  replace RM := Lib.hid (RM.out.keep (w' := w3.alloc (.cells #[.int .i64 0, .int .i64 0, .int .i64 0, .int .i64 0, .int .i64 t4, .int .i64 t3, .int .i64 t2] 26)) fun h => al gm (by have := (GRM.out h).2; omega))
  replace XP := Lib.hid (XP.out.keep (w' := w3.alloc (.cells #[.int .i64 0, .int .i64 0, .int .i64 0, .int .i64 0, .int .i64 t4, .int .i64 t3, .int .i64 t2] 26)) (al bp (by omega)))
  replace RW := Lib.hid (RW.out.keep (w' := w3.alloc (.cells #[.int .i64 0, .int .i64 0, .int .i64 0, .int .i64 0, .int .i64 t4, .int .i64 t3, .int .i64 t2] 26)) fun h => al gw (by have := (GRW.out h).2; omega))
  replace BB := Lib.hid (BB.out.alloc BB.out.size (.cells #[.int .i64 0, .int .i64 0, .int .i64 0, .int .i64 0, .int .i64 t4, .int .i64 t3, .int .i64 t2] 26))
  clear al
  go_wp2_with fail
  obtain ⟨bq, hbq⟩ : ∃ bq, bq = w3.heap.size := ⟨_, rfl⟩
  rw [← hbq] at XQ zbbq ⊢
  generalize w3.alloc (.cells #[.int .i64 0, .int .i64 0, .int .i64 0, .int .i64 0, .int .i64 t4, .int .i64 t3, .int .i64 t2] 26) = Wbq at XQ BB zbbq RL RM XP RW ⊢
  have lbq : bq < Wbq.heap.size := by omega
  have mbq : w3.heap.size ≤ bq := by omega
  clear hbq
  refine (seven.samT Wbq am aw cm cw gm gw P RM.out RW.out (by omega)).mono ?_
  rintro e w4 ⟨rfl, bb⟩
  replace BB := Lib.hid (BB.out.trans (bb.mono BB.out.size))
  have z4 := bb.size
  replace RL := Lib.hid (RL.out.keep (w' := w4) fun h => bb.block g (by omega))
  replace RM := Lib.hid (RM.out.keep (w' := w4) fun h => bb.block gm (by have := (GRM.out h).2; omega))
  replace XP := Lib.hid (XP.out.keep (w' := w4) (bb.block bp (by omega)))
  replace RW := Lib.hid (RW.out.keep (w' := w4) fun h => bb.block gw (by have := (GRW.out h).2; omega))
  replace XQ := Lib.hid (XQ.out.keep (w' := w4) (bb.block bq (by omega)))
  clear bb
  obtain ⟨q0, q1, q2, q3, q4, q5, q6⟩ := XP.out.at_
  obtain ⟨r0, r1, r2, r3, r4, r5, r6⟩ := XQ.out.at_
  simp only [Nat.zero_add] at q0 q1 q2 q3 q4 q5 q6 r0 r1 r2 r3 r4 r5 r6
  go_wp2_with fail
  refine (CPKh.out w4 _ g RL.out).mono ?_
  rintro e w5 ⟨rfl, bb⟩
  replace BB := Lib.hid (BB.out.trans (bb.mono BB.out.size))
  have z5 := bb.size
  replace RL := Lib.hid (RL.out.keep (w' := w5) fun h => bb.block g (by omega))
  replace RM := Lib.hid (RM.out.keep (w' := w5) fun h => bb.block gm (by have := (GRM.out h).2; omega))
  replace XP := Lib.hid (XP.out.keep (w' := w5) (bb.block bp (by omega)))
  replace RW := Lib.hid (RW.out.keep (w' := w5) fun h => bb.block gw (by have := (GRW.out h).2; omega))
  replace XQ := Lib.hid (XQ.out.keep (w' := w5) (bb.block bq (by omega)))
  clear bb
  clear q0 q1 q2 q3 q4 q5 q6 r0 r1 r2 r3 r4 r5 r6
  cases hv : pl.pv l with
  | false =>
    rw [hv] at CPKh CPLh
    clear hv FACT
    go_wp2_with fail
    refine (seven.samT w5 am aw cm cw gm gw P RM.out RW.out (by omega)).mono ?_
    rintro e w6 ⟨rfl, bb⟩
    replace BB := Lib.hid (BB.out.trans (bb.mono BB.out.size))
    have z6 := bb.size
    replace RL := Lib.hid (RL.out.keep (w' := w6) fun h => bb.block g (by omega))
    replace RM := Lib.hid (RM.out.keep (w' := w6) fun h => bb.block gm (by have := (GRM.out h).2; omega))
    replace XP := Lib.hid (XP.out.keep (w' := w6) (bb.block bp (by omega)))
    replace RW := Lib.hid (RW.out.keep (w' := w6) fun h => bb.block gw (by have := (GRW.out h).2; omega))
    replace XQ := Lib.hid (XQ.out.keep (w' := w6) (bb.block bq (by omega)))
    clear bb
    obtain ⟨q0, q1, q2, q3, q4, q5, q6⟩ := XP.out.at_
    obtain ⟨r0, r1, r2, r3, r4, r5, r6⟩ := XQ.out.at_
    simp only [Nat.zero_add] at q0 q1 q2 q3 q4 q5 q6 r0 r1 r2 r3 r4 r5 r6
    go_wp2_with fail
    refine (CPLh.out w6 _ g RL.out).mono ?_
    rintro e w7 ⟨rfl, bb⟩
    replace BB := Lib.hid (BB.out.trans (bb.mono BB.out.size))
    have z7 := bb.size
    replace RL := Lib.hid (RL.out.keep (w' := w7) fun h => bb.block g (by omega))
    replace RM := Lib.hid (RM.out.keep (w' := w7) fun h => bb.block gm (by have := (GRM.out h).2; omega))
    replace XP := Lib.hid (XP.out.keep (w' := w7) (bb.block bp (by omega)))
    replace RW := Lib.hid (RW.out.keep (w' := w7) fun h => bb.block gw (by have := (GRW.out h).2; omega))
    replace XQ := Lib.hid (XQ.out.keep (w' := w7) (bb.block bq (by omega)))
    clear bb
    clear q0 q1 q2 q3 q4 q5 q6 r0 r1 r2 r3 r4 r5 r6
    obtain ⟨q0, q1, q2, q3, q4, q5, q6⟩ := XP.out.at_
    obtain ⟨r0, r1, r2, r3, r4, r5, r6⟩ := XQ.out.at_
    simp only [Nat.zero_add] at q0 q1 q2 q3 q4 q5 q6 r0 r1 r2 r3 r4 r5 r6
    go_wp2_with fail
    refine (CPKh.out w7 _ g RL.out).mono ?_
    rintro e w8 ⟨rfl, bb⟩
    replace BB := Lib.hid (BB.out.trans (bb.mono BB.out.size))
    have z8 := bb.size
    replace RL := Lib.hid (RL.out.keep (w' := w8) fun h => bb.block g (by omega))
    replace RM := Lib.hid (RM.out.keep (w' := w8) fun h => bb.block gm (by have := (GRM.out h).2; omega))
    replace XP := Lib.hid (XP.out.keep (w' := w8) (bb.block bp (by omega)))
    replace RW := Lib.hid (RW.out.keep (w' := w8) fun h => bb.block gw (by have := (GRW.out h).2; omega))
    replace XQ := Lib.hid (XQ.out.keep (w' := w8) (bb.block bq (by omega)))
    clear bb
    clear q0 q1 q2 q3 q4 q5 q6 r0 r1 r2 r3 r4 r5 r6
    go_wp2
    go_ret
    exact ⟨rfl, BB.out⟩
  | true =>
    rw [hv] at CPKh CPLh
    have PV := Lib.hid (pl.pv_iff.1 hv)
    clear hv
    by_cases n0 : n < 0
    · have u0 : decide (n < 0) = true := by simp; omega
      clear FACT
      go_wp2_with fail
      refine (seven.samT w5 am aw cm cw gm gw P RM.out RW.out (by omega)).mono ?_
      rintro e w6 ⟨rfl, bb⟩
      replace BB := Lib.hid (BB.out.trans (bb.mono BB.out.size))
      have z6 := bb.size
      replace RL := Lib.hid (RL.out.keep (w' := w6) fun h => bb.block g (by omega))
      replace RM := Lib.hid (RM.out.keep (w' := w6) fun h => bb.block gm (by have := (GRM.out h).2; omega))
      replace XP := Lib.hid (XP.out.keep (w' := w6) (bb.block bp (by omega)))
      replace RW := Lib.hid (RW.out.keep (w' := w6) fun h => bb.block gw (by have := (GRW.out h).2; omega))
      replace XQ := Lib.hid (XQ.out.keep (w' := w6) (bb.block bq (by omega)))
      clear bb
      obtain ⟨q0, q1, q2, q3, q4, q5, q6⟩ := XP.out.at_
      obtain ⟨r0, r1, r2, r3, r4, r5, r6⟩ := XQ.out.at_
      simp only [Nat.zero_add] at q0 q1 q2 q3 q4 q5 q6 r0 r1 r2 r3 r4 r5 r6
      go_wp2_with fail
      refine (CPLh.out w6 _ g RL.out).mono ?_
      rintro e w7 ⟨rfl, bb⟩
      replace BB := Lib.hid (BB.out.trans (bb.mono BB.out.size))
      have z7 := bb.size
      replace RL := Lib.hid (RL.out.keep (w' := w7) fun h => bb.block g (by omega))
      replace RM := Lib.hid (RM.out.keep (w' := w7) fun h => bb.block gm (by have := (GRM.out h).2; omega))
      replace XP := Lib.hid (XP.out.keep (w' := w7) (bb.block bp (by omega)))
      replace RW := Lib.hid (RW.out.keep (w' := w7) fun h => bb.block gw (by have := (GRW.out h).2; omega))
      replace XQ := Lib.hid (XQ.out.keep (w' := w7) (bb.block bq (by omega)))
      clear bb
      clear q0 q1 q2 q3 q4 q5 q6 r0 r1 r2 r3 r4 r5 r6
      obtain ⟨q0, q1, q2, q3, q4, q5, q6⟩ := XP.out.at_
      obtain ⟨r0, r1, r2, r3, r4, r5, r6⟩ := XQ.out.at_
      simp only [Nat.zero_add] at q0 q1 q2 q3 q4 q5 q6 r0 r1 r2 r3 r4 r5 r6
      go_wp2_with fail
      refine (CPKh.out w7 _ g RL.out).mono ?_
      rintro e w8 ⟨rfl, bb⟩
      replace BB := Lib.hid (BB.out.trans (bb.mono BB.out.size))
      have z8 := bb.size
      replace RL := Lib.hid (RL.out.keep (w' := w8) fun h => bb.block g (by omega))
      replace RM := Lib.hid (RM.out.keep (w' := w8) fun h => bb.block gm (by have := (GRM.out h).2; omega))
      replace XP := Lib.hid (XP.out.keep (w' := w8) (bb.block bp (by omega)))
      replace RW := Lib.hid (RW.out.keep (w' := w8) fun h => bb.block gw (by have := (GRW.out h).2; omega))
      replace XQ := Lib.hid (XQ.out.keep (w' := w8) (bb.block bq (by omega)))
      clear bb
      clear q0 q1 q2 q3 q4 q5 q6 r0 r1 r2 r3 r4 r5 r6
      go_wp2
      go_ret
      exact ⟨rfl, BB.out⟩
    · have u0 : decide (n < 0) = false := by simp; omega
      by_cases n1 : 1000000000000 < n
      · have u1 : decide (1000000000000 < n) = true := by simp; omega
        clear FACT
        go_wp2_with fail
        refine (seven.samT w5 am aw cm cw gm gw P RM.out RW.out (by omega)).mono ?_
        rintro e w6 ⟨rfl, bb⟩
        replace BB := Lib.hid (BB.out.trans (bb.mono BB.out.size))
        have z6 := bb.size
        replace RL := Lib.hid (RL.out.keep (w' := w6) fun h => bb.block g (by omega))
        replace RM := Lib.hid (RM.out.keep (w' := w6) fun h => bb.block gm (by have := (GRM.out h).2; omega))
        replace XP := Lib.hid (XP.out.keep (w' := w6) (bb.block bp (by omega)))
        replace RW := Lib.hid (RW.out.keep (w' := w6) fun h => bb.block gw (by have := (GRW.out h).2; omega))
        replace XQ := Lib.hid (XQ.out.keep (w' := w6) (bb.block bq (by omega)))
        clear bb
        obtain ⟨q0, q1, q2, q3, q4, q5, q6⟩ := XP.out.at_
        obtain ⟨r0, r1, r2, r3, r4, r5, r6⟩ := XQ.out.at_
        simp only [Nat.zero_add] at q0 q1 q2 q3 q4 q5 q6 r0 r1 r2 r3 r4 r5 r6
        go_wp2_with fail
        refine (CPLh.out w6 _ g RL.out).mono ?_
        rintro e w7 ⟨rfl, bb⟩
        replace BB := Lib.hid (BB.out.trans (bb.mono BB.out.size))
        have z7 := bb.size
        replace RL := Lib.hid (RL.out.keep (w' := w7) fun h => bb.block g (by omega))
        replace RM := Lib.hid (RM.out.keep (w' := w7) fun h => bb.block gm (by have := (GRM.out h).2; omega))
        replace XP := Lib.hid (XP.out.keep (w' := w7) (bb.block bp (by omega)))
        replace RW := Lib.hid (RW.out.keep (w' := w7) fun h => bb.block gw (by have := (GRW.out h).2; omega))
        replace XQ := Lib.hid (XQ.out.keep (w' := w7) (bb.block bq (by omega)))
        clear bb
        clear q0 q1 q2 q3 q4 q5 q6 r0 r1 r2 r3 r4 r5 r6
        obtain ⟨q0, q1, q2, q3, q4, q5, q6⟩ := XP.out.at_
        obtain ⟨r0, r1, r2, r3, r4, r5, r6⟩ := XQ.out.at_
        simp only [Nat.zero_add] at q0 q1 q2 q3 q4 q5 q6 r0 r1 r2 r3 r4 r5 r6
        go_wp2_with fail
        refine (CPKh.out w7 _ g RL.out).mono ?_
        rintro e w8 ⟨rfl, bb⟩
        replace BB := Lib.hid (BB.out.trans (bb.mono BB.out.size))
        have z8 := bb.size
        replace RL := Lib.hid (RL.out.keep (w' := w8) fun h => bb.block g (by omega))
        replace RM := Lib.hid (RM.out.keep (w' := w8) fun h => bb.block gm (by have := (GRM.out h).2; omega))
        replace XP := Lib.hid (XP.out.keep (w' := w8) (bb.block bp (by omega)))
        replace RW := Lib.hid (RW.out.keep (w' := w8) fun h => bb.block gw (by have := (GRW.out h).2; omega))
        replace XQ := Lib.hid (XQ.out.keep (w' := w8) (bb.block bq (by omega)))
        clear bb
        clear q0 q1 q2 q3 q4 q5 q6 r0 r1 r2 r3 r4 r5 r6
        go_wp2
        go_ret
        exact ⟨rfl, BB.out⟩
      · have u1 : decide (1000000000000 < n) = false := by simp; omega
        obtain ⟨PVP, FT, ST⟩ := FACT.out PV.out (by omega) (by omega)
        have SA := base.sums_tot PV.out
        have SB := base.sums_tot PVP
        have SMA := base.sml_sums PV.out
        have SMB := base.sml_sums PVP
        have CA := fun w0 c g r => base.smI w0 (some ⟨g, 0, none⟩) c g l r (by omega)
        have CB := fun w0 a c g r => base.smI w0 a c g P r (by omega)
        have CPI := fun w0 a c g r => base.pkI w0 a c g P r (by omega)
        rw [pl.pv_t PVP] at CPI
        rw [SA] at CA SMA
        rw [SB] at CB SMB
        obtain ⟨-, f1, f2, eP, eI, eF, ep, ei, ef, f8⟩ := FT
        obtain ⟨g0, g1, g2, g3, g4⟩ := ST
        dsimp only at f1 f2 ep ei ef f8 g0 g1 g2 g3 g4
        generalize base.tot base.fP l = a1 at *
        generalize base.tot base.fI l = a2 at *
        generalize base.tot base.fF l = a3 at *
        generalize base.tot base.fp l = a4 at *
        generalize base.tot base.fi l = a5 at *
        generalize base.tot base.ff l = a6 at *
        generalize base.tot base.fP P = b1 at *
        generalize base.tot base.fI P = b2 at *
        generalize base.tot base.fF P = b3 at *
        generalize base.tot base.fp P = b4 at *
        generalize base.tot base.fi P = b5 at *
        generalize base.tot base.ff P = b6 at *
        have eP' := eP.symm
        have eI' := eI.symm
        have eF' := eF.symm
        subst eP' eI' eF'
        have CAh := Lib.hid CA
        have CBh := Lib.hid CB
        have CPh := Lib.hid CPI
        have SMBh := Lib.hid SMB
        obtain ⟨A1, A2, A3, A4, A5, A6, A7, A8, A9, A10, A11, A12⟩ := SMA
        obtain ⟨B1, B2, B3, B4, B5, B6, B7, B8, B9, B10, B11, B12⟩ := SMB
        dsimp only at A1 A2 A3 A4 A5 A6 A7 A8 A9 A10 A11 A12 B1 B2 B3 B4 B5 B6 B7 B8 B9 B10 B11 B12
        clear CA CB CPI SA SB PVP FACT eP eI eF
        have e4 : (b4 == a4 + t4) = true := by simp; omega
        have e5 : (b5 == a5 + t3) = true := by simp; omega
        have e6 : (b6 == a6 + t2) = true := by simp; omega
        have en : (t4 + t3 + t2 + M == n) = true := by simp; omega
        have s4 : t4 ≤ 1000000000000 := by omega
        have s3 : t3 ≤ 1000000000000 := by omega
        have s2 : t2 ≤ 1000000000000 := by omega
        have s1 : M ≤ 1000000000000 := by omega
        have OZ := Lib.hid (show M ≠ 0 → a1 + a2 + a3 - b4 - b5 - b6 = 0 from fun h => by rcases f8 with f8 | f8 <;> omega)
        clear ep ei ef f2 f1 f8 g4
        go_wp2_with fail
        refine (CAh.out w5 _ g RL.out).mono ?_
        rintro e w6 ⟨rfl, bb⟩
        replace BB := Lib.hid (BB.out.trans (bb.mono BB.out.size))
        have z6 := bb.size
        replace RL := Lib.hid (RL.out.keep (w' := w6) fun h => bb.block g (by omega))
        replace RM := Lib.hid (RM.out.keep (w' := w6) fun h => bb.block gm (by have := (GRM.out h).2; omega))
        replace XP := Lib.hid (XP.out.keep (w' := w6) (bb.block bp (by omega)))
        replace RW := Lib.hid (RW.out.keep (w' := w6) fun h => bb.block gw (by have := (GRW.out h).2; omega))
        replace XQ := Lib.hid (XQ.out.keep (w' := w6) (bb.block bq (by omega)))
        clear bb
        have XA := Lib.hid (base.Bx.new w6 (0, a1, a2, a3, a4, a5, a6))
        have zbba : (w6.alloc (.cells #[.int .i64 0, .int .i64 a1, .int .i64 a2, .int .i64 a3, .int .i64 a4, .int .i64 a5, .int .i64 a6] 26)).heap.size = w6.heap.size + 1 := by simp
        have al := fun k hk => Below.heap_alloc w6 (.cells #[.int .i64 0, .int .i64 a1, .int .i64 a2, .int .i64 a3, .int .i64 a4, .int .i64 a5, .int .i64 a6] 26) k hk
        replace RL := Lib.hid (RL.out.keep (w' := w6.alloc (.cells #[.int .i64 0, .int .i64 a1, .int .i64 a2, .int .i64 a3, .int .i64 a4, .int .i64 a5, .int .i64 a6] 26)) fun h => al g (by omega))
        replace RM := Lib.hid (RM.out.keep (w' := w6.alloc (.cells #[.int .i64 0, .int .i64 a1, .int .i64 a2, .int .i64 a3, .int .i64 a4, .int .i64 a5, .int .i64 a6] 26)) fun h => al gm (by have := (GRM.out h).2; omega))
        replace XP := Lib.hid (XP.out.keep (w' := w6.alloc (.cells #[.int .i64 0, .int .i64 a1, .int .i64 a2, .int .i64 a3, .int .i64 a4, .int .i64 a5, .int .i64 a6] 26)) (al bp (by omega)))
        replace RW := Lib.hid (RW.out.keep (w' := w6.alloc (.cells #[.int .i64 0, .int .i64 a1, .int .i64 a2, .int .i64 a3, .int .i64 a4, .int .i64 a5, .int .i64 a6] 26)) fun h => al gw (by have := (GRW.out h).2; omega))
        replace XQ := Lib.hid (XQ.out.keep (w' := w6.alloc (.cells #[.int .i64 0, .int .i64 a1, .int .i64 a2, .int .i64 a3, .int .i64 a4, .int .i64 a5, .int .i64 a6] 26)) (al bq (by omega)))
        replace BB := Lib.hid (BB.out.alloc BB.out.size (.cells #[.int .i64 0, .int .i64 a1, .int .i64 a2, .int .i64 a3, .int .i64 a4, .int .i64 a5, .int .i64 a6] 26))
        clear al
        go_wp2_with fail
        obtain ⟨ba, hba⟩ : ∃ ba, ba = w6.heap.size := ⟨_, rfl⟩
        rw [← hba] at XA zbba ⊢
        generalize w6.alloc (.cells #[.int .i64 0, .int .i64 a1, .int .i64 a2, .int .i64 a3, .int .i64 a4, .int .i64 a5, .int .i64 a6] 26) = Wba at XA BB zbba RL RM XP RW XQ ⊢
        have lba : ba < Wba.heap.size := by omega
        have mba : w6.heap.size ≤ ba := by omega
        clear hba
        refine (CBh.out Wba am cm gm RM.out).mono ?_
        rintro e w7 ⟨rfl, bb⟩
        replace BB := Lib.hid (BB.out.trans (bb.mono BB.out.size))
        have z7 := bb.size
        replace RL := Lib.hid (RL.out.keep (w' := w7) fun h => bb.block g (by omega))
        replace RM := Lib.hid (RM.out.keep (w' := w7) fun h => bb.block gm (by have := (GRM.out h).2; omega))
        replace XP := Lib.hid (XP.out.keep (w' := w7) (bb.block bp (by omega)))
        replace RW := Lib.hid (RW.out.keep (w' := w7) fun h => bb.block gw (by have := (GRW.out h).2; omega))
        replace XQ := Lib.hid (XQ.out.keep (w' := w7) (bb.block bq (by omega)))
        replace XA := Lib.hid (XA.out.keep (w' := w7) (bb.block ba (by omega)))
        clear bb
        by_cases v0 : M = 0
        · have v1 : (M == 0) = true := by simp [v0]
          clear v0 OZ SMBh
          have XB := Lib.hid (base.Bx.new w7 (0, a1, a2, a3, b4, b5, b6))
          have zbbb2 : (w7.alloc (.cells #[.int .i64 0, .int .i64 a1, .int .i64 a2, .int .i64 a3, .int .i64 b4, .int .i64 b5, .int .i64 b6] 26)).heap.size = w7.heap.size + 1 := by simp
          have al := fun k hk => Below.heap_alloc w7 (.cells #[.int .i64 0, .int .i64 a1, .int .i64 a2, .int .i64 a3, .int .i64 b4, .int .i64 b5, .int .i64 b6] 26) k hk
          replace RL := Lib.hid (RL.out.keep (w' := w7.alloc (.cells #[.int .i64 0, .int .i64 a1, .int .i64 a2, .int .i64 a3, .int .i64 b4, .int .i64 b5, .int .i64 b6] 26)) fun h => al g (by omega))
          replace RM := Lib.hid (RM.out.keep (w' := w7.alloc (.cells #[.int .i64 0, .int .i64 a1, .int .i64 a2, .int .i64 a3, .int .i64 b4, .int .i64 b5, .int .i64 b6] 26)) fun h => al gm (by have := (GRM.out h).2; omega))
          replace XP := Lib.hid (XP.out.keep (w' := w7.alloc (.cells #[.int .i64 0, .int .i64 a1, .int .i64 a2, .int .i64 a3, .int .i64 b4, .int .i64 b5, .int .i64 b6] 26)) (al bp (by omega)))
          replace RW := Lib.hid (RW.out.keep (w' := w7.alloc (.cells #[.int .i64 0, .int .i64 a1, .int .i64 a2, .int .i64 a3, .int .i64 b4, .int .i64 b5, .int .i64 b6] 26)) fun h => al gw (by have := (GRW.out h).2; omega))
          replace XQ := Lib.hid (XQ.out.keep (w' := w7.alloc (.cells #[.int .i64 0, .int .i64 a1, .int .i64 a2, .int .i64 a3, .int .i64 b4, .int .i64 b5, .int .i64 b6] 26)) (al bq (by omega)))
          replace XA := Lib.hid (XA.out.keep (w' := w7.alloc (.cells #[.int .i64 0, .int .i64 a1, .int .i64 a2, .int .i64 a3, .int .i64 b4, .int .i64 b5, .int .i64 b6] 26)) (al ba (by omega)))
          replace BB := Lib.hid (BB.out.alloc BB.out.size (.cells #[.int .i64 0, .int .i64 a1, .int .i64 a2, .int .i64 a3, .int .i64 b4, .int .i64 b5, .int .i64 b6] 26))
          clear al
          obtain ⟨q0, q1, q2, q3, q4, q5, q6⟩ := XA.out.at_
          obtain ⟨r0, r1, r2, r3, r4, r5, r6⟩ := XB.out.at_
          obtain ⟨h0, h1, h2, h3, h4, h5, h6⟩ := XP.out.at_
          simp only [Nat.zero_add] at q0 q1 q2 q3 q4 q5 q6 r0 r1 r2 r3 r4 r5 r6 h0 h1 h2 h3 h4 h5 h6
          go_wp2_with fail
          obtain ⟨bb2, hbb2⟩ : ∃ bb2, bb2 = w7.heap.size := ⟨_, rfl⟩
          rw [← hbb2] at XB zbbb2 ⊢
          generalize w7.alloc (.cells #[.int .i64 0, .int .i64 a1, .int .i64 a2, .int .i64 a3, .int .i64 b4, .int .i64 b5, .int .i64 b6] 26) = Wbb2 at XB BB zbbb2 RL RM XP RW XQ XA q0 r0 h0 q1 r1 h1 q2 r2 h2 q3 r3 h3 q4 r4 h4 q5 r5 h5 q6 r6 h6 ⊢
          have lbb2 : bb2 < Wbb2.heap.size := by omega
          have mbb2 : w7.heap.size ≤ bb2 := by omega
          clear hbb2
          clear q0 q1 q2 q3 q4 q5 q6 r0 r1 r2 r3 r4 r5 r6 h0 h1 h2 h3 h4 h5 h6
          refine (CPh.out Wbb2 am cm gm RM.out).mono ?_
          rintro e w8 ⟨rfl, bb⟩
          replace BB := Lib.hid (BB.out.trans (bb.mono BB.out.size))
          have z8 := bb.size
          replace RL := Lib.hid (RL.out.keep (w' := w8) fun h => bb.block g (by omega))
          replace RM := Lib.hid (RM.out.keep (w' := w8) fun h => bb.block gm (by have := (GRM.out h).2; omega))
          replace XP := Lib.hid (XP.out.keep (w' := w8) (bb.block bp (by omega)))
          replace RW := Lib.hid (RW.out.keep (w' := w8) fun h => bb.block gw (by have := (GRW.out h).2; omega))
          replace XQ := Lib.hid (XQ.out.keep (w' := w8) (bb.block bq (by omega)))
          replace XA := Lib.hid (XA.out.keep (w' := w8) (bb.block ba (by omega)))
          replace XB := Lib.hid (XB.out.keep (w' := w8) (bb.block bb2 (by omega)))
          clear bb
          go_wp2
          go_ret
          exact ⟨rfl, BB.out⟩
        · have v1 : (M == 0) = false := by simp [v0]
          have oz := OZ.out v0
          have COB := fun w0 => base.owC 0 a1 a2 a3 b4 b5 b6 w0 SMBh.out
          rw [show base.ow (0, a1, a2, a3, b4, b5, b6) = 0 from oz] at COB
          have COBh := Lib.hid COB
          clear COB oz OZ v0
          have XB := Lib.hid (base.Bx.new w7 (0, a1, a2, a3, b4, b5, b6))
          have zbbb2 : (w7.alloc (.cells #[.int .i64 0, .int .i64 a1, .int .i64 a2, .int .i64 a3, .int .i64 b4, .int .i64 b5, .int .i64 b6] 26)).heap.size = w7.heap.size + 1 := by simp
          have al := fun k hk => Below.heap_alloc w7 (.cells #[.int .i64 0, .int .i64 a1, .int .i64 a2, .int .i64 a3, .int .i64 b4, .int .i64 b5, .int .i64 b6] 26) k hk
          replace RL := Lib.hid (RL.out.keep (w' := w7.alloc (.cells #[.int .i64 0, .int .i64 a1, .int .i64 a2, .int .i64 a3, .int .i64 b4, .int .i64 b5, .int .i64 b6] 26)) fun h => al g (by omega))
          replace RM := Lib.hid (RM.out.keep (w' := w7.alloc (.cells #[.int .i64 0, .int .i64 a1, .int .i64 a2, .int .i64 a3, .int .i64 b4, .int .i64 b5, .int .i64 b6] 26)) fun h => al gm (by have := (GRM.out h).2; omega))
          replace XP := Lib.hid (XP.out.keep (w' := w7.alloc (.cells #[.int .i64 0, .int .i64 a1, .int .i64 a2, .int .i64 a3, .int .i64 b4, .int .i64 b5, .int .i64 b6] 26)) (al bp (by omega)))
          replace RW := Lib.hid (RW.out.keep (w' := w7.alloc (.cells #[.int .i64 0, .int .i64 a1, .int .i64 a2, .int .i64 a3, .int .i64 b4, .int .i64 b5, .int .i64 b6] 26)) fun h => al gw (by have := (GRW.out h).2; omega))
          replace XQ := Lib.hid (XQ.out.keep (w' := w7.alloc (.cells #[.int .i64 0, .int .i64 a1, .int .i64 a2, .int .i64 a3, .int .i64 b4, .int .i64 b5, .int .i64 b6] 26)) (al bq (by omega)))
          replace XA := Lib.hid (XA.out.keep (w' := w7.alloc (.cells #[.int .i64 0, .int .i64 a1, .int .i64 a2, .int .i64 a3, .int .i64 b4, .int .i64 b5, .int .i64 b6] 26)) (al ba (by omega)))
          replace BB := Lib.hid (BB.out.alloc BB.out.size (.cells #[.int .i64 0, .int .i64 a1, .int .i64 a2, .int .i64 a3, .int .i64 b4, .int .i64 b5, .int .i64 b6] 26))
          clear al
          obtain ⟨q0, q1, q2, q3, q4, q5, q6⟩ := XA.out.at_
          obtain ⟨r0, r1, r2, r3, r4, r5, r6⟩ := XB.out.at_
          obtain ⟨h0, h1, h2, h3, h4, h5, h6⟩ := XP.out.at_
          simp only [Nat.zero_add] at q0 q1 q2 q3 q4 q5 q6 r0 r1 r2 r3 r4 r5 r6 h0 h1 h2 h3 h4 h5 h6
          go_wp2_with fail
          obtain ⟨bb2, hbb2⟩ : ∃ bb2, bb2 = w7.heap.size := ⟨_, rfl⟩
          rw [← hbb2] at XB zbbb2 ⊢
          generalize w7.alloc (.cells #[.int .i64 0, .int .i64 a1, .int .i64 a2, .int .i64 a3, .int .i64 b4, .int .i64 b5, .int .i64 b6] 26) = Wbb2 at XB BB zbbb2 RL RM XP RW XQ XA q0 r0 h0 q1 r1 h1 q2 r2 h2 q3 r3 h3 q4 r4 h4 q5 r5 h5 q6 r6 h6 ⊢
          have lbb2 : bb2 < Wbb2.heap.size := by omega
          have mbb2 : w7.heap.size ≤ bb2 := by omega
          clear hbb2
          clear q0 q1 q2 q3 q4 q5 q6 r0 r1 r2 r3 r4 r5 r6 h0 h1 h2 h3 h4 h5 h6
          refine (COBh.out Wbb2).mono ?_
          rintro e w8 ⟨rfl, bb⟩
          replace BB := Lib.hid (BB.out.trans (bb.mono BB.out.size))
          have z8 := bb.size
          replace RL := Lib.hid (RL.out.keep (w' := w8) fun h => bb.block g (by omega))
          replace RM := Lib.hid (RM.out.keep (w' := w8) fun h => bb.block gm (by have := (GRM.out h).2; omega))
          replace XP := Lib.hid (XP.out.keep (w' := w8) (bb.block bp (by omega)))
          replace RW := Lib.hid (RW.out.keep (w' := w8) fun h => bb.block gw (by have := (GRW.out h).2; omega))
          replace XQ := Lib.hid (XQ.out.keep (w' := w8) (bb.block bq (by omega)))
          replace XA := Lib.hid (XA.out.keep (w' := w8) (bb.block ba (by omega)))
          replace XB := Lib.hid (XB.out.keep (w' := w8) (bb.block bb2 (by omega)))
          clear bb
          obtain ⟨q0, q1, q2, q3, q4, q5, q6⟩ := XA.out.at_
          obtain ⟨r0, r1, r2, r3, r4, r5, r6⟩ := XB.out.at_
          obtain ⟨h0, h1, h2, h3, h4, h5, h6⟩ := XP.out.at_
          simp only [Nat.zero_add] at q0 q1 q2 q3 q4 q5 q6 r0 r1 r2 r3 r4 r5 r6 h0 h1 h2 h3 h4 h5 h6
          go_wp2_with fail
          refine (CPh.out w8 am cm gm RM.out).mono ?_
          rintro e w9 ⟨rfl, bb⟩
          replace BB := Lib.hid (BB.out.trans (bb.mono BB.out.size))
          have z9 := bb.size
          replace RL := Lib.hid (RL.out.keep (w' := w9) fun h => bb.block g (by omega))
          replace RM := Lib.hid (RM.out.keep (w' := w9) fun h => bb.block gm (by have := (GRM.out h).2; omega))
          replace XP := Lib.hid (XP.out.keep (w' := w9) (bb.block bp (by omega)))
          replace RW := Lib.hid (RW.out.keep (w' := w9) fun h => bb.block gw (by have := (GRW.out h).2; omega))
          replace XQ := Lib.hid (XQ.out.keep (w' := w9) (bb.block bq (by omega)))
          replace XA := Lib.hid (XA.out.keep (w' := w9) (bb.block ba (by omega)))
          replace XB := Lib.hid (XB.out.keep (w' := w9) (bb.block bb2 (by omega)))
          clear bb
          clear q0 q1 q2 q3 q4 q5 q6 r0 r1 r2 r3 r4 r5 r6 h0 h1 h2 h3 h4 h5 h6
          go_wp2
          go_ret
          exact ⟨rfl, BB.out⟩

theorem own : ownKnob Try.prog.godebug = none := by kernel_rfl
theorem laidOut : laidOutB Try.prog = true := by kernel_rfl
theorem isLaw : lift.IsLaw Rows.fnPaySpec 1 0 := fun _ ds gs h1 h2 => match ds, h1 with | [_], _ => match gs, h2 with | [], _ => rfl

set_option maxRecDepth 100000 in
theorem lifted (os : Os) (started : os.Started) (H : Type) (enc : TypeId × Value → H) :
    ReturnsInHanded {} Try.checked os 7 .any (Rows.fnPaySpec.pre6 enc Try.prog Try.f7 Rows.fnPayRow.domain false) (Rows.fnPaySpec.post enc Try.prog Try.f7 false true false false) := by
  refine returnsInHanded_of_change (C := Try.checked) own started (by kernel_rfl) Try.func7
    (ChangeSpec.witness6 (enc := enc) (C := Try.checked) false ⟨#[], #[.slice none 0 0], []⟩ 8 (by kernel_rfl) (by kernel_rfl) (by kernel_rfl) (by kernel_rfl)) ?_
  intro W base args ds gs before hval0 hW _ _
  have hval : ∀ (j : Nat) t v, Try.f7.params[j]? = some t → args[j]? = some v → Value.okWide Try.prog W .any base t v := hval0
  have hW' := hW
  obtain ⟨p, q, hA0, hV, hrest⟩ := hW
  have hA : DataW.TrodAll enc Try.prog W 0 (fun _ => true) true Try.f7.params.toList args.toList ds p := hA0
  clear hA0 hval0 hV hrest
  rw [Try.params7] at hA hval
  obtain ⟨v0, d0, rfl, rfl, h0⟩ := trodAll_one hA
  obtain ⟨a, len, cap, rfl, hlen, hB⟩ := draw.open_code Try.underlying34 Try.underlying5 (by kernel_rfl) (hval 0 34 v0 rfl rfl) h0
  have wk : Calls Try.prog 7 #[.slice a len cap] W fun e w' => e = .returned (.bool true) ∧ Below W.heap.size W w' := by
    by_cases hb : len ≤ 1048576
    · exact walk_small a cap len W hB hb
    · exact walk_big a len cap W hlen (by omega)
  refine (wk).mono fun e W' ⟨he, hb⟩ => ?_
  subst he
  exact ⟨_, rfl, lift.law_post laidOut (by kernel_rfl) (by kernel_rfl) (by kernel_rfl) Try.underlying4 (by rw [Try.params7]; exact isLaw) hW' hb⟩

theorem over : Rows.fnPayRow.holds Try.pinned (OpenSpec.ofChange Rows.fnPaySpec) :=
  OpenClaim.holds_of_wide 7 Try.f7 rfl rfl rfl rfl rfl rfl rfl ⟨rfl, rfl, rfl, rfl, rfl⟩ rfl rfl rfl rfl rfl (by kernel_rfl) Try.func7 (by kernel_rfl)
    (of_decide_eq_true (by kernel_rfl)) (by unfold Func.isWrapper; first | (rw [if_pos (by decide +kernel)]; kernel_rfl) | (rw [if_neg (by decide +kernel)]; exact ⟨rfl, rfl⟩))
    (fun os started H enc _ => lifted os started H enc)

theorem proved : Rows.FnPaySaid := over
#print axioms proved
end Go.Proofs.Ytmnmijiikjpdnaa.fnPay
