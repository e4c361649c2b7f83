/-
  Proved: for every code, the drawn plan paid in two pieces is the plan paid at once; the law laws.FnPayTwice returns true and its arguments read as before. Conditions: none beyond the given row.
-/
import Derived.Test.YtmnmijiikjpdnaaDrL
import Derived.Test.YtmnmijiikjpdnaaTw
import Derived.Test.YtmnmijiikjpdnaaPyS
import Derived.Test.YtmnmijiikjpdnaaPyI
import Derived.Test.YtmnmijiikjpdnaaPkS
import Derived.Test.YtmnmijiikjpdnaaLn7
import Derived.Carry
namespace Go.Proofs.Ytmnmijiikjpdnaa.fnPayTwice
open Go.ChangeShapes Go.WideShapes Go.ChangeAt Go.RowKit


theorem walk_big (a : Option Addr) (len cap : Nat) (w : World) (hl : len ≤ maxLen) (hb : 1048576 < len) : Calls Try.prog 8 #[.slice a len cap] w fun e w' => e = .returned (.bool true) ∧ Below w.heap.size w w' := by
  go_enter Try.func8, Try.ntmps8
  go_wp2_with fail
  refine (draw.bigT a len cap w hb hl).mono ?_
  rintro e w' ⟨rfl, rfl⟩
  go_wp2
  go_ret
  exact ⟨rfl, Below.refl _ _⟩

set_option maxRecDepth 100000 in
set_option maxHeartbeats 8000000 in
theorem walk_small (a : Option Addr) (cap len : Nat) (w : World) (hB : draw.Bytes w a len) (hn : len ≤ 1048576) : Calls Try.prog 8 #[.slice a len cap] w fun e w' => e = .returned (.bool true) ∧ Below w.heap.size w w' := by
  have HB := Lib.hid hB
  clear hB
  go_enter Try.func8, Try.ntmps8
  go_wp2_with fail
  refine (draw.bigF a len cap w hn).mono ?_
  rintro e w' ⟨rfl, rfl⟩
  go_wp2_with fail
  refine (base.drawPay a len cap w HB.out hn).mono ?_
  rintro e w1 ⟨cl, g, l, n, rfl, rl, lo, hi, p1, p24, b1⟩
  have RL := Lib.hid rl
  have BB := Lib.hid b1
  clear rl b1 HB
  have CPK := fun w0 c g r => base.pkS w0 (some ⟨g, 0, none⟩) c g l r (by omega)
  have CPKh := Lib.hid CPK
  clear CPK
  go_wp2_with fail
  refine (CPKh.out w1 _ g RL.out).mono ?_
  rintro e w2 ⟨rfl, bb⟩
  replace BB := Lib.hid (BB.out.trans (bb.mono BB.out.size))
  have z2 := bb.size
  replace RL := Lib.hid (RL.out.keep (w' := w2) fun h => bb.block g (by omega))
  clear bb
  cases hv : pl.pv l with
  | false =>
    have NO := Lib.hid (base.py_no (l := l) (n := n) (by unfold base.pyOk; rw [hv]; rfl))
    clear hv
    have CI := fun w0 c g r => base.ppI n w0 c g l r (by omega)
    unfold base.Out3 at CI
    rw [NO.out.1, NO.out.2] at CI
    dsimp only [List.length_nil] at CI
    have CIh := Lib.hid CI
    clear CI NO
    go_wp2_with fail
    refine (CIh.out w2 _ g RL.out).mono ?_
    rintro e w3 ⟨am, cm, gm, rfl, r0, G0, bb⟩
    replace BB := Lib.hid (BB.out.trans (bb.mono BB.out.size))
    have z3 := bb.size
    replace RL := Lib.hid (RL.out.keep (w' := w3) fun h => bb.block g (by omega))
    clear bb
    clear r0 G0
    go_wp2
    go_ret
    exact ⟨rfl, BB.out.alloc BB.out.size _⟩
  | true =>
    have PV := Lib.hid (pl.pv_iff.1 hv)
    have HV := Lib.hid hv
    clear hv
    by_cases n0 : n < 0
    · have u0 : decide (n < 0) = true := by simp; omega
      have NO := Lib.hid (base.py_no (l := l) (n := n) (by unfold base.pyOk; rw [HV.out, Bool.true_and, pl.inR_not]; omega))
      have CI := fun w0 c g r => base.ppI n w0 c g l r (by omega)
      unfold base.Out3 at CI
      rw [NO.out.1, NO.out.2] at CI
      dsimp only [List.length_nil] at CI
      have CIh := Lib.hid CI
      clear CI NO
      go_wp2_with fail
      refine (CIh.out w2 _ g RL.out).mono ?_
      rintro e w3 ⟨am, cm, gm, rfl, r0, G0, bb⟩
      replace BB := Lib.hid (BB.out.trans (bb.mono BB.out.size))
      have z3 := bb.size
      replace RL := Lib.hid (RL.out.keep (w' := w3) fun h => bb.block g (by omega))
      clear bb
      clear r0 G0
      go_wp2
      go_ret
      exact ⟨rfl, BB.out.alloc BB.out.size _⟩
    · have u0 : decide (n < 0) = false := by simp; omega
      by_cases n1 : 1000000000000 < n
      · have u1 : decide (1000000000000 < n) = true := by simp; omega
        have NO := Lib.hid (base.py_no (l := l) (n := n) (by unfold base.pyOk; rw [HV.out, Bool.true_and, pl.inR_not]; omega))
        have CI := fun w0 c g r => base.ppI n w0 c g l r (by omega)
        unfold base.Out3 at CI
        rw [NO.out.1, NO.out.2] at CI
        dsimp only [List.length_nil] at CI
        have CIh := Lib.hid CI
        clear CI NO
        go_wp2_with fail
        refine (CIh.out w2 _ g RL.out).mono ?_
        rintro e w3 ⟨am, cm, gm, rfl, r0, G0, bb⟩
        replace BB := Lib.hid (BB.out.trans (bb.mono BB.out.size))
        have z3 := bb.size
        replace RL := Lib.hid (RL.out.keep (w' := w3) fun h => bb.block g (by omega))
        clear bb
        clear r0 G0
        go_wp2
        go_ret
        exact ⟨rfl, BB.out.alloc BB.out.size _⟩
      · have u1 : decide (1000000000000 < n) = false := by simp; omega
        obtain ⟨k, hk⟩ : ∃ k, k = n / 3 := ⟨_, rfl⟩
        have hk' : n.tdiv 3 = k := by rw [hk]; exact Int.tdiv_eq_ediv_of_nonneg (by omega)
        have k0 : 0 ≤ k := by omega
        have k1 : k ≤ n := by omega
        have TP := Lib.hid (base.two_pieces PV.out k0 k1 (by omega))
        have l1 : (base.pyL l k).length ≤ 24 := Nat.le_trans (base.pyL_len l k) p24
        have lp : (base.pyL l n).length ≤ 24 := Nat.le_trans (base.pyL_len l n) p24
        have okn : base.pyOk l n = true := by unfold base.pyOk; rw [HV.out, Bool.true_and, pl.inR_iff]; omega
        have okk : base.pyOk l k = true := by unfold base.pyOk; rw [HV.out, Bool.true_and, pl.inR_iff]; omega
        have l1' : 0 < (base.pyL l k).length := by rw [(base.py_yes okk).1, pl.fw_len]; omega
        have pvk : pl.PV (base.pyL l k) := by rw [(base.py_yes okk).1, pl.fw_all]; exact base.pay_pv PV.out k0
        have SN : base.Pst n (base.pyS l n) := by rw [(base.py_yes okn).2]; exact base.pst_b (fun i hi => PV.out.pin (i := i) hi) (by omega) l.length (Nat.le_refl _)
        have SK : base.Pst k (base.pyS l k) := by rw [(base.py_yes okk).2]; exact base.pst_b (fun i hi => PV.out.pin (i := i) hi) k0 l.length (Nat.le_refl _)
        have okd : base.pyOk (base.pyL l k) (n - k) = true := by unfold base.pyOk; rw [pl.pv_t pvk, Bool.true_and, pl.inR_iff]; omega
        have SD : base.Pst (n - k) (base.pyS (base.pyL l k) (n - k)) := by rw [(base.py_yes okd).2]; exact base.pst_b (fun i hi => pvk.pin (i := i) hi) (by omega) _ (Nat.le_refl _)
        have CI := fun w0 c g r => base.ppI n w0 c g l r (by omega)
        have CK := fun w0 c g r => base.ppI k w0 c g l r (by omega)
        have CS := fun w0 c g r => base.ppS n w0 c g l r (by omega)
        have CD := fun w0 c g r => base.ppI (n - k) w0 c g (base.pyL l k) r (by omega)
        unfold base.Out3 at CI CK CS CD
        rw [TP.out.1] at CD
        have TQ := TP.out.2
        generalize base.pyS (base.pyL l k) (n - k) = TD at *
        generalize base.pyS l n = TN at *
        generalize base.pyS l k = TK at *
        generalize base.pyL l n = P at *
        generalize base.pyL l k = Q at *
        obtain ⟨m1, u2, u3, u4⟩ := TN
        obtain ⟨m2, x2, x3, x4⟩ := TK
        obtain ⟨m3, y2, y3, y4⟩ := TD
        obtain ⟨s1, s2, s3, s4, s5⟩ := SN
        obtain ⟨s6, s7, s8, s9, s10⟩ := SK
        obtain ⟨s11, s12, s13, s14, s15⟩ := SD
        dsimp only at CI CK CS CD TQ s1 s2 s3 s4 s5 s6 s7 s8 s9 s10 s11 s12 s13 s14 s15
        have m2b : m2 ≤ 1000000000000 := by omega
        have m3b : m3 ≤ 1000000000000 := by omega
        have tq : (m1 == m2 + m3) = true := by simp; omega
        have CIh := Lib.hid CI
        have CKh := Lib.hid CK
        have CSh := Lib.hid CS
        have CDh := Lib.hid CD
        have KQ := Lib.hid l1'
        clear CI CK CS CD TQ TP hk pvk okn okk okd s1 s2 s3 s4 s5 s7 s8 s9 s10 s12 s13 s14 s15 l1'
        go_wp2_with fail
        refine (CIh.out w2 _ g RL.out).mono ?_
        rintro e w3 ⟨am, cm, gm, rfl, r0, G0, bb⟩
        replace BB := Lib.hid (BB.out.trans (bb.mono BB.out.size))
        have z3 := bb.size
        replace RL := Lib.hid (RL.out.keep (w' := w3) fun h => bb.block g (by omega))
        clear bb
        have RM := Lib.hid r0
        have GRM := Lib.hid G0
        clear r0 G0
        have XP := Lib.hid (base.Bx.new w3 (0, 0, 0, 0, u4, u3, u2))
        have zbbp : (w3.alloc (.cells #[.int .i64 0, .int .i64 0, .int .i64 0, .int .i64 0, .int .i64 u4, .int .i64 u3, .int .i64 u2] 26)).heap.size = w3.heap.size + 1 := by simp
        have al := fun k hk => Below.heap_alloc w3 (.cells #[.int .i64 0, .int .i64 0, .int .i64 0, .int .i64 0, .int .i64 u4, .int .i64 u3, .int .i64 u2] 26) k hk
        replace RL := Lib.hid (RL.out.keep (w' := w3.alloc (.cells #[.int .i64 0, .int .i64 0, .int .i64 0, .int .i64 0, .int .i64 u4, .int .i64 u3, .int .i64 u2] 26)) fun h => al g (by omega))
        replace RM := Lib.hid (RM.out.keep (w' := w3.alloc (.cells #[.int .i64 0, .int .i64 0, .int .i64 0, .int .i64 0, .int .i64 u4, .int .i64 u3, .int .i64 u2] 26)) fun h => al gm (by have := (GRM.out h).2; omega))
        replace BB := Lib.hid (BB.out.alloc BB.out.size (.cells #[.int .i64 0, .int .i64 0, .int .i64 0, .int .i64 0, .int .i64 u4, .int .i64 u3, .int .i64 u2] 26))
        clear al
        go_wp2_with fail
        obtain ⟨bp, hbp⟩ : ∃ bp, bp = w3.heap.size := ⟨_, rfl⟩
        rw [← hbp] at XP zbbp ⊢
        generalize w3.alloc (.cells #[.int .i64 0, .int .i64 0, .int .i64 0, .int .i64 0, .int .i64 u4, .int .i64 u3, .int .i64 u2] 26) = Wbp at XP BB zbbp RL RM ⊢
        have lbp : bp < Wbp.heap.size := by omega
        have mbp : w3.heap.size ≤ bp := by omega
        clear hbp
        refine (CKh.out Wbp _ g RL.out).mono ?_
        rintro e w4 ⟨ak, ck, gk, rfl, r0, G0, bb⟩
        replace BB := Lib.hid (BB.out.trans (bb.mono BB.out.size))
        have z4 := bb.size
        replace RL := Lib.hid (RL.out.keep (w' := w4) fun h => bb.block g (by omega))
        replace RM := Lib.hid (RM.out.keep (w' := w4) fun h => bb.block gm (by have := (GRM.out h).2; omega))
        replace XP := Lib.hid (XP.out.keep (w' := w4) (bb.block bp (by omega)))
        clear bb
        have RK := Lib.hid r0
        have GRK := Lib.hid G0
        clear r0 G0
        have XK := Lib.hid (base.Bx.new w4 (0, 0, 0, 0, x4, x3, x2))
        have zbbk : (w4.alloc (.cells #[.int .i64 0, .int .i64 0, .int .i64 0, .int .i64 0, .int .i64 x4, .int .i64 x3, .int .i64 x2] 26)).heap.size = w4.heap.size + 1 := by simp
        have al := fun k hk => Below.heap_alloc w4 (.cells #[.int .i64 0, .int .i64 0, .int .i64 0, .int .i64 0, .int .i64 x4, .int .i64 x3, .int .i64 x2] 26) k hk
        replace RL := Lib.hid (RL.out.keep (w' := w4.alloc (.cells #[.int .i64 0, .int .i64 0, .int .i64 0, .int .i64 0, .int .i64 x4, .int .i64 x3, .int .i64 x2] 26)) fun h => al g (by omega))
        replace RM := Lib.hid (RM.out.keep (w' := w4.alloc (.cells #[.int .i64 0, .int .i64 0, .int .i64 0, .int .i64 0, .int .i64 x4, .int .i64 x3, .int .i64 x2] 26)) fun h => al gm (by have := (GRM.out h).2; omega))
        replace XP := Lib.hid (XP.out.keep (w' := w4.alloc (.cells #[.int .i64 0, .int .i64 0, .int .i64 0, .int .i64 0, .int .i64 x4, .int .i64 x3, .int .i64 x2] 26)) (al bp (by omega)))
        replace RK := Lib.hid (RK.out.keep (w' := w4.alloc (.cells #[.int .i64 0, .int .i64 0, .int .i64 0, .int .i64 0, .int .i64 x4, .int .i64 x3, .int .i64 x2] 26)) fun h => al gk (by have := (GRK.out h).2; omega))
        replace BB := Lib.hid (BB.out.alloc BB.out.size (.cells #[.int .i64 0, .int .i64 0, .int .i64 0, .int .i64 0, .int .i64 x4, .int .i64 x3, .int .i64 x2] 26))
        clear al
        go_wp2_with fail
        obtain ⟨bk, hbk⟩ : ∃ bk, bk = w4.heap.size := ⟨_, rfl⟩
        rw [← hbk] at XK zbbk ⊢
        generalize w4.alloc (.cells #[.int .i64 0, .int .i64 0, .int .i64 0, .int .i64 0, .int .i64 x4, .int .i64 x3, .int .i64 x2] 26) = Wbk at XK BB zbbk RL RM XP RK ⊢
        have lbk : bk < Wbk.heap.size := by omega
        have mbk : w4.heap.size ≤ bk := by omega
        clear hbk
        have ek := RK.out.addr KQ.out
        subst ek
        refine (CDh.out Wbk _ gk RK.out).mono ?_
        rintro e w5 ⟨ad, cd, gd, rfl, r0, G0, bb⟩
        replace BB := Lib.hid (BB.out.trans (bb.mono BB.out.size))
        have z5 := bb.size
        replace RL := Lib.hid (RL.out.keep (w' := w5) fun h => bb.block g (by omega))
        replace RM := Lib.hid (RM.out.keep (w' := w5) fun h => bb.block gm (by have := (GRM.out h).2; omega))
        replace XP := Lib.hid (XP.out.keep (w' := w5) (bb.block bp (by omega)))
        replace RK := Lib.hid (RK.out.keep (w' := w5) fun h => bb.block gk (by have := (GRK.out h).2; omega))
        replace XK := Lib.hid (XK.out.keep (w' := w5) (bb.block bk (by omega)))
        clear bb
        have RD := Lib.hid r0
        have GRD := Lib.hid G0
        clear r0 G0
        have XD := Lib.hid (base.Bx.new w5 (0, 0, 0, 0, y4, y3, y2))
        have zbbd : (w5.alloc (.cells #[.int .i64 0, .int .i64 0, .int .i64 0, .int .i64 0, .int .i64 y4, .int .i64 y3, .int .i64 y2] 26)).heap.size = w5.heap.size + 1 := by simp
        have al := fun k hk => Below.heap_alloc w5 (.cells #[.int .i64 0, .int .i64 0, .int .i64 0, .int .i64 0, .int .i64 y4, .int .i64 y3, .int .i64 y2] 26) k hk
        replace RL := Lib.hid (RL.out.keep (w' := w5.alloc (.cells #[.int .i64 0, .int .i64 0, .int .i64 0, .int .i64 0, .int .i64 y4, .int .i64 y3, .int .i64 y2] 26)) fun h => al g (by omega))
        replace RM := Lib.hid (RM.out.keep (w' := w5.alloc (.cells #[.int .i64 0, .int .i64 0, .int .i64 0, .int .i64 0, .int .i64 y4, .int .i64 y3, .int .i64 y2] 26)) fun h => al gm (by have := (GRM.out h).2; omega))
        replace XP := Lib.hid (XP.out.keep (w' := w5.alloc (.cells #[.int .i64 0, .int .i64 0, .int .i64 0, .int .i64 0, .int .i64 y4, .int .i64 y3, .int .i64 y2] 26)) (al bp (by omega)))
        replace RK := Lib.hid (RK.out.keep (w' := w5.alloc (.cells #[.int .i64 0, .int .i64 0, .int .i64 0, .int .i64 0, .int .i64 y4, .int .i64 y3, .int .i64 y2] 26)) fun h => al gk (by have := (GRK.out h).2; omega))
        replace XK := Lib.hid (XK.out.keep (w' := w5.alloc (.cells #[.int .i64 0, .int .i64 0, .int .i64 0, .int .i64 0, .int .i64 y4, .int .i64 y3, .int .i64 y2] 26)) (al bk (by omega)))
        replace RD := Lib.hid (RD.out.keep (w' := w5.alloc (.cells #[.int .i64 0, .int .i64 0, .int .i64 0, .int .i64 0, .int .i64 y4, .int .i64 y3, .int .i64 y2] 26)) fun h => al gd (by have := (GRD.out h).2; omega))
        replace BB := Lib.hid (BB.out.alloc BB.out.size (.cells #[.int .i64 0, .int .i64 0, .int .i64 0, .int .i64 0, .int .i64 y4, .int .i64 y3, .int .i64 y2] 26))
        clear al
        go_wp2_with fail
        obtain ⟨bd, hbd⟩ : ∃ bd, bd = w5.heap.size := ⟨_, rfl⟩
        rw [← hbd] at XD zbbd ⊢
        generalize w5.alloc (.cells #[.int .i64 0, .int .i64 0, .int .i64 0, .int .i64 0, .int .i64 y4, .int .i64 y3, .int .i64 y2] 26) = Wbd at XD BB zbbd RL RM XP RK XK RD ⊢
        have lbd : bd < Wbd.heap.size := by omega
        have mbd : w5.heap.size ≤ bd := by omega
        clear hbd
        refine (CSh.out Wbd _ g RL.out).mono ?_
        rintro e w6 ⟨aw, cw, gw, rfl, r0, G0, bb⟩
        replace BB := Lib.hid (BB.out.trans (bb.mono BB.out.size))
        have z6 := bb.size
        replace RL := Lib.hid (RL.out.keep (w' := w6) fun h => bb.block g (by omega))
        replace RM := Lib.hid (RM.out.keep (w' := w6) fun h => bb.block gm (by have := (GRM.out h).2; omega))
        replace XP := Lib.hid (XP.out.keep (w' := w6) (bb.block bp (by omega)))
        replace RK := Lib.hid (RK.out.keep (w' := w6) fun h => bb.block gk (by have := (GRK.out h).2; omega))
        replace XK := Lib.hid (XK.out.keep (w' := w6) (bb.block bk (by omega)))
        replace RD := Lib.hid (RD.out.keep (w' := w6) fun h => bb.block gd (by have := (GRD.out h).2; omega))
        replace XD := Lib.hid (XD.out.keep (w' := w6) (bb.block bd (by omega)))
        clear bb
        have RW := Lib.hid r0
        have GRW := Lib.hid G0
        clear r0 G0
        have XS := Lib.hid (base.Bx.new w6 (0, 0, 0, 0, u4, u3, u2))
        have zbbs : (w6.alloc (.cells #[.int .i64 0, .int .i64 0, .int .i64 0, .int .i64 0, .int .i64 u4, .int .i64 u3, .int .i64 u2] 26)).heap.size = w6.heap.size + 1 := by simp
        have al := fun k hk => Below.heap_alloc w6 (.cells #[.int .i64 0, .int .i64 0, .int .i64 0, .int .i64 0, .int .i64 u4, .int .i64 u3, .int .i64 u2] 26) k hk
        replace RL := Lib.hid (RL.out.keep (w' := w6.alloc (.cells #[.int .i64 0, .int .i64 0, .int .i64 0, .int .i64 0, .int .i64 u4, .int .i64 u3, .int .i64 u2] 26)) fun h => al g (by omega))
        replace RM := Lib.hid (RM.out.keep (w' := w6.alloc (.cells #[.int .i64 0, .int .i64 0, .int .i64 0, .int .i64 0, .int .i64 u4, .int .i64 u3, .int .i64 u2] 26)) fun h => al gm (by have := (GRM.out h).2; omega))
        replace XP := Lib.hid (XP.out.keep (w' := w6.alloc (.cells #[.int .i64 0, .int .i64 0, .int .i64 0, .int .i64 0, .int .i64 u4, .int .i64 u3, .int .i64 u2] 26)) (al bp (by omega)))
        replace RK := Lib.hid (RK.out.keep (w' := w6.alloc (.cells #[.int .i64 0, .int .i64 0, .int .i64 0, .int .i64 0, .int .i64 u4, .int .i64 u3, .int .i64 u2] 26)) fun h => al gk (by have := (GRK.out h).2; omega))
        replace XK := Lib.hid (XK.out.keep (w' := w6.alloc (.cells #[.int .i64 0, .int .i64 0, .int .i64 0, .int .i64 0, .int .i64 u4, .int .i64 u3, .int .i64 u2] 26)) (al bk (by omega)))
        replace RD := Lib.hid (RD.out.keep (w' := w6.alloc (.cells #[.int .i64 0, .int .i64 0, .int .i64 0, .int .i64 0, .int .i64 u4, .int .i64 u3, .int .i64 u2] 26)) fun h => al gd (by have := (GRD.out h).2; omega))
        replace XD := Lib.hid (XD.out.keep (w' := w6.alloc (.cells #[.int .i64 0, .int .i64 0, .int .i64 0, .int .i64 0, .int .i64 u4, .int .i64 u3, .int .i64 u2] 26)) (al bd (by omega)))
        replace RW := Lib.hid (RW.out.keep (w' := w6.alloc (.cells #[.int .i64 0, .int .i64 0, .int .i64 0, .int .i64 0, .int .i64 u4, .int .i64 u3, .int .i64 u2] 26)) fun h => al gw (by have := (GRW.out h).2; omega))
        replace BB := Lib.hid (BB.out.alloc BB.out.size (.cells #[.int .i64 0, .int .i64 0, .int .i64 0, .int .i64 0, .int .i64 u4, .int .i64 u3, .int .i64 u2] 26))
        clear al
        go_wp2_with fail
        obtain ⟨bs, hbs⟩ : ∃ bs, bs = w6.heap.size := ⟨_, rfl⟩
        rw [← hbs] at XS zbbs ⊢
        generalize w6.alloc (.cells #[.int .i64 0, .int .i64 0, .int .i64 0, .int .i64 0, .int .i64 u4, .int .i64 u3, .int .i64 u2] 26) = Wbs at XS BB zbbs RL RM XP RK XK RD XD RW ⊢
        have lbs : bs < Wbs.heap.size := by omega
        have mbs : w6.heap.size ≤ bs := by omega
        clear hbs
        refine (seven.samT Wbs am ad cm cd gm gd P RM.out RD.out (by omega)).mono ?_
        rintro e w7 ⟨rfl, bb⟩
        replace BB := Lib.hid (BB.out.trans (bb.mono BB.out.size))
        have z7 := bb.size
        replace RL := Lib.hid (RL.out.keep (w' := w7) fun h => bb.block g (by omega))
        replace RM := Lib.hid (RM.out.keep (w' := w7) fun h => bb.block gm (by have := (GRM.out h).2; omega))
        replace XP := Lib.hid (XP.out.keep (w' := w7) (bb.block bp (by omega)))
        replace RK := Lib.hid (RK.out.keep (w' := w7) fun h => bb.block gk (by have := (GRK.out h).2; omega))
        replace XK := Lib.hid (XK.out.keep (w' := w7) (bb.block bk (by omega)))
        replace RD := Lib.hid (RD.out.keep (w' := w7) fun h => bb.block gd (by have := (GRD.out h).2; omega))
        replace XD := Lib.hid (XD.out.keep (w' := w7) (bb.block bd (by omega)))
        replace RW := Lib.hid (RW.out.keep (w' := w7) fun h => bb.block gw (by have := (GRW.out h).2; omega))
        replace XS := Lib.hid (XS.out.keep (w' := w7) (bb.block bs (by omega)))
        clear bb
        go_wp2_with fail
        refine (seven.samT w7 am aw cm cw gm gw P RM.out RW.out (by omega)).mono ?_
        rintro e w8 ⟨rfl, bb⟩
        replace BB := Lib.hid (BB.out.trans (bb.mono BB.out.size))
        have z8 := bb.size
        replace RL := Lib.hid (RL.out.keep (w' := w8) fun h => bb.block g (by omega))
        replace RM := Lib.hid (RM.out.keep (w' := w8) fun h => bb.block gm (by have := (GRM.out h).2; omega))
        replace XP := Lib.hid (XP.out.keep (w' := w8) (bb.block bp (by omega)))
        replace RK := Lib.hid (RK.out.keep (w' := w8) fun h => bb.block gk (by have := (GRK.out h).2; omega))
        replace XK := Lib.hid (XK.out.keep (w' := w8) (bb.block bk (by omega)))
        replace RD := Lib.hid (RD.out.keep (w' := w8) fun h => bb.block gd (by have := (GRD.out h).2; omega))
        replace XD := Lib.hid (XD.out.keep (w' := w8) (bb.block bd (by omega)))
        replace RW := Lib.hid (RW.out.keep (w' := w8) fun h => bb.block gw (by have := (GRW.out h).2; omega))
        replace XS := Lib.hid (XS.out.keep (w' := w8) (bb.block bs (by omega)))
        clear bb
        go_wp2
        go_ret
        exact ⟨rfl, BB.out⟩

theorem own : ownKnob Try.prog.godebug = none := by kernel_rfl
theorem laidOut : laidOutB Try.prog = true := by kernel_rfl
theorem isLaw : lift.IsLaw Rows.fnPayTwiceSpec 1 0 := fun _ ds gs h1 h2 => match ds, h1 with | [_], _ => match gs, h2 with | [], _ => rfl

set_option maxRecDepth 100000 in
theorem lifted (os : Os) (started : os.Started) (H : Type) (enc : TypeId × Value → H) :
    ReturnsInHanded {} Try.checked os 8 .any (Rows.fnPayTwiceSpec.pre6 enc Try.prog Try.f8 Rows.fnPayTwiceRow.domain false) (Rows.fnPayTwiceSpec.post enc Try.prog Try.f8 false true false false) := by
  refine returnsInHanded_of_change (C := Try.checked) own started (by kernel_rfl) Try.func8
    (ChangeSpec.witness6 (enc := enc) (C := Try.checked) false ⟨#[], #[.slice none 0 0], []⟩ 8 (by kernel_rfl) (by kernel_rfl) (by kernel_rfl) (by kernel_rfl)) ?_
  intro W base args ds gs before hval0 hW _ _
  have hval : ∀ (j : Nat) t v, Try.f8.params[j]? = some t → args[j]? = some v → Value.okWide Try.prog W .any base t v := hval0
  have hW' := hW
  obtain ⟨p, q, hA0, hV, hrest⟩ := hW
  have hA : DataW.TrodAll enc Try.prog W 0 (fun _ => true) true Try.f8.params.toList args.toList ds p := hA0
  clear hA0 hval0 hV hrest
  rw [Try.params8] at hA hval
  obtain ⟨v0, d0, rfl, rfl, h0⟩ := trodAll_one hA
  obtain ⟨a, len, cap, rfl, hlen, hB⟩ := draw.open_code Try.underlying34 Try.underlying5 (by kernel_rfl) (hval 0 34 v0 rfl rfl) h0
  have wk : Calls Try.prog 8 #[.slice a len cap] W fun e w' => e = .returned (.bool true) ∧ Below W.heap.size W w' := by
    by_cases hb : len ≤ 1048576
    · exact walk_small a cap len W hB hb
    · exact walk_big a len cap W hlen (by omega)
  refine (wk).mono fun e W' ⟨he, hb⟩ => ?_
  subst he
  exact ⟨_, rfl, lift.law_post laidOut (by kernel_rfl) (by kernel_rfl) (by kernel_rfl) Try.underlying4 (by rw [Try.params8]; exact isLaw) hW' hb⟩

theorem over : Rows.fnPayTwiceRow.holds Try.pinned (OpenSpec.ofChange Rows.fnPayTwiceSpec) :=
  OpenClaim.holds_of_wide 8 Try.f8 rfl rfl rfl rfl rfl rfl rfl ⟨rfl, rfl, rfl, rfl, rfl⟩ rfl rfl rfl rfl rfl (by kernel_rfl) Try.func8 (by kernel_rfl)
    (of_decide_eq_true (by kernel_rfl)) (by unfold Func.isWrapper; first | (rw [if_pos (by decide +kernel)]; kernel_rfl) | (rw [if_neg (by decide +kernel)]; exact ⟨rfl, rfl⟩))
    (fun os started H enc _ => lifted os started H enc)

theorem proved : Rows.FnPayTwiceSaid := over
#print axioms proved
end Go.Proofs.Ytmnmijiikjpdnaa.fnPayTwice
