/-
  Proved: for every code, a Part of the drawn plan is late once, the told sum is the increase of what is due, and a second time there is no fee; the law laws.FnLate returns true and its arguments read as before. Conditions: none beyond the given row.
-/
import Derived.Test.YtmnmijiikjpdnaaDrF
import Derived.Test.YtmnmijiikjpdnaaPkH
import Derived.Test.YtmnmijiikjpdnaaLtS
import Derived.Test.YtmnmijiikjpdnaaLtI
import Derived.Test.YtmnmijiikjpdnaaPkI
import Derived.Test.YtmnmijiikjpdnaaSmI
import Derived.Test.YtmnmijiikjpdnaaLn7
import Derived.Carry
namespace Go.Proofs.Ytmnmijiikjpdnaa.fnLate
open Go.ChangeShapes Go.WideShapes Go.ChangeAt Go.RowKit


theorem walk_big (a : Option Addr) (len cap : Nat) (w : World) (hl : len ≤ maxLen) (hb : 1048576 < len) : Calls Try.prog 6 #[.slice a len cap] w fun e w' => e = .returned (.bool true) ∧ Below w.heap.size w w' := by
  go_enter Try.func6, Try.ntmps6
  go_wp2_with fail
  refine (draw.bigT a len cap w hb hl).mono ?_
  rintro e w' ⟨rfl, rfl⟩
  go_wp2
  go_ret
  exact ⟨rfl, Below.refl _ _⟩

set_option maxRecDepth 100000 in
set_option maxHeartbeats 8000000 in
theorem walk_small (a : Option Addr) (cap len : Nat) (w : World) (hB : draw.Bytes w a len) (hn : len ≤ 1048576) : Calls Try.prog 6 #[.slice a len cap] w fun e w' => e = .returned (.bool true) ∧ Below w.heap.size w w' := by
  have HB := Lib.hid hB
  clear hB
  go_enter Try.func6, Try.ntmps6
  go_wp2_with fail
  refine (draw.bigF a len cap w hn).mono ?_
  rintro e w' ⟨rfl, rfl⟩
  go_wp2_with fail
  refine (base.drawLate a len cap w HB.out hn).mono ?_
  rintro e w1 ⟨cl, g, l, d, f, p, rfl, rl, lo, hi, p1, p24, b1⟩
  have RL := Lib.hid rl
  have BB := Lib.hid b1
  clear rl b1 HB
  have CS := fun w0 c g r => base.ltS d f p w0 c g l r (by omega)
  have CI := fun w0 c g r => base.ltI d f p w0 c g l r (by omega)
  unfold base.Out at CS CI
  have lp : (base.ltL l d f p).length ≤ 24 := Nat.le_trans (base.ltL_len l d f p) p24
  have FACT := Lib.hid (show base.ltOk l d f p = true → (pl.PV l ∧ 0 ≤ d ∧ d ≤ 100000 ∧ 0 ≤ f ∧ f ≤ 100000 ∧ 0 ≤ p ∧ p ≤ 60) ∧ pl.PV (base.ltL l d f p) ∧ (base.ltL l d f p).length = l.length ∧ base.LateT l (base.ltL l d f p) 0 (base.ltN l d f p) ∧ (0 ≤ base.ltN l d f p ∧ base.ltN l d f p ≤ 2400000) ∧ (∀ i, i < l.length → ((base.ltL l d f p).getD i seven.zz).2.2.2.1 = (l.getD i seven.zz).2.2.2.1 ∨ (((base.ltL l d f p).getD i seven.zz).2.2.2.1 = f ∧ (l.getD i seven.zz).1 + p < d ∧ (l.getD i seven.zz).2.2.2.1 = 0)) ∧ base.ltL (base.ltL l d f p) d f p = base.ltL l d f p ∧ base.ltN (base.ltL l d f p) d f p = 0 from fun ok => by
    have ok' := ok
    unfold base.ltOk at ok'
    rw [Bool.and_eq_true, Bool.and_eq_true, Bool.and_eq_true, pl.inR_iff, pl.inR_iff, pl.inR_iff, pl.pv_iff] at ok'
    obtain ⟨hv, ⟨⟨d0, d1⟩, f0, f1⟩, q0, q1⟩ := ok'
    have eL : base.ltL l d f p = (pl.ml (pl.late d f p) 0 l).1 := by rw [(base.lt_yes ok).1, pl.fw_all]
    have eN : base.ltN l d f p = (pl.ml (pl.late d f p) 0 l).2 := by rw [(base.lt_yes ok).2, pl.fs_all]
    have eS := base.late_sum (d := d) (f := f) (g := p) (l := l) f0 f1 l.length (Nat.le_refl _)
    rw [pl.fs_all] at eS
    have hp := base.late_pv (d := d) (g := p) hv f0 (show f ≤ 1000000000000 by omega)
    have ok2 : base.ltOk (pl.ml (pl.late d f p) 0 l).1 d f p = true := by
      unfold base.ltOk
      rw [pl.pv_t hp, Bool.true_and, Bool.and_eq_true, Bool.and_eq_true, pl.inR_iff, pl.inR_iff, pl.inR_iff]
      exact ⟨⟨⟨d0, d1⟩, f0, f1⟩, q0, q1⟩
    rw [eL, eN]
    refine ⟨⟨hv, d0, d1, f0, f1, q0, q1⟩, hp, pl.ml_len _ _ _, base.late_tot l 0, ⟨eS.1, by omega⟩, fun i hi => ?_, ?_, ?_⟩
    · rw [base.ml_get _ _ _ _ hi]
      generalize l.getD i seven.zz = x
      cases hl : pl.isLate d p x with
      | false => rw [base.late_f hl]; exact .inl rfl
      | true =>
        rw [base.late_t hl]
        unfold pl.isLate at hl
        simp only [Bool.and_eq_true, beq_iff_eq, decide_eq_true_eq] at hl
        exact .inr ⟨rfl, hl.1.1, hl.1.2⟩
    · rw [(base.lt_yes ok2).1, pl.fw_all, base.late_twice]
    · rw [(base.lt_yes ok2).2, pl.fs_all, base.late_twice])
  have NIL := Lib.hid (fun h => (base.lt_no (l := l) (d := d) (f := f) (g := p) h).1)
  have CK := fun w0 c g r => base.ltI d f p w0 c g (base.ltL l d f p) r (by omega)
  unfold base.Out at CK
  obtain ⟨P, hP⟩ : ∃ P, P = base.ltL l d f p := ⟨_, rfl⟩
  obtain ⟨M, hM⟩ : ∃ M, M = base.ltN l d f p := ⟨_, rfl⟩
  rw [← hP, ← hM] at CS CI FACT
  rw [← hP] at lp CK NIL
  clear hP hM
  have CSh := Lib.hid CS
  have CIh := Lib.hid CI
  have CKh := Lib.hid CK
  clear CS CI CK
  have tc : (M != M) = false := by simp
  have tc' : (M == M) = true := by simp
  go_wp2_with fail
  refine (CIh.out w1 _ g RL.out).mono ?_
  rintro e w2 ⟨am, cm, gm, rfl, r0, G0, bb⟩
  replace BB := Lib.hid (BB.out.trans (bb.mono BB.out.size))
  have z2 := bb.size
  replace RL := Lib.hid (RL.out.keep (w' := w2) fun h => bb.block g (by omega))
  clear bb
  have RM := Lib.hid r0
  have GRM := Lib.hid G0
  clear r0 G0
  go_wp2_with fail
  refine (CSh.out w2 _ g RL.out).mono ?_
  rintro e w3 ⟨aw, cw, gw, rfl, r0, G0, bb⟩
  replace BB := Lib.hid (BB.out.trans (bb.mono BB.out.size))
  have z3 := bb.size
  replace RL := Lib.hid (RL.out.keep (w' := w3) fun h => bb.block g (by omega))
  replace RM := Lib.hid (RM.out.keep (w' := w3) fun h => bb.block gm (by have := (GRM.out h).2; omega))
  clear bb
  have RW := Lib.hid r0
  have GRW := Lib.hid G0
  clear r0 G0
  go_wp2_with fail
  refine (seven.samT w3 am aw cm cw gm gw P RM.out RW.out (by omega)).mono ?_
  rintro e w4 ⟨rfl, bb⟩
  replace BB := Lib.hid (BB.out.trans (bb.mono BB.out.size))
  have z4 := bb.size
  replace RL := Lib.hid (RL.out.keep (w' := w4) fun h => bb.block g (by omega))
  replace RM := Lib.hid (RM.out.keep (w' := w4) fun h => bb.block gm (by have := (GRM.out h).2; omega))
  replace RW := Lib.hid (RW.out.keep (w' := w4) fun h => bb.block gw (by have := (GRW.out h).2; omega))
  clear bb
  cases ok : base.ltOk l d f p with
  | false =>
    have uz : ((P.length : Int) == 0) = true := by rw [NIL.out ok]; rfl
    clear ok FACT NIL CKh
    
    go_wp2_with fail
    refine (seven.samT w4 am aw cm cw gm gw P RM.out RW.out (by omega)).mono ?_
    rintro e w5 ⟨rfl, bb⟩
    replace BB := Lib.hid (BB.out.trans (bb.mono BB.out.size))
    have z5 := bb.size
    replace RL := Lib.hid (RL.out.keep (w' := w5) fun h => bb.block g (by omega))
    replace RM := Lib.hid (RM.out.keep (w' := w5) fun h => bb.block gm (by have := (GRM.out h).2; omega))
    replace RW := Lib.hid (RW.out.keep (w' := w5) fun h => bb.block gw (by have := (GRW.out h).2; omega))
    clear bb
    go_wp2
    go_ret
    exact ⟨rfl, BB.out⟩
  | true =>
    obtain ⟨⟨hv, d0, d1, f0, f1, q0', q1'⟩, PVP, LP, LT, ⟨M0, M1⟩, EL, EK, EM⟩ := FACT.out ok
    have PV := Lib.hid hv
    have ELh := Lib.hid EL
    have LPh := Lib.hid LP
    have pp : 0 < P.length := by omega
    have uz : ((P.length : Int) == 0) = false := beq_eq_false_iff_ne.2 (by omega)
    have uz' : (P.length == 0) = false := beq_eq_false_iff_ne.2 (by omega)
    rw [EK, EM] at CKh
    have SA := base.sums_tot PV.out
    have SB := base.sums_tot PVP
    have SMA := base.sml_sums PV.out
    have SMB := base.sml_sums PVP
    have CA := fun w0 c g r => base.smI w0 (some ⟨g, 0, none⟩) c g l r (by omega)
    have CB := fun w0 a c g r => base.smI w0 a c g P r (by omega)
    rw [SA] at CA SMA
    rw [SB] at CB SMB
    obtain ⟨eP, eI, eF, ep, ei, ef⟩ := LT
    generalize base.tot base.fP l = a1 at *
    generalize base.tot base.fI l = a2 at *
    generalize base.tot base.fF l = a3 at *
    generalize base.tot base.fp l = a4 at *
    generalize base.tot base.fi l = a5 at *
    generalize base.tot base.ff l = a6 at *
    generalize base.tot base.fP P = b1 at *
    generalize base.tot base.fI P = b2 at *
    generalize base.tot base.fF P = b3 at *
    generalize base.tot base.fp P = b4 at *
    generalize base.tot base.fi P = b5 at *
    generalize base.tot base.ff P = b6 at *
    have CAh := Lib.hid CA
    have CBh := Lib.hid CB
    have SMAh := Lib.hid SMA
    have SMBh := Lib.hid SMB
    have PVPh := Lib.hid PVP
    have NUM := Lib.hid (show b1 = a1 ∧ b2 = a2 ∧ b3 = a3 + M ∧ b4 = a4 ∧ b5 = a5 ∧ b6 = a6 from ⟨eP, eI, by omega, ep, ei, ef⟩)
    have e0 := RM.out.addr pp
    subst e0
    clear CA CB SA SB SMA SMB PVP EL EK EM FACT NIL ok hv eP eI eF ep ei ef LP
    go_wp2_with fail
    refine (CKh.out w4 _ gm RM.out).mono ?_
    rintro e w5 ⟨aa, ca, ga, rfl, r0, G0, bb⟩
    replace BB := Lib.hid (BB.out.trans (bb.mono BB.out.size))
    have z5 := bb.size
    replace RL := Lib.hid (RL.out.keep (w' := w5) fun h => bb.block g (by omega))
    replace RM := Lib.hid (RM.out.keep (w' := w5) fun h => bb.block gm (by have := (GRM.out h).2; omega))
    replace RW := Lib.hid (RW.out.keep (w' := w5) fun h => bb.block gw (by have := (GRW.out h).2; omega))
    clear bb
    have RA := Lib.hid r0
    have GRA := Lib.hid G0
    clear r0 G0
    go_wp2_with fail
    refine (CAh.out w5 _ g RL.out).mono ?_
    rintro e w6 ⟨rfl, bb⟩
    replace BB := Lib.hid (BB.out.trans (bb.mono BB.out.size))
    have z6 := bb.size
    replace RL := Lib.hid (RL.out.keep (w' := w6) fun h => bb.block g (by omega))
    replace RM := Lib.hid (RM.out.keep (w' := w6) fun h => bb.block gm (by have := (GRM.out h).2; omega))
    replace RW := Lib.hid (RW.out.keep (w' := w6) fun h => bb.block gw (by have := (GRW.out h).2; omega))
    replace RA := Lib.hid (RA.out.keep (w' := w6) fun h => bb.block ga (by have := (GRA.out h).2; omega))
    clear bb
    have XA := Lib.hid (base.Bx.new w6 (0, a1, a2, a3, a4, a5, a6))
    have zbba : (w6.alloc (.cells #[.int .i64 0, .int .i64 a1, .int .i64 a2, .int .i64 a3, .int .i64 a4, .int .i64 a5, .int .i64 a6] 26)).heap.size = w6.heap.size + 1 := by simp
    have al := fun k hk => Below.heap_alloc w6 (.cells #[.int .i64 0, .int .i64 a1, .int .i64 a2, .int .i64 a3, .int .i64 a4, .int .i64 a5, .int .i64 a6] 26) k hk
    replace RL := Lib.hid (RL.out.keep (w' := w6.alloc (.cells #[.int .i64 0, .int .i64 a1, .int .i64 a2, .int .i64 a3, .int .i64 a4, .int .i64 a5, .int .i64 a6] 26)) fun h => al g (by omega))
    replace RM := Lib.hid (RM.out.keep (w' := w6.alloc (.cells #[.int .i64 0, .int .i64 a1, .int .i64 a2, .int .i64 a3, .int .i64 a4, .int .i64 a5, .int .i64 a6] 26)) fun h => al gm (by have := (GRM.out h).2; omega))
    replace RW := Lib.hid (RW.out.keep (w' := w6.alloc (.cells #[.int .i64 0, .int .i64 a1, .int .i64 a2, .int .i64 a3, .int .i64 a4, .int .i64 a5, .int .i64 a6] 26)) fun h => al gw (by have := (GRW.out h).2; omega))
    replace RA := Lib.hid (RA.out.keep (w' := w6.alloc (.cells #[.int .i64 0, .int .i64 a1, .int .i64 a2, .int .i64 a3, .int .i64 a4, .int .i64 a5, .int .i64 a6] 26)) fun h => al ga (by have := (GRA.out h).2; omega))
    replace BB := Lib.hid (BB.out.alloc BB.out.size (.cells #[.int .i64 0, .int .i64 a1, .int .i64 a2, .int .i64 a3, .int .i64 a4, .int .i64 a5, .int .i64 a6] 26))
    clear al
    go_wp2_with fail
    obtain ⟨ba, hba⟩ : ∃ ba, ba = w6.heap.size := ⟨_, rfl⟩
    rw [← hba] at XA zbba ⊢
    generalize w6.alloc (.cells #[.int .i64 0, .int .i64 a1, .int .i64 a2, .int .i64 a3, .int .i64 a4, .int .i64 a5, .int .i64 a6] 26) = Wba at XA BB zbba RL RM RW RA ⊢
    have lba : ba < Wba.heap.size := by omega
    have mba : w6.heap.size ≤ ba := by omega
    clear hba
    refine (CBh.out Wba _ cm gm RM.out).mono ?_
    rintro e w7 ⟨rfl, bb⟩
    replace BB := Lib.hid (BB.out.trans (bb.mono BB.out.size))
    have z7 := bb.size
    replace RL := Lib.hid (RL.out.keep (w' := w7) fun h => bb.block g (by omega))
    replace RM := Lib.hid (RM.out.keep (w' := w7) fun h => bb.block gm (by have := (GRM.out h).2; omega))
    replace RW := Lib.hid (RW.out.keep (w' := w7) fun h => bb.block gw (by have := (GRW.out h).2; omega))
    replace RA := Lib.hid (RA.out.keep (w' := w7) fun h => bb.block ga (by have := (GRA.out h).2; omega))
    replace XA := Lib.hid (XA.out.keep (w' := w7) (bb.block ba (by omega)))
    clear bb
    have XB := Lib.hid (base.Bx.new w7 (0, b1, b2, b3, b4, b5, b6))
    have zbb : (w7.alloc (.cells #[.int .i64 0, .int .i64 b1, .int .i64 b2, .int .i64 b3, .int .i64 b4, .int .i64 b5, .int .i64 b6] 26)).heap.size = w7.heap.size + 1 := by simp
    have al := fun k hk => Below.heap_alloc w7 (.cells #[.int .i64 0, .int .i64 b1, .int .i64 b2, .int .i64 b3, .int .i64 b4, .int .i64 b5, .int .i64 b6] 26) k hk
    replace RL := Lib.hid (RL.out.keep (w' := w7.alloc (.cells #[.int .i64 0, .int .i64 b1, .int .i64 b2, .int .i64 b3, .int .i64 b4, .int .i64 b5, .int .i64 b6] 26)) fun h => al g (by omega))
    replace RM := Lib.hid (RM.out.keep (w' := w7.alloc (.cells #[.int .i64 0, .int .i64 b1, .int .i64 b2, .int .i64 b3, .int .i64 b4, .int .i64 b5, .int .i64 b6] 26)) fun h => al gm (by have := (GRM.out h).2; omega))
    replace RW := Lib.hid (RW.out.keep (w' := w7.alloc (.cells #[.int .i64 0, .int .i64 b1, .int .i64 b2, .int .i64 b3, .int .i64 b4, .int .i64 b5, .int .i64 b6] 26)) fun h => al gw (by have := (GRW.out h).2; omega))
    replace RA := Lib.hid (RA.out.keep (w' := w7.alloc (.cells #[.int .i64 0, .int .i64 b1, .int .i64 b2, .int .i64 b3, .int .i64 b4, .int .i64 b5, .int .i64 b6] 26)) fun h => al ga (by have := (GRA.out h).2; omega))
    replace XA := Lib.hid (XA.out.keep (w' := w7.alloc (.cells #[.int .i64 0, .int .i64 b1, .int .i64 b2, .int .i64 b3, .int .i64 b4, .int .i64 b5, .int .i64 b6] 26)) (al ba (by omega)))
    replace BB := Lib.hid (BB.out.alloc BB.out.size (.cells #[.int .i64 0, .int .i64 b1, .int .i64 b2, .int .i64 b3, .int .i64 b4, .int .i64 b5, .int .i64 b6] 26))
    clear al
    obtain ⟨L, hL⟩ : ∃ L, L = P.length := ⟨_, rfl⟩
    have HL := Lib.hid hL
    have rmM := RM.out.room
    have rmL := RL.out.room
    have eLl := LPh.out
    rw [← eLl] at rmL
    rw [← hL] at rmM rmL pp lp ⊢
    rw [← eLl, ← hL]
    clear hL eLl
    go_wp2_with fail
    obtain ⟨bb2, hbb2⟩ : ∃ bb2, bb2 = w7.heap.size := ⟨_, rfl⟩
    rw [← hbb2] at XB zbb ⊢
    generalize w7.alloc (.cells #[.int .i64 0, .int .i64 b1, .int .i64 b2, .int .i64 b3, .int .i64 b4, .int .i64 b5, .int .i64 b6] 26) = WX at XB BB zbb RL RM RW RA XA ⊢
    have lbb : bb2 < WX.heap.size := by omega
    have mbb : w7.heap.size ≤ bb2 := by omega
    clear hbb2
    go_loopw [15] (fun i wr => Below WX.heap.size WX wr ∧ ∃ k : Nat, k ≤ L ∧ i = .int .i64 k) (fun i _ => L - (intOf i).toNat)
    case atStart => exact ⟨Below.refl _ _, 0, by omega, rfl⟩
    case round =>
      obtain ⟨hB, k, hk, rfl⟩ := hrel
      have HBr := Lib.hid hB
      by_cases hlt : k < L
      · have hkl : k < l.length := by rw [← LPh.out, ← HL.out]; exact hlt
        have q1 := (RM.out.cells k (by rw [← HL.out]; exact hlt)).keep (hB.block gm (by have := (GRM.out (by rw [← HL.out]; omega)).2; omega))
        have q2 := (RL.out.cells k hkl).keep (hB.block g (by omega))
        have EE := ELh.out k hkl
        have PX := PV.out.pin hkl
        obtain ⟨y, hy⟩ : ∃ y, y = P.getD k seven.zz := ⟨_, rfl⟩
        obtain ⟨x, hx⟩ : ∃ x, x = l.getD k seven.zz := ⟨_, rfl⟩
        rw [← hy] at q1 EE
        rw [← hx] at q2 EE PX
        have x0 := PX.d0
        have x1' := PX.d1
        clear hy hx hB PX hkl
        obtain ⟨y1, y2, y3, y4, y5, y6, y7⟩ := q1
        obtain ⟨x1, x2, x3, x4, x5, x6, x7⟩ := q2
        obtain ⟨yF, hyF⟩ : ∃ yF, yF = y.2.2.2.1 := ⟨_, rfl⟩
        obtain ⟨xF, hxF⟩ : ∃ xF, xF = x.2.2.2.1 := ⟨_, rfl⟩
        obtain ⟨xD, hxD⟩ : ∃ xD, xD = x.1 := ⟨_, rfl⟩
        rw [← hyF] at y4 EE
        rw [← hxF] at x4 EE
        rw [← hxD] at x1 EE x0 x1'
        clear hyF hxF hxD y1 y2 y3 y5 y6 y7 x2 x3 x5 x6 x7
        have z1 : (k : Int) < (L : Int) := by omega
        have u1 : decide (k < L) = true := by simp; omega
        by_cases ee : yF = xF
        · have t1 : (yF != xF) = false := by simp [ee]
          clear ee EE
          go_wp2_with fail
          try simp only [List.append_eq, List.cons_append, List.nil_append]
          go_quiet (fail)
          go_wp2
          go_roundw
          case rel => exact ⟨below_drewN HBr.out _, k + 1, by omega, by go_num⟩
          case measure => simp [intOf]; omega
        · obtain ⟨E1, E2, E3⟩ := EE.resolve_left ee
          subst E1
          subst E3
          have t1 : (yF != 0) = true := by simp [ee]
          have t2 : (yF != yF) = false := by simp
          have t3 : decide (d ≤ xD + p) = false := by simp; omega
          clear ee EE E2
          go_wp2_with fail
          try simp only [List.append_eq, List.cons_append, List.nil_append]
          go_quiet (fail)
          go_wp2
          go_roundw
          case rel => exact ⟨below_drewN HBr.out _, k + 1, by omega, by go_num⟩
          case measure => simp [intOf]; omega
      · have u1 : decide (k < L) = false := by simp; omega
        clear hB
        replace RL := Lib.hid (RL.out.keep (w' := wr) fun h => HBr.out.block g (by omega))
        replace RM := Lib.hid (RM.out.keep (w' := wr) fun h => HBr.out.block gm (by have := (GRM.out h).2; omega))
        replace RW := Lib.hid (RW.out.keep (w' := wr) fun h => HBr.out.block gw (by have := (GRW.out h).2; omega))
        replace RA := Lib.hid (RA.out.keep (w' := wr) fun h => HBr.out.block ga (by have := (GRA.out h).2; omega))
        replace XA := Lib.hid (XA.out.keep (w' := wr) (HBr.out.block ba (by omega)))
        replace XB := Lib.hid (XB.out.keep (w' := wr) (HBr.out.block bb2 (by omega)))
        replace BB := Lib.hid (BB.out.trans (HBr.out.mono BB.out.size))
        have zr := HBr.out.size
        clear HBr
        obtain ⟨N1, N2, N3, N4, N5, N6⟩ := NUM.out
        obtain ⟨A1, A2, A3, A4, A5, A6, A7, A8, A9, A10, A11, A12⟩ := SMAh.out
        dsimp only at A1 A2 A3 A4 A5 A6 A7 A8 A9 A10 A11 A12
        have COB := fun w0 => base.owG 0 b1 b2 b3 b4 b5 b6 w0 SMBh.out
        have COA := fun w0 => base.owG 0 a1 a2 a3 a4 a5 a6 w0 SMAh.out
        obtain ⟨ob, hob⟩ : ∃ ob, ob = base.ow (0, b1, b2, b3, b4, b5, b6) := ⟨_, rfl⟩
        obtain ⟨oa, hoa⟩ : ∃ oa, oa = base.ow (0, a1, a2, a3, a4, a5, a6) := ⟨_, rfl⟩
        rw [← hob] at COB
        rw [← hoa] at COA
        unfold base.ow at hob hoa
        dsimp only at hob hoa
        have h1 : IntKind.i64.wrap (a3 + M) = b3 := by rw [IntKind.wrap_i64]; omega
        have h2 : IntKind.i64.wrap (oa + M) = ob := by rw [IntKind.wrap_i64]; omega
        have h1' : a3 + M = b3 := by omega
        have h2' : oa + M = ob := by omega
        have o0 : -72000000000000 ≤ oa := by omega
        have o1 : oa ≤ 72000000000000 := by omega
        have o2 : -80000000000000 ≤ ob := by omega
        have o3 : ob ≤ 80000000000000 := by omega
        clear N1 N2 N3 N4 N5 N6 hob hoa NUM
        have CPG := fun n' os => base.pkG (Go.Sort.grow (wr.drewN n') os) _ cm gm P (RM.out.keep fun h => Go.Sort.heap_grow_old (wr.drewN n') os (show gm < wr.heap.size from (by have := (GRM.out h).2; omega))) (by rw [← HL.out]; omega)
        have CSG := fun n' os => seven.samG (Go.Sort.grow (wr.drewN n') os) aa _ ca cm ga gm P (RA.out.keep fun h => Go.Sort.heap_grow_old (wr.drewN n') os (show ga < wr.heap.size from (by have := (GRA.out h).2; omega))) (RM.out.keep fun h => Go.Sort.heap_grow_old (wr.drewN n') os (show gm < wr.heap.size from (by have := (GRM.out h).2; omega))) (by rw [← HL.out]; omega)
        rw [pl.pv_t PVPh.out] at CPG
        rw [← HL.out] at CPG CSG
        have mixed : Try.prog.follows .mixedOrders = true := Try.checked.mixed
        have q0 := fun n' os => (XA.out.at_.grown n' os).c0
        have q1 := fun n' os => (XA.out.at_.grown n' os).c1
        have q2 := fun n' os => (XA.out.at_.grown n' os).c2
        have q3 := fun n' os => (XA.out.at_.grown n' os).c3
        have q4 := fun n' os => (XA.out.at_.grown n' os).c4
        have q5 := fun n' os => (XA.out.at_.grown n' os).c5
        have q6 := fun n' os => (XA.out.at_.grown n' os).c6
        have r0 := fun n' os => (XB.out.at_.grown n' os).c0
        have r1 := fun n' os => (XB.out.at_.grown n' os).c1
        have r2 := fun n' os => (XB.out.at_.grown n' os).c2
        have r3 := fun n' os => (XB.out.at_.grown n' os).c3
        have r4 := fun n' os => (XB.out.at_.grown n' os).c4
        have r5 := fun n' os => (XB.out.at_.grown n' os).c5
        have r6 := fun n' os => (XB.out.at_.grown n' os).c6
        simp only [Nat.zero_add] at q0 q1 q2 q3 q4 q5 q6 r0 r1 r2 r3 r4 r5 r6
        go_wp2_with fail
        refine wp_region_quiet_grown mixed (by kernel_rfl) ?_
        repeat (go_big_quiet_step (first | (go_at_call 23; with_reducible exact Calls.grown_of (CSG _ _)) | (go_at_call 30; with_reducible exact Calls.grown_of (COB _)) | (go_at_call 30; with_reducible exact Calls.grown_of (COA _)) | (go_at_call 26; with_reducible exact Calls.grown_of (CPG _ _))))
        refine wpQuiet_nil ?_
        intro w9 hw'
        have G9 := Lib.hid (show gen.Grew wr w9 from by obtain ⟨p, h⟩ := hw'; exact ⟨p.n, p.os, h⟩)
        clear hw'
        go_wp2
        go_ret
        exact ⟨rfl, BB.out.trans (G9.out.below.mono BB.out.size)⟩

theorem own : ownKnob Try.prog.godebug = none := by kernel_rfl
theorem laidOut : laidOutB Try.prog = true := by kernel_rfl
theorem isLaw : lift.IsLaw Rows.fnLateSpec 1 0 := fun _ ds gs h1 h2 => match ds, h1 with | [_], _ => match gs, h2 with | [], _ => rfl

set_option maxRecDepth 100000 in
theorem lifted (os : Os) (started : os.Started) (H : Type) (enc : TypeId × Value → H) :
    ReturnsInHanded {} Try.checked os 6 .any (Rows.fnLateSpec.pre6 enc Try.prog Try.f6 Rows.fnLateRow.domain false) (Rows.fnLateSpec.post enc Try.prog Try.f6 false true false false) := by
  refine returnsInHanded_of_change (C := Try.checked) own started (by kernel_rfl) Try.func6
    (ChangeSpec.witness6 (enc := enc) (C := Try.checked) false ⟨#[], #[.slice none 0 0], []⟩ 8 (by kernel_rfl) (by kernel_rfl) (by kernel_rfl) (by kernel_rfl)) ?_
  intro W base args ds gs before hval0 hW _ _
  have hval : ∀ (j : Nat) t v, Try.f6.params[j]? = some t → args[j]? = some v → Value.okWide Try.prog W .any base t v := hval0
  have hW' := hW
  obtain ⟨p, q, hA0, hV, hrest⟩ := hW
  have hA : DataW.TrodAll enc Try.prog W 0 (fun _ => true) true Try.f6.params.toList args.toList ds p := hA0
  clear hA0 hval0 hV hrest
  rw [Try.params6] at hA hval
  obtain ⟨v0, d0, rfl, rfl, h0⟩ := trodAll_one hA
  obtain ⟨a, len, cap, rfl, hlen, hB⟩ := draw.open_code Try.underlying34 Try.underlying5 (by kernel_rfl) (hval 0 34 v0 rfl rfl) h0
  have wk : Calls Try.prog 6 #[.slice a len cap] W fun e w' => e = .returned (.bool true) ∧ Below W.heap.size W w' := by
    by_cases hb : len ≤ 1048576
    · exact walk_small a cap len W hB hb
    · exact walk_big a len cap W hlen (by omega)
  refine (wk).mono fun e W' ⟨he, hb⟩ => ?_
  subst he
  exact ⟨_, rfl, lift.law_post laidOut (by kernel_rfl) (by kernel_rfl) (by kernel_rfl) Try.underlying4 (by rw [Try.params6]; exact isLaw) hW' hb⟩

theorem over : Rows.fnLateRow.holds Try.pinned (OpenSpec.ofChange Rows.fnLateSpec) :=
  OpenClaim.holds_of_wide 6 Try.f6 rfl rfl rfl rfl rfl rfl rfl ⟨rfl, rfl, rfl, rfl, rfl⟩ rfl rfl rfl rfl rfl (by kernel_rfl) Try.func6 (by kernel_rfl)
    (of_decide_eq_true (by kernel_rfl)) (by unfold Func.isWrapper; first | (rw [if_pos (by decide +kernel)]; kernel_rfl) | (rw [if_neg (by decide +kernel)]; exact ⟨rfl, rfl⟩))
    (fun os started H enc _ => lifted os started H enc)

theorem proved : Rows.FnLateSaid := over
#print axioms proved
end Go.Proofs.Ytmnmijiikjpdnaa.fnLate
