/-
  Proved: for every code, what is given back of the drawn plan was paid, and what is owed stays; the law laws.FnBack returns true and its arguments read as before. Conditions: none beyond the given row.
-/
import Derived.Test.YtmnmijiikjpdnaaDrL
import Derived.Test.YtmnmijiikjpdnaaPkG
import Derived.Test.YtmnmijiikjpdnaaBkS
import Derived.Test.YtmnmijiikjpdnaaBkI
import Derived.Test.YtmnmijiikjpdnaaPkS
import Derived.Test.YtmnmijiikjpdnaaPkI
import Derived.Test.YtmnmijiikjpdnaaSmI
import Derived.Test.YtmnmijiikjpdnaaLn7
import Derived.Carry
namespace Go.Proofs.Ytmnmijiikjpdnaa.fnBack
open Go.ChangeShapes Go.WideShapes Go.ChangeAt Go.RowKit


theorem walk_big (a : Option Addr) (len cap : Nat) (w : World) (hl : len ≤ maxLen) (hb : 1048576 < len) : Calls Try.prog 5 #[.slice a len cap] w fun e w' => e = .returned (.bool true) ∧ Below w.heap.size w w' := by
  go_enter Try.func5, Try.ntmps5
  go_wp2_with fail
  refine (draw.bigT a len cap w hb hl).mono ?_
  rintro e w' ⟨rfl, rfl⟩
  go_wp2
  go_ret
  exact ⟨rfl, Below.refl _ _⟩

set_option maxRecDepth 100000 in
set_option maxHeartbeats 8000000 in
theorem walk_small (a : Option Addr) (cap len : Nat) (w : World) (hB : draw.Bytes w a len) (hn : len ≤ 1048576) : Calls Try.prog 5 #[.slice a len cap] w fun e w' => e = .returned (.bool true) ∧ Below w.heap.size w w' := by
  have HB := Lib.hid hB
  clear hB
  go_enter Try.func5, Try.ntmps5
  go_wp2_with fail
  refine (draw.bigF a len cap w hn).mono ?_
  rintro e w' ⟨rfl, rfl⟩
  go_wp2_with fail
  refine (base.drawBack a len cap w HB.out hn).mono ?_
  rintro e w1 ⟨cl, g, l, n, rfl, rl, lo, hi, p1, p24, b1⟩
  have RL := Lib.hid rl
  have BB := Lib.hid b1
  clear rl b1 HB
  have CS := fun w0 c g r => base.bkS n w0 c g l r (by omega)
  have CI := fun w0 c g r => base.bkI n w0 c g l r (by omega)
  unfold base.Out at CS CI
  have lp : (base.bkL pl.back l n).length ≤ 24 := by
    unfold base.bkL
    split
    · rw [pl.bw_len]; exact p24
    · simp
  have FACT := Lib.hid (show pl.PV l → 0 ≤ n → n ≤ 1000000000000 → pl.PV (base.bkL pl.back l n) ∧ base.BackT l (base.bkL pl.back l n) n (base.bkN pl.back l n) from fun hv h0 h1 => by
    have ok : base.pyOk l n = true := by unfold base.pyOk; rw [pl.pv_t hv, Bool.true_and, pl.inR_iff]; exact ⟨h0, h1⟩
    rw [(base.bk_yes ok).1, (base.bk_yes ok).2, pl.bw_zero, pl.bs_zero]
    exact ⟨base.back_pv hv h0, base.back_tot h0 l (base.pin_mem hv)⟩)
  obtain ⟨P, hP⟩ : ∃ P, P = base.bkL pl.back l n := ⟨_, rfl⟩
  obtain ⟨M, hM⟩ : ∃ M, M = base.bkN pl.back l n := ⟨_, rfl⟩
  rw [← hP, ← hM] at CS CI FACT
  rw [← hP] at lp
  have CSh := Lib.hid CS
  have CIh := Lib.hid CI
  have CPK := Lib.hid (fun w0 c g r => base.pkS w0 (some ⟨g, 0, none⟩) c g l r (by omega))
  clear CS CI hP hM
  have tc : (M != M) = false := by simp
  have tc' : (M == M) = true := by simp
  go_wp2_with fail
  refine (CIh.out w1 _ g RL.out).mono ?_
  rintro e w2 ⟨am, cm, gm, rfl, r0, G0, bb⟩
  replace BB := Lib.hid (BB.out.trans (bb.mono BB.out.size))
  have z2 := bb.size
  replace RL := Lib.hid (RL.out.keep (w' := w2) fun h => bb.block g (by omega))
  clear bb
  have RM := Lib.hid r0
  have GRM := Lib.hid G0
  clear r0 G0
  go_wp2_with fail
  refine (CSh.out w2 _ g RL.out).mono ?_
  rintro e w3 ⟨aw, cw, gw, rfl, r0, G0, bb⟩
  replace BB := Lib.hid (BB.out.trans (bb.mono BB.out.size))
  have z3 := bb.size
  replace RL := Lib.hid (RL.out.keep (w' := w3) fun h => bb.block g (by omega))
  replace RM := Lib.hid (RM.out.keep (w' := w3) fun h => bb.block gm (by have := (GRM.out h).2; omega))
  clear bb
  have RW := Lib.hid r0
  have GRW := Lib.hid G0
  clear r0 G0
  go_wp2_with fail
  refine (seven.samT w3 am aw cm cw gm gw P RM.out RW.out (by omega)).mono ?_
  rintro e w4 ⟨rfl, bb⟩
  replace BB := Lib.hid (BB.out.trans (bb.mono BB.out.size))
  have z4 := bb.size
  replace RL := Lib.hid (RL.out.keep (w' := w4) fun h => bb.block g (by omega))
  replace RM := Lib.hid (RM.out.keep (w' := w4) fun h => bb.block gm (by have := (GRM.out h).2; omega))
  replace RW := Lib.hid (RW.out.keep (w' := w4) fun h => bb.block gw (by have := (GRW.out h).2; omega))
  clear bb
  go_wp2_with fail
  refine (CPK.out w4 _ g RL.out).mono ?_
  rintro e w5 ⟨rfl, bb⟩
  replace BB := Lib.hid (BB.out.trans (bb.mono BB.out.size))
  have z5 := bb.size
  replace RL := Lib.hid (RL.out.keep (w' := w5) fun h => bb.block g (by omega))
  replace RM := Lib.hid (RM.out.keep (w' := w5) fun h => bb.block gm (by have := (GRM.out h).2; omega))
  replace RW := Lib.hid (RW.out.keep (w' := w5) fun h => bb.block gw (by have := (GRW.out h).2; omega))
  clear bb
  cases hv : pl.pv l with
  | false =>
    clear hv FACT
    
    go_wp2_with fail
    refine (seven.samT w5 am aw cm cw gm gw P RM.out RW.out (by omega)).mono ?_
    rintro e w6 ⟨rfl, bb⟩
    replace BB := Lib.hid (BB.out.trans (bb.mono BB.out.size))
    have z6 := bb.size
    replace RL := Lib.hid (RL.out.keep (w' := w6) fun h => bb.block g (by omega))
    replace RM := Lib.hid (RM.out.keep (w' := w6) fun h => bb.block gm (by have := (GRM.out h).2; omega))
    replace RW := Lib.hid (RW.out.keep (w' := w6) fun h => bb.block gw (by have := (GRW.out h).2; omega))
    clear bb
    go_wp2
    go_ret
    exact ⟨rfl, BB.out⟩
  | true =>
    have PV := Lib.hid (pl.pv_iff.1 hv)
    clear hv
    by_cases n0 : n < 0
    · have u0 : decide (n < 0) = true := by simp; omega
      clear FACT
      go_wp2_with fail
      refine (seven.samT w5 am aw cm cw gm gw P RM.out RW.out (by omega)).mono ?_
      rintro e w6 ⟨rfl, bb⟩
      replace BB := Lib.hid (BB.out.trans (bb.mono BB.out.size))
      have z6 := bb.size
      replace RL := Lib.hid (RL.out.keep (w' := w6) fun h => bb.block g (by omega))
      replace RM := Lib.hid (RM.out.keep (w' := w6) fun h => bb.block gm (by have := (GRM.out h).2; omega))
      replace RW := Lib.hid (RW.out.keep (w' := w6) fun h => bb.block gw (by have := (GRW.out h).2; omega))
      clear bb
      go_wp2
      go_ret
      exact ⟨rfl, BB.out⟩
    · have u0 : decide (n < 0) = false := by simp; omega
      by_cases n1 : 1000000000000 < n
      · have u1 : decide (1000000000000 < n) = true := by simp; omega
        clear FACT
        go_wp2_with fail
        refine (seven.samT w5 am aw cm cw gm gw P RM.out RW.out (by omega)).mono ?_
        rintro e w6 ⟨rfl, bb⟩
        replace BB := Lib.hid (BB.out.trans (bb.mono BB.out.size))
        have z6 := bb.size
        replace RL := Lib.hid (RL.out.keep (w' := w6) fun h => bb.block g (by omega))
        replace RM := Lib.hid (RM.out.keep (w' := w6) fun h => bb.block gm (by have := (GRM.out h).2; omega))
        replace RW := Lib.hid (RW.out.keep (w' := w6) fun h => bb.block gw (by have := (GRW.out h).2; omega))
        clear bb
        go_wp2
        go_ret
        exact ⟨rfl, BB.out⟩
      · have u1 : decide (1000000000000 < n) = false := by simp; omega
        obtain ⟨PVP, FT⟩ := FACT.out PV.out (by omega) (by omega)
        have SA := base.sums_tot PV.out
        have SB := base.sums_tot PVP
        have SMA := base.sml_sums PV.out
        have SMB := base.sml_sums PVP
        have CA := fun w0 c g r => base.smI w0 (some ⟨g, 0, none⟩) c g l r (by omega)
        have CB := fun w0 a c g r => base.smI w0 a c g P r (by omega)
        have CPI := fun w0 a c g r => base.pkI w0 a c g P r (by omega)
        rw [pl.pv_t PVP] at CPI
        rw [SA] at CA SMA
        rw [SB] at CB SMB
        obtain ⟨f0, f1, f2, f3, f4, f5, f6, f7, f8⟩ := FT
        generalize base.tot base.fP l = a1 at *
        generalize base.tot base.fI l = a2 at *
        generalize base.tot base.fF l = a3 at *
        generalize base.tot base.fp l = a4 at *
        generalize base.tot base.fi l = a5 at *
        generalize base.tot base.ff l = a6 at *
        generalize base.tot base.fP P = b1 at *
        generalize base.tot base.fI P = b2 at *
        generalize base.tot base.fF P = b3 at *
        generalize base.tot base.fp P = b4 at *
        generalize base.tot base.fi P = b5 at *
        generalize base.tot base.ff P = b6 at *
        have CAh := Lib.hid CA
        have CBh := Lib.hid CB
        have CPh := Lib.hid CPI
        have SMAh := Lib.hid SMA
        have SMBh := Lib.hid SMB
        obtain ⟨A1, A2, A3, A4, A5, A6, A7, A8, A9, A10, A11, A12⟩ := SMA
        obtain ⟨B1, B2, B3, B4, B5, B6, B7, B8, B9, B10, B11, B12⟩ := SMB
        dsimp only at A1 A2 A3 A4 A5 A6 A7 A8 A9 A10 A11 A12 B1 B2 B3 B4 B5 B6 B7 B8 B9 B10 B11 B12
        have PVP := Lib.hid PVP
        clear CA CB CPI SA SB FACT
        have hw1 : IntKind.i64.wrap (n - M) = n - M := by rw [IntKind.wrap_i64]; omega
        have hw2 : IntKind.i64.wrap (a4 - (n - M)) = b4 := by rw [IntKind.wrap_i64]; omega
        have e4 : a4 - (n - M) = b4 := by omega
        have EQ := Lib.hid (show b1 + b2 + b3 - b4 - b5 - b6 = a1 + a2 + a3 - a4 - a5 - a6 from by omega)
        have f3s := f3.symm
        subst f3s
        clear f2 f3 f4 f5 f6 f7
        go_wp2_with fail
        refine (CAh.out w5 _ g RL.out).mono ?_
        rintro e w6 ⟨rfl, bb⟩
        replace BB := Lib.hid (BB.out.trans (bb.mono BB.out.size))
        have z6 := bb.size
        replace RL := Lib.hid (RL.out.keep (w' := w6) fun h => bb.block g (by omega))
        replace RM := Lib.hid (RM.out.keep (w' := w6) fun h => bb.block gm (by have := (GRM.out h).2; omega))
        replace RW := Lib.hid (RW.out.keep (w' := w6) fun h => bb.block gw (by have := (GRW.out h).2; omega))
        clear bb
        have XA := Lib.hid (base.Bx.new w6 (0, a1, a2, a3, a4, a5, a6))
        have zbba : (w6.alloc (.cells #[.int .i64 0, .int .i64 a1, .int .i64 a2, .int .i64 a3, .int .i64 a4, .int .i64 a5, .int .i64 a6] 26)).heap.size = w6.heap.size + 1 := by simp
        have al := fun k hk => Below.heap_alloc w6 (.cells #[.int .i64 0, .int .i64 a1, .int .i64 a2, .int .i64 a3, .int .i64 a4, .int .i64 a5, .int .i64 a6] 26) k hk
        replace RL := Lib.hid (RL.out.keep (w' := w6.alloc (.cells #[.int .i64 0, .int .i64 a1, .int .i64 a2, .int .i64 a3, .int .i64 a4, .int .i64 a5, .int .i64 a6] 26)) fun h => al g (by omega))
        replace RM := Lib.hid (RM.out.keep (w' := w6.alloc (.cells #[.int .i64 0, .int .i64 a1, .int .i64 a2, .int .i64 a3, .int .i64 a4, .int .i64 a5, .int .i64 a6] 26)) fun h => al gm (by have := (GRM.out h).2; omega))
        replace RW := Lib.hid (RW.out.keep (w' := w6.alloc (.cells #[.int .i64 0, .int .i64 a1, .int .i64 a2, .int .i64 a3, .int .i64 a4, .int .i64 a5, .int .i64 a6] 26)) fun h => al gw (by have := (GRW.out h).2; omega))
        replace BB := Lib.hid (BB.out.alloc BB.out.size (.cells #[.int .i64 0, .int .i64 a1, .int .i64 a2, .int .i64 a3, .int .i64 a4, .int .i64 a5, .int .i64 a6] 26))
        clear al
        go_wp2_with fail
        obtain ⟨ba, hba⟩ : ∃ ba, ba = w6.heap.size := ⟨_, rfl⟩
        rw [← hba] at XA zbba ⊢
        generalize w6.alloc (.cells #[.int .i64 0, .int .i64 a1, .int .i64 a2, .int .i64 a3, .int .i64 a4, .int .i64 a5, .int .i64 a6] 26) = Wba at XA BB zbba RL RM RW ⊢
        have lba : ba < Wba.heap.size := by omega
        have mba : w6.heap.size ≤ ba := by omega
        clear hba
        refine (CBh.out Wba am cm gm RM.out).mono ?_
        rintro e w7 ⟨rfl, bb⟩
        replace BB := Lib.hid (BB.out.trans (bb.mono BB.out.size))
        have z7 := bb.size
        replace RL := Lib.hid (RL.out.keep (w' := w7) fun h => bb.block g (by omega))
        replace RM := Lib.hid (RM.out.keep (w' := w7) fun h => bb.block gm (by have := (GRM.out h).2; omega))
        replace RW := Lib.hid (RW.out.keep (w' := w7) fun h => bb.block gw (by have := (GRW.out h).2; omega))
        replace XA := Lib.hid (XA.out.keep (w' := w7) (bb.block ba (by omega)))
        clear bb
        rcases f8 with f8 | f8
        · have v1 : (M == 0) = true := by simp [f8]
          clear f8
          have COB := fun w0 => base.owG 0 b1 a2 b3 b4 b5 b6 w0 SMBh.out
          have COA := fun w0 => base.owG 0 a1 a2 a3 a4 a5 a6 w0 SMAh.out
          obtain ⟨ob, hob⟩ : ∃ ob, ob = base.ow (0, b1, a2, b3, b4, b5, b6) := ⟨_, rfl⟩
          obtain ⟨oa, hoa⟩ : ∃ oa, oa = base.ow (0, a1, a2, a3, a4, a5, a6) := ⟨_, rfl⟩
          rw [← hob] at COB
          rw [← hoa] at COA
          have OE := EQ.out
          unfold base.ow at hob hoa
          dsimp only at hob hoa
          have oe : ob = oa := by omega
          subst oe
          clear hob hoa OE EQ
          have COBh := Lib.hid COB
          have COAh := Lib.hid COA
          clear COB COA
          have XB := Lib.hid (base.Bx.new w7 (0, b1, a2, b3, b4, b5, b6))
          have zbbb2 : (w7.alloc (.cells #[.int .i64 0, .int .i64 b1, .int .i64 a2, .int .i64 b3, .int .i64 b4, .int .i64 b5, .int .i64 b6] 26)).heap.size = w7.heap.size + 1 := by simp
          have al := fun k hk => Below.heap_alloc w7 (.cells #[.int .i64 0, .int .i64 b1, .int .i64 a2, .int .i64 b3, .int .i64 b4, .int .i64 b5, .int .i64 b6] 26) k hk
          replace RL := Lib.hid (RL.out.keep (w' := w7.alloc (.cells #[.int .i64 0, .int .i64 b1, .int .i64 a2, .int .i64 b3, .int .i64 b4, .int .i64 b5, .int .i64 b6] 26)) fun h => al g (by omega))
          replace RM := Lib.hid (RM.out.keep (w' := w7.alloc (.cells #[.int .i64 0, .int .i64 b1, .int .i64 a2, .int .i64 b3, .int .i64 b4, .int .i64 b5, .int .i64 b6] 26)) fun h => al gm (by have := (GRM.out h).2; omega))
          replace RW := Lib.hid (RW.out.keep (w' := w7.alloc (.cells #[.int .i64 0, .int .i64 b1, .int .i64 a2, .int .i64 b3, .int .i64 b4, .int .i64 b5, .int .i64 b6] 26)) fun h => al gw (by have := (GRW.out h).2; omega))
          replace XA := Lib.hid (XA.out.keep (w' := w7.alloc (.cells #[.int .i64 0, .int .i64 b1, .int .i64 a2, .int .i64 b3, .int .i64 b4, .int .i64 b5, .int .i64 b6] 26)) (al ba (by omega)))
          replace BB := Lib.hid (BB.out.alloc BB.out.size (.cells #[.int .i64 0, .int .i64 b1, .int .i64 a2, .int .i64 b3, .int .i64 b4, .int .i64 b5, .int .i64 b6] 26))
          clear al
          go_wp2_with fail
          obtain ⟨bb2, hbb2⟩ : ∃ bb2, bb2 = w7.heap.size := ⟨_, rfl⟩
          rw [← hbb2] at XB zbbb2 ⊢
          generalize w7.alloc (.cells #[.int .i64 0, .int .i64 b1, .int .i64 a2, .int .i64 b3, .int .i64 b4, .int .i64 b5, .int .i64 b6] 26) = Wbb2 at XB BB zbbb2 RL RM RW XA ⊢
          have lbb2 : bb2 < Wbb2.heap.size := by omega
          have mbb2 : w7.heap.size ≤ bb2 := by omega
          clear hbb2
          have COB := COBh.out
          have COA := COAh.out
          have CPG := fun n' os => base.pkG (Go.Sort.grow (Wbb2.drewN n') os) am cm gm P (RM.out.keep fun h => Go.Sort.heap_grow_old (Wbb2.drewN n') os (show gm < Wbb2.heap.size from (by have := (GRM.out h).2; omega))) (by omega)
          rw [pl.pv_t PVP.out] at CPG
          have mixed : Try.prog.follows .mixedOrders = true := Try.checked.mixed
          have q0 := fun n' os => (XA.out.at_.grown n' os).c0
          have q1 := fun n' os => (XA.out.at_.grown n' os).c1
          have q2 := fun n' os => (XA.out.at_.grown n' os).c2
          have q3 := fun n' os => (XA.out.at_.grown n' os).c3
          have q4 := fun n' os => (XA.out.at_.grown n' os).c4
          have q5 := fun n' os => (XA.out.at_.grown n' os).c5
          have q6 := fun n' os => (XA.out.at_.grown n' os).c6
          have r0 := fun n' os => (XB.out.at_.grown n' os).c0
          have r1 := fun n' os => (XB.out.at_.grown n' os).c1
          have r2 := fun n' os => (XB.out.at_.grown n' os).c2
          have r3 := fun n' os => (XB.out.at_.grown n' os).c3
          have r4 := fun n' os => (XB.out.at_.grown n' os).c4
          have r5 := fun n' os => (XB.out.at_.grown n' os).c5
          have r6 := fun n' os => (XB.out.at_.grown n' os).c6
          simp only [Nat.zero_add] at q0 q1 q2 q3 q4 q5 q6 r0 r1 r2 r3 r4 r5 r6
          refine wp_region_quiet_grown mixed (by kernel_rfl) ?_
          repeat (go_big_quiet_step (first | (go_at_call 30; with_reducible exact Calls.grown_of (COB _)) | (go_at_call 30; with_reducible exact Calls.grown_of (COA _)) | (go_at_call 26; with_reducible exact Calls.grown_of (CPG _ _))))
          refine wpQuiet_nil ?_
          intro w9 hw'
          have G9 := Lib.hid (show gen.Grew Wbb2 w9 from by obtain ⟨p, h⟩ := hw'; exact ⟨p.n, p.os, h⟩)
          clear hw'
          go_wp2
          go_ret
          exact ⟨rfl, BB.out.trans (G9.out.below.mono BB.out.size)⟩
        · by_cases v0 : M = 0
          · have v1 : (M == 0) = true := by simp [v0]
            clear f8 v0
            have COB := fun w0 => base.owG 0 b1 a2 b3 b4 b5 b6 w0 SMBh.out
            have COA := fun w0 => base.owG 0 a1 a2 a3 a4 a5 a6 w0 SMAh.out
            obtain ⟨ob, hob⟩ : ∃ ob, ob = base.ow (0, b1, a2, b3, b4, b5, b6) := ⟨_, rfl⟩
            obtain ⟨oa, hoa⟩ : ∃ oa, oa = base.ow (0, a1, a2, a3, a4, a5, a6) := ⟨_, rfl⟩
            rw [← hob] at COB
            rw [← hoa] at COA
            have OE := EQ.out
            unfold base.ow at hob hoa
            dsimp only at hob hoa
            have oe : ob = oa := by omega
            subst oe
            clear hob hoa OE EQ
            have COBh := Lib.hid COB
            have COAh := Lib.hid COA
            clear COB COA
            have XB := Lib.hid (base.Bx.new w7 (0, b1, a2, b3, b4, b5, b6))
            have zbbb2 : (w7.alloc (.cells #[.int .i64 0, .int .i64 b1, .int .i64 a2, .int .i64 b3, .int .i64 b4, .int .i64 b5, .int .i64 b6] 26)).heap.size = w7.heap.size + 1 := by simp
            have al := fun k hk => Below.heap_alloc w7 (.cells #[.int .i64 0, .int .i64 b1, .int .i64 a2, .int .i64 b3, .int .i64 b4, .int .i64 b5, .int .i64 b6] 26) k hk
            replace RL := Lib.hid (RL.out.keep (w' := w7.alloc (.cells #[.int .i64 0, .int .i64 b1, .int .i64 a2, .int .i64 b3, .int .i64 b4, .int .i64 b5, .int .i64 b6] 26)) fun h => al g (by omega))
            replace RM := Lib.hid (RM.out.keep (w' := w7.alloc (.cells #[.int .i64 0, .int .i64 b1, .int .i64 a2, .int .i64 b3, .int .i64 b4, .int .i64 b5, .int .i64 b6] 26)) fun h => al gm (by have := (GRM.out h).2; omega))
            replace RW := Lib.hid (RW.out.keep (w' := w7.alloc (.cells #[.int .i64 0, .int .i64 b1, .int .i64 a2, .int .i64 b3, .int .i64 b4, .int .i64 b5, .int .i64 b6] 26)) fun h => al gw (by have := (GRW.out h).2; omega))
            replace XA := Lib.hid (XA.out.keep (w' := w7.alloc (.cells #[.int .i64 0, .int .i64 b1, .int .i64 a2, .int .i64 b3, .int .i64 b4, .int .i64 b5, .int .i64 b6] 26)) (al ba (by omega)))
            replace BB := Lib.hid (BB.out.alloc BB.out.size (.cells #[.int .i64 0, .int .i64 b1, .int .i64 a2, .int .i64 b3, .int .i64 b4, .int .i64 b5, .int .i64 b6] 26))
            clear al
            go_wp2_with fail
            obtain ⟨bb2, hbb2⟩ : ∃ bb2, bb2 = w7.heap.size := ⟨_, rfl⟩
            rw [← hbb2] at XB zbbb2 ⊢
            generalize w7.alloc (.cells #[.int .i64 0, .int .i64 b1, .int .i64 a2, .int .i64 b3, .int .i64 b4, .int .i64 b5, .int .i64 b6] 26) = Wbb2 at XB BB zbbb2 RL RM RW XA ⊢
            have lbb2 : bb2 < Wbb2.heap.size := by omega
            have mbb2 : w7.heap.size ≤ bb2 := by omega
            clear hbb2
            have COB := COBh.out
            have COA := COAh.out
            have CPG := fun n' os => base.pkG (Go.Sort.grow (Wbb2.drewN n') os) am cm gm P (RM.out.keep fun h => Go.Sort.heap_grow_old (Wbb2.drewN n') os (show gm < Wbb2.heap.size from (by have := (GRM.out h).2; omega))) (by omega)
            rw [pl.pv_t PVP.out] at CPG
            have mixed : Try.prog.follows .mixedOrders = true := Try.checked.mixed
            have q0 := fun n' os => (XA.out.at_.grown n' os).c0
            have q1 := fun n' os => (XA.out.at_.grown n' os).c1
            have q2 := fun n' os => (XA.out.at_.grown n' os).c2
            have q3 := fun n' os => (XA.out.at_.grown n' os).c3
            have q4 := fun n' os => (XA.out.at_.grown n' os).c4
            have q5 := fun n' os => (XA.out.at_.grown n' os).c5
            have q6 := fun n' os => (XA.out.at_.grown n' os).c6
            have r0 := fun n' os => (XB.out.at_.grown n' os).c0
            have r1 := fun n' os => (XB.out.at_.grown n' os).c1
            have r2 := fun n' os => (XB.out.at_.grown n' os).c2
            have r3 := fun n' os => (XB.out.at_.grown n' os).c3
            have r4 := fun n' os => (XB.out.at_.grown n' os).c4
            have r5 := fun n' os => (XB.out.at_.grown n' os).c5
            have r6 := fun n' os => (XB.out.at_.grown n' os).c6
            simp only [Nat.zero_add] at q0 q1 q2 q3 q4 q5 q6 r0 r1 r2 r3 r4 r5 r6
            refine wp_region_quiet_grown mixed (by kernel_rfl) ?_
            repeat (go_big_quiet_step (first | (go_at_call 30; with_reducible exact Calls.grown_of (COB _)) | (go_at_call 30; with_reducible exact Calls.grown_of (COA _)) | (go_at_call 26; with_reducible exact Calls.grown_of (CPG _ _))))
            refine wpQuiet_nil ?_
            intro w9 hw'
            have G9 := Lib.hid (show gen.Grew Wbb2 w9 from by obtain ⟨p, h⟩ := hw'; exact ⟨p.n, p.os, h⟩)
            clear hw'
            go_wp2
            go_ret
            exact ⟨rfl, BB.out.trans (G9.out.below.mono BB.out.size)⟩
          · have v1 : (M == 0) = false := by simp [v0]
            have v6 : (b4 == 0) = true := by simp; omega
            clear f8 v0
            have COB := fun w0 => base.owG 0 b1 a2 b3 b4 b5 b6 w0 SMBh.out
            have COA := fun w0 => base.owG 0 a1 a2 a3 a4 a5 a6 w0 SMAh.out
            obtain ⟨ob, hob⟩ : ∃ ob, ob = base.ow (0, b1, a2, b3, b4, b5, b6) := ⟨_, rfl⟩
            obtain ⟨oa, hoa⟩ : ∃ oa, oa = base.ow (0, a1, a2, a3, a4, a5, a6) := ⟨_, rfl⟩
            rw [← hob] at COB
            rw [← hoa] at COA
            have OE := EQ.out
            unfold base.ow at hob hoa
            dsimp only at hob hoa
            have oe : ob = oa := by omega
            subst oe
            clear hob hoa OE EQ
            have COBh := Lib.hid COB
            have COAh := Lib.hid COA
            clear COB COA
            have XB := Lib.hid (base.Bx.new w7 (0, b1, a2, b3, b4, b5, b6))
            have zbbb2 : (w7.alloc (.cells #[.int .i64 0, .int .i64 b1, .int .i64 a2, .int .i64 b3, .int .i64 b4, .int .i64 b5, .int .i64 b6] 26)).heap.size = w7.heap.size + 1 := by simp
            have al := fun k hk => Below.heap_alloc w7 (.cells #[.int .i64 0, .int .i64 b1, .int .i64 a2, .int .i64 b3, .int .i64 b4, .int .i64 b5, .int .i64 b6] 26) k hk
            replace RL := Lib.hid (RL.out.keep (w' := w7.alloc (.cells #[.int .i64 0, .int .i64 b1, .int .i64 a2, .int .i64 b3, .int .i64 b4, .int .i64 b5, .int .i64 b6] 26)) fun h => al g (by omega))
            replace RM := Lib.hid (RM.out.keep (w' := w7.alloc (.cells #[.int .i64 0, .int .i64 b1, .int .i64 a2, .int .i64 b3, .int .i64 b4, .int .i64 b5, .int .i64 b6] 26)) fun h => al gm (by have := (GRM.out h).2; omega))
            replace RW := Lib.hid (RW.out.keep (w' := w7.alloc (.cells #[.int .i64 0, .int .i64 b1, .int .i64 a2, .int .i64 b3, .int .i64 b4, .int .i64 b5, .int .i64 b6] 26)) fun h => al gw (by have := (GRW.out h).2; omega))
            replace XA := Lib.hid (XA.out.keep (w' := w7.alloc (.cells #[.int .i64 0, .int .i64 b1, .int .i64 a2, .int .i64 b3, .int .i64 b4, .int .i64 b5, .int .i64 b6] 26)) (al ba (by omega)))
            replace BB := Lib.hid (BB.out.alloc BB.out.size (.cells #[.int .i64 0, .int .i64 b1, .int .i64 a2, .int .i64 b3, .int .i64 b4, .int .i64 b5, .int .i64 b6] 26))
            clear al
            go_wp2_with fail
            obtain ⟨bb2, hbb2⟩ : ∃ bb2, bb2 = w7.heap.size := ⟨_, rfl⟩
            rw [← hbb2] at XB zbbb2 ⊢
            generalize w7.alloc (.cells #[.int .i64 0, .int .i64 b1, .int .i64 a2, .int .i64 b3, .int .i64 b4, .int .i64 b5, .int .i64 b6] 26) = Wbb2 at XB BB zbbb2 RL RM RW XA ⊢
            have lbb2 : bb2 < Wbb2.heap.size := by omega
            have mbb2 : w7.heap.size ≤ bb2 := by omega
            clear hbb2
            have COB := COBh.out
            have COA := COAh.out
            have CPG := fun n' os => base.pkG (Go.Sort.grow (Wbb2.drewN n') os) am cm gm P (RM.out.keep fun h => Go.Sort.heap_grow_old (Wbb2.drewN n') os (show gm < Wbb2.heap.size from (by have := (GRM.out h).2; omega))) (by omega)
            rw [pl.pv_t PVP.out] at CPG
            have mixed : Try.prog.follows .mixedOrders = true := Try.checked.mixed
            have q0 := fun n' os => (XA.out.at_.grown n' os).c0
            have q1 := fun n' os => (XA.out.at_.grown n' os).c1
            have q2 := fun n' os => (XA.out.at_.grown n' os).c2
            have q3 := fun n' os => (XA.out.at_.grown n' os).c3
            have q4 := fun n' os => (XA.out.at_.grown n' os).c4
            have q5 := fun n' os => (XA.out.at_.grown n' os).c5
            have q6 := fun n' os => (XA.out.at_.grown n' os).c6
            have r0 := fun n' os => (XB.out.at_.grown n' os).c0
            have r1 := fun n' os => (XB.out.at_.grown n' os).c1
            have r2 := fun n' os => (XB.out.at_.grown n' os).c2
            have r3 := fun n' os => (XB.out.at_.grown n' os).c3
            have r4 := fun n' os => (XB.out.at_.grown n' os).c4
            have r5 := fun n' os => (XB.out.at_.grown n' os).c5
            have r6 := fun n' os => (XB.out.at_.grown n' os).c6
            simp only [Nat.zero_add] at q0 q1 q2 q3 q4 q5 q6 r0 r1 r2 r3 r4 r5 r6
            refine wp_region_quiet_grown mixed (by kernel_rfl) ?_
            repeat (go_big_quiet_step (first | (go_at_call 30; with_reducible exact Calls.grown_of (COB _)) | (go_at_call 30; with_reducible exact Calls.grown_of (COA _)) | (go_at_call 26; with_reducible exact Calls.grown_of (CPG _ _))))
            refine wpQuiet_nil ?_
            intro w9 hw'
            have G9 := Lib.hid (show gen.Grew Wbb2 w9 from by obtain ⟨p, h⟩ := hw'; exact ⟨p.n, p.os, h⟩)
            clear hw'
            go_wp2
            go_ret
            exact ⟨rfl, BB.out.trans (G9.out.below.mono BB.out.size)⟩

theorem own : ownKnob Try.prog.godebug = none := by kernel_rfl
theorem laidOut : laidOutB Try.prog = true := by kernel_rfl
theorem isLaw : lift.IsLaw Rows.fnBackSpec 1 0 := fun _ ds gs h1 h2 => match ds, h1 with | [_], _ => match gs, h2 with | [], _ => rfl

set_option maxRecDepth 100000 in
theorem lifted (os : Os) (started : os.Started) (H : Type) (enc : TypeId × Value → H) :
    ReturnsInHanded {} Try.checked os 5 .any (Rows.fnBackSpec.pre6 enc Try.prog Try.f5 Rows.fnBackRow.domain false) (Rows.fnBackSpec.post enc Try.prog Try.f5 false true false false) := by
  refine returnsInHanded_of_change (C := Try.checked) own started (by kernel_rfl) Try.func5
    (ChangeSpec.witness6 (enc := enc) (C := Try.checked) false ⟨#[], #[.slice none 0 0], []⟩ 8 (by kernel_rfl) (by kernel_rfl) (by kernel_rfl) (by kernel_rfl)) ?_
  intro W base args ds gs before hval0 hW _ _
  have hval : ∀ (j : Nat) t v, Try.f5.params[j]? = some t → args[j]? = some v → Value.okWide Try.prog W .any base t v := hval0
  have hW' := hW
  obtain ⟨p, q, hA0, hV, hrest⟩ := hW
  have hA : DataW.TrodAll enc Try.prog W 0 (fun _ => true) true Try.f5.params.toList args.toList ds p := hA0
  clear hA0 hval0 hV hrest
  rw [Try.params5] at hA hval
  obtain ⟨v0, d0, rfl, rfl, h0⟩ := trodAll_one hA
  obtain ⟨a, len, cap, rfl, hlen, hB⟩ := draw.open_code Try.underlying34 Try.underlying5 (by kernel_rfl) (hval 0 34 v0 rfl rfl) h0
  have wk : Calls Try.prog 5 #[.slice a len cap] W fun e w' => e = .returned (.bool true) ∧ Below W.heap.size W w' := by
    by_cases hb : len ≤ 1048576
    · exact walk_small a cap len W hB hb
    · exact walk_big a len cap W hlen (by omega)
  refine (wk).mono fun e W' ⟨he, hb⟩ => ?_
  subst he
  exact ⟨_, rfl, lift.law_post laidOut (by kernel_rfl) (by kernel_rfl) (by kernel_rfl) Try.underlying4 (by rw [Try.params5]; exact isLaw) hW' hb⟩

theorem over : Rows.fnBackRow.holds Try.pinned (OpenSpec.ofChange Rows.fnBackSpec) :=
  OpenClaim.holds_of_wide 5 Try.f5 rfl rfl rfl rfl rfl rfl rfl ⟨rfl, rfl, rfl, rfl, rfl⟩ rfl rfl rfl rfl rfl (by kernel_rfl) Try.func5 (by kernel_rfl)
    (of_decide_eq_true (by kernel_rfl)) (by unfold Func.isWrapper; first | (rw [if_pos (by decide +kernel)]; kernel_rfl) | (rw [if_neg (by decide +kernel)]; exact ⟨rfl, rfl⟩))
    (fun os started H enc _ => lifted os started H enc)

theorem proved : Rows.FnBackSaid := over
#print axioms proved
end Go.Proofs.Ytmnmijiikjpdnaa.fnBack
