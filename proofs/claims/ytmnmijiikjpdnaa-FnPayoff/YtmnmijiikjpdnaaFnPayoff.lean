/-
  Proved: for every code, paying off the drawn plan costs the told amount and leaves nothing owed, and later it is no less; the law laws.FnPayoff returns true and its arguments read as before. Conditions: none beyond the given row.
-/
import Derived.Test.YtmnmijiikjpdnaaDrO
import Derived.Test.YtmnmijiikjpdnaaPo7
import Derived.Test.YtmnmijiikjpdnaaPoI
import Derived.Test.YtmnmijiikjpdnaaPoS
import Derived.Test.YtmnmijiikjpdnaaPdI
import Derived.Test.YtmnmijiikjpdnaaPdS
import Derived.Test.YtmnmijiikjpdnaaPkI
import Derived.Test.YtmnmijiikjpdnaaSmI
import Derived.Test.YtmnmijiikjpdnaaLn7
import Derived.Carry
namespace Go.Proofs.Ytmnmijiikjpdnaa.fnPayoff
open Go.ChangeShapes Go.WideShapes Go.ChangeAt Go.RowKit


theorem walk_big (a : Option Addr) (len cap : Nat) (w : World) (hl : len ≤ maxLen) (hb : 1048576 < len) : Calls Try.prog 9 #[.slice a len cap] w fun e w' => e = .returned (.bool true) ∧ Below w.heap.size w w' := by
  go_enter Try.func9, Try.ntmps9
  go_wp2_with fail
  refine (draw.bigT a len cap w hb hl).mono ?_
  rintro e w' ⟨rfl, rfl⟩
  go_wp2
  go_ret
  exact ⟨rfl, Below.refl _ _⟩

set_option maxRecDepth 100000 in
set_option maxHeartbeats 8000000 in
theorem walk_small (a : Option Addr) (cap len : Nat) (w : World) (hB : draw.Bytes w a len) (hn : len ≤ 1048576) : Calls Try.prog 9 #[.slice a len cap] w fun e w' => e = .returned (.bool true) ∧ Below w.heap.size w w' := by
  have HB := Lib.hid hB
  clear hB
  go_enter Try.func9, Try.ntmps9
  go_wp2_with fail
  refine (draw.bigF a len cap w hn).mono ?_
  rintro e w' ⟨rfl, rfl⟩
  go_wp2_with fail
  refine (base.drawPaid a len cap w HB.out hn).mono ?_
  rintro e w1 ⟨cl, g, l, d, rfl, rl, lo, hi, p1, p24, b1⟩
  have RL := Lib.hid rl
  have BB := Lib.hid b1
  clear rl b1 HB
  have CN := fun w0 c g r => base.poI d w0 c g l r (by omega)
  have CNS := fun w0 c g r => base.poS d w0 c g l r (by omega)
  have CS := fun w0 c g r => base.pdS d w0 c g l r (by omega)
  have CI := fun w0 c g r => base.pdI d w0 c g l r (by omega)
  unfold base.Out at CS CI
  have lp : (base.poL l d).length ≤ 24 := Nat.le_trans (base.poL_len l d) p24
  have FACT := Lib.hid (show pl.PV l ∧ 0 ≤ d ∧ d ≤ 100000 → base.OffT l (base.poL l d) d (base.pof l d) (base.poN l d) ∧ 0 < (base.poL l d).length from fun h => by
    refine ⟨base.off_all h.1 h.2.1 h.2.2, ?_⟩
    rw [(base.po_yes (by rw [pl.pv_t h.1, Bool.true_and, pl.inR_iff]; exact h.2)).1]
    unfold base.offL
    rw [List.length_map]; omega)
  have NEG := Lib.hid (fun h => base.off_neg (l := l) (d := d) h)
  obtain ⟨P, hP⟩ : ∃ P, P = base.poL l d := ⟨_, rfl⟩
  obtain ⟨V, hV⟩ : ∃ V, V = base.poN l d := ⟨_, rfl⟩
  obtain ⟨N, hN⟩ : ∃ N, N = base.pof l d := ⟨_, rfl⟩
  rw [← hP, ← hV] at CS CI
  rw [← hP, ← hV, ← hN] at FACT
  rw [← hP] at lp
  rw [← hN] at CN CNS NEG
  have CNh := Lib.hid CN
  have CNSh := Lib.hid CNS
  have CSh := Lib.hid CS
  have CIh := Lib.hid CI
  clear CN CNS CS CI hP hV hN
  have tc : (V != V) = false := by simp
  have tc' : (V == V) = true := by simp
  have td : (N != N) = false := by simp
  have td' : (N == N) = true := by simp
  go_wp2_with fail
  refine (CNh.out w1 _ g RL.out).mono ?_
  rintro e w2 ⟨rfl, bb⟩
  replace BB := Lib.hid (BB.out.trans (bb.mono BB.out.size))
  have z2 := bb.size
  replace RL := Lib.hid (RL.out.keep (w' := w2) fun h => bb.block g (by omega))
  clear bb
  go_wp2_with fail
  refine (CIh.out w2 _ g RL.out).mono ?_
  rintro e w3 ⟨am, cm, gm, rfl, r0, G0, bb⟩
  replace BB := Lib.hid (BB.out.trans (bb.mono BB.out.size))
  have z3 := bb.size
  replace RL := Lib.hid (RL.out.keep (w' := w3) fun h => bb.block g (by omega))
  clear bb
  have RM := Lib.hid r0
  have GRM := Lib.hid G0
  clear r0 G0
  go_wp2_with fail
  refine (CSh.out w3 _ g RL.out).mono ?_
  rintro e w4 ⟨aw, cw, gw, rfl, r0, G0, bb⟩
  replace BB := Lib.hid (BB.out.trans (bb.mono BB.out.size))
  have z4 := bb.size
  replace RL := Lib.hid (RL.out.keep (w' := w4) fun h => bb.block g (by omega))
  replace RM := Lib.hid (RM.out.keep (w' := w4) fun h => bb.block gm (by have := (GRM.out h).2; omega))
  clear bb
  have RW := Lib.hid r0
  have GRW := Lib.hid G0
  clear r0 G0
  go_wp2_with fail
  refine (CNSh.out w4 _ g RL.out).mono ?_
  rintro e w5 ⟨rfl, bb⟩
  replace BB := Lib.hid (BB.out.trans (bb.mono BB.out.size))
  have z5 := bb.size
  replace RL := Lib.hid (RL.out.keep (w' := w5) fun h => bb.block g (by omega))
  replace RM := Lib.hid (RM.out.keep (w' := w5) fun h => bb.block gm (by have := (GRM.out h).2; omega))
  replace RW := Lib.hid (RW.out.keep (w' := w5) fun h => bb.block gw (by have := (GRW.out h).2; omega))
  clear bb
  go_wp2_with fail
  refine (seven.samT w5 am aw cm cw gm gw P RM.out RW.out (by omega)).mono ?_
  rintro e w6 ⟨rfl, bb⟩
  replace BB := Lib.hid (BB.out.trans (bb.mono BB.out.size))
  have z6 := bb.size
  replace RL := Lib.hid (RL.out.keep (w' := w6) fun h => bb.block g (by omega))
  replace RM := Lib.hid (RM.out.keep (w' := w6) fun h => bb.block gm (by have := (GRM.out h).2; omega))
  replace RW := Lib.hid (RW.out.keep (w' := w6) fun h => bb.block gw (by have := (GRW.out h).2; omega))
  clear bb
  by_cases ok : pl.PV l ∧ 0 ≤ d ∧ d ≤ 100000
  · obtain ⟨FT, pp⟩ := FACT.out ok
    have PV := Lib.hid ok.1
    obtain ⟨-, d0, d1⟩ := ok
    obtain ⟨PVP, n0, n1, v0, v1, fall, fno, flater, fz⟩ := FT
    have uN : decide (N < 0) = false := by simp; omega
    have SA := base.sums_tot PV.out
    have SB := base.sums_tot PVP
    have SMA := base.sml_sums PV.out
    have SMB := base.sml_sums PVP
    have CA := fun w0 c g r => base.smI w0 (some ⟨g, 0, none⟩) c g l r (by omega)
    have CB := fun w0 a c g r => base.smI w0 a c g P r (by omega)
    have CPI := fun w0 a c g r => base.pkI w0 a c g P r (by omega)
    have CZ := fun w0 c g r => base.poI d w0 c g P r (by omega)
    rw [pl.pv_t PVP] at CPI
    rw [fz] at CZ
    rw [SA] at CA SMA
    rw [SB] at CB SMB
    generalize base.tot base.fP l = a1 at *
    generalize base.tot base.fI l = a2 at *
    generalize base.tot base.fF l = a3 at *
    generalize base.tot base.fp l = a4 at *
    generalize base.tot base.fi l = a5 at *
    generalize base.tot base.ff l = a6 at *
    generalize base.tot base.fP P = b1 at *
    generalize base.tot base.fI P = b2 at *
    generalize base.tot base.fF P = b3 at *
    generalize base.tot base.fp P = b4 at *
    generalize base.tot base.fi P = b5 at *
    generalize base.tot base.ff P = b6 at *
    have COB := fun w0 => base.owC 0 b1 b2 b3 b4 b5 b6 w0 SMB
    have COA := fun w0 => base.owC 0 a1 a2 a3 a4 a5 a6 w0 SMA
    rw [show base.ow (0, b1, b2, b3, b4, b5, b6) = 0 from fno] at COB
    obtain ⟨oa, hoa⟩ : ∃ oa, oa = base.ow (0, a1, a2, a3, a4, a5, a6) := ⟨_, rfl⟩
    rw [← hoa] at COA
    unfold base.ow at hoa
    dsimp only at hoa
    have w1' : (N + V == oa) = true := by simp; omega
    have e0 := RM.out.addr pp
    have CAh := Lib.hid CA
    have CBh := Lib.hid CB
    have CPh := Lib.hid CPI
    have CZh := Lib.hid CZ
    have COBh := Lib.hid COB
    have COAh := Lib.hid COA
    have FL := Lib.hid flater
    subst e0
    clear CA CB CPI CZ COB COA SA SB SMA SMB PVP FACT NEG fall fno flater fz hoa
    go_wp2_with fail
    refine (CBh.out w6 _ cm gm RM.out).mono ?_
    rintro e w7 ⟨rfl, bb⟩
    replace BB := Lib.hid (BB.out.trans (bb.mono BB.out.size))
    have z7 := bb.size
    replace RL := Lib.hid (RL.out.keep (w' := w7) fun h => bb.block g (by omega))
    replace RM := Lib.hid (RM.out.keep (w' := w7) fun h => bb.block gm (by have := (GRM.out h).2; omega))
    replace RW := Lib.hid (RW.out.keep (w' := w7) fun h => bb.block gw (by have := (GRW.out h).2; omega))
    clear bb
    have fl := FL.out (min (d + 40) 100000) (by omega) (by omega)
    have CL := fun w0 c g r => base.poI (min (d + 40) 100000) w0 c g l r (by omega)
    obtain ⟨LT, hLT⟩ : ∃ LT, LT = base.pof l (min (d + 40) 100000) := ⟨_, rfl⟩
    rw [← hLT] at CL fl
    have CLh := Lib.hid CL
    have w2' : decide (N ≤ LT) = true := by simp; omega
    clear CL hLT FL
    have XB := Lib.hid (base.Bx.new w7 (0, b1, b2, b3, b4, b5, b6))
    have zbbb2 : (w7.alloc (.cells #[.int .i64 0, .int .i64 b1, .int .i64 b2, .int .i64 b3, .int .i64 b4, .int .i64 b5, .int .i64 b6] 26)).heap.size = w7.heap.size + 1 := by simp
    have al := fun k hk => Below.heap_alloc w7 (.cells #[.int .i64 0, .int .i64 b1, .int .i64 b2, .int .i64 b3, .int .i64 b4, .int .i64 b5, .int .i64 b6] 26) k hk
    replace RL := Lib.hid (RL.out.keep (w' := w7.alloc (.cells #[.int .i64 0, .int .i64 b1, .int .i64 b2, .int .i64 b3, .int .i64 b4, .int .i64 b5, .int .i64 b6] 26)) fun h => al g (by omega))
    replace RM := Lib.hid (RM.out.keep (w' := w7.alloc (.cells #[.int .i64 0, .int .i64 b1, .int .i64 b2, .int .i64 b3, .int .i64 b4, .int .i64 b5, .int .i64 b6] 26)) fun h => al gm (by have := (GRM.out h).2; omega))
    replace RW := Lib.hid (RW.out.keep (w' := w7.alloc (.cells #[.int .i64 0, .int .i64 b1, .int .i64 b2, .int .i64 b3, .int .i64 b4, .int .i64 b5, .int .i64 b6] 26)) fun h => al gw (by have := (GRW.out h).2; omega))
    replace BB := Lib.hid (BB.out.alloc BB.out.size (.cells #[.int .i64 0, .int .i64 b1, .int .i64 b2, .int .i64 b3, .int .i64 b4, .int .i64 b5, .int .i64 b6] 26))
    clear al
    go_wp2_with fail
    obtain ⟨bb2, hbb2⟩ : ∃ bb2, bb2 = w7.heap.size := ⟨_, rfl⟩
    rw [← hbb2] at XB zbbb2 ⊢
    generalize w7.alloc (.cells #[.int .i64 0, .int .i64 b1, .int .i64 b2, .int .i64 b3, .int .i64 b4, .int .i64 b5, .int .i64 b6] 26) = Wbb2 at XB BB zbbb2 RL RM RW ⊢
    have lbb2 : bb2 < Wbb2.heap.size := by omega
    have mbb2 : w7.heap.size ≤ bb2 := by omega
    clear hbb2
    refine (CLh.out Wbb2 _ g RL.out).mono ?_
    rintro e w8 ⟨rfl, bb⟩
    replace BB := Lib.hid (BB.out.trans (bb.mono BB.out.size))
    have z8 := bb.size
    replace RL := Lib.hid (RL.out.keep (w' := w8) fun h => bb.block g (by omega))
    replace RM := Lib.hid (RM.out.keep (w' := w8) fun h => bb.block gm (by have := (GRM.out h).2; omega))
    replace RW := Lib.hid (RW.out.keep (w' := w8) fun h => bb.block gw (by have := (GRW.out h).2; omega))
    replace XB := Lib.hid (XB.out.keep (w' := w8) (bb.block bb2 (by omega)))
    clear bb
    go_wp2_with fail
    refine (CAh.out w8 _ g RL.out).mono ?_
    rintro e w9 ⟨rfl, bb⟩
    replace BB := Lib.hid (BB.out.trans (bb.mono BB.out.size))
    have z9 := bb.size
    replace RL := Lib.hid (RL.out.keep (w' := w9) fun h => bb.block g (by omega))
    replace RM := Lib.hid (RM.out.keep (w' := w9) fun h => bb.block gm (by have := (GRM.out h).2; omega))
    replace RW := Lib.hid (RW.out.keep (w' := w9) fun h => bb.block gw (by have := (GRW.out h).2; omega))
    replace XB := Lib.hid (XB.out.keep (w' := w9) (bb.block bb2 (by omega)))
    clear bb
    go_wp2_with fail
    refine (COAh.out w9).mono ?_
    rintro e w10 ⟨rfl, bb⟩
    replace BB := Lib.hid (BB.out.trans (bb.mono BB.out.size))
    have z10 := bb.size
    replace RL := Lib.hid (RL.out.keep (w' := w10) fun h => bb.block g (by omega))
    replace RM := Lib.hid (RM.out.keep (w' := w10) fun h => bb.block gm (by have := (GRM.out h).2; omega))
    replace RW := Lib.hid (RW.out.keep (w' := w10) fun h => bb.block gw (by have := (GRW.out h).2; omega))
    replace XB := Lib.hid (XB.out.keep (w' := w10) (bb.block bb2 (by omega)))
    clear bb
    obtain ⟨r0, r1, r2, r3, r4, r5, r6⟩ := XB.out.at_
    simp only [Nat.zero_add] at r0 r1 r2 r3 r4 r5 r6
    go_wp2_with fail
    refine (COBh.out w10).mono ?_
    rintro e w11 ⟨rfl, bb⟩
    replace BB := Lib.hid (BB.out.trans (bb.mono BB.out.size))
    have z11 := bb.size
    replace RL := Lib.hid (RL.out.keep (w' := w11) fun h => bb.block g (by omega))
    replace RM := Lib.hid (RM.out.keep (w' := w11) fun h => bb.block gm (by have := (GRM.out h).2; omega))
    replace RW := Lib.hid (RW.out.keep (w' := w11) fun h => bb.block gw (by have := (GRW.out h).2; omega))
    replace XB := Lib.hid (XB.out.keep (w' := w11) (bb.block bb2 (by omega)))
    clear bb
    clear r0 r1 r2 r3 r4 r5 r6
    go_wp2_with fail
    refine (CZh.out w11 _ gm RM.out).mono ?_
    rintro e w12 ⟨rfl, bb⟩
    replace BB := Lib.hid (BB.out.trans (bb.mono BB.out.size))
    have z12 := bb.size
    replace RL := Lib.hid (RL.out.keep (w' := w12) fun h => bb.block g (by omega))
    replace RM := Lib.hid (RM.out.keep (w' := w12) fun h => bb.block gm (by have := (GRM.out h).2; omega))
    replace RW := Lib.hid (RW.out.keep (w' := w12) fun h => bb.block gw (by have := (GRW.out h).2; omega))
    replace XB := Lib.hid (XB.out.keep (w' := w12) (bb.block bb2 (by omega)))
    clear bb
    go_wp2_with fail
    refine (CPh.out w12 _ cm gm RM.out).mono ?_
    rintro e w13 ⟨rfl, bb⟩
    replace BB := Lib.hid (BB.out.trans (bb.mono BB.out.size))
    have z13 := bb.size
    replace RL := Lib.hid (RL.out.keep (w' := w13) fun h => bb.block g (by omega))
    replace RM := Lib.hid (RM.out.keep (w' := w13) fun h => bb.block gm (by have := (GRM.out h).2; omega))
    replace RW := Lib.hid (RW.out.keep (w' := w13) fun h => bb.block gw (by have := (GRW.out h).2; omega))
    replace XB := Lib.hid (XB.out.keep (w' := w13) (bb.block bb2 (by omega)))
    clear bb
    go_wp2
    go_ret
    exact ⟨rfl, BB.out⟩
  · have nn := NEG.out ok
    have uN : decide (N < 0) = true := by simp; omega
    clear FACT NEG nn ok
    go_wp2_with fail
    refine (CNSh.out w6 _ g RL.out).mono ?_
    rintro e w7 ⟨rfl, bb⟩
    replace BB := Lib.hid (BB.out.trans (bb.mono BB.out.size))
    have z7 := bb.size
    replace RL := Lib.hid (RL.out.keep (w' := w7) fun h => bb.block g (by omega))
    replace RM := Lib.hid (RM.out.keep (w' := w7) fun h => bb.block gm (by have := (GRM.out h).2; omega))
    replace RW := Lib.hid (RW.out.keep (w' := w7) fun h => bb.block gw (by have := (GRW.out h).2; omega))
    clear bb
    go_wp2_with fail
    refine (seven.samT w7 am aw cm cw gm gw P RM.out RW.out (by omega)).mono ?_
    rintro e w8 ⟨rfl, bb⟩
    replace BB := Lib.hid (BB.out.trans (bb.mono BB.out.size))
    have z8 := bb.size
    replace RL := Lib.hid (RL.out.keep (w' := w8) fun h => bb.block g (by omega))
    replace RM := Lib.hid (RM.out.keep (w' := w8) fun h => bb.block gm (by have := (GRM.out h).2; omega))
    replace RW := Lib.hid (RW.out.keep (w' := w8) fun h => bb.block gw (by have := (GRW.out h).2; omega))
    clear bb
    go_wp2
    go_ret
    exact ⟨rfl, BB.out⟩

theorem own : ownKnob Try.prog.godebug = none := by kernel_rfl
theorem laidOut : laidOutB Try.prog = true := by kernel_rfl
theorem isLaw : lift.IsLaw Rows.fnPayoffSpec 1 0 := fun _ ds gs h1 h2 => match ds, h1 with | [_], _ => match gs, h2 with | [], _ => rfl

set_option maxRecDepth 100000 in
theorem lifted (os : Os) (started : os.Started) (H : Type) (enc : TypeId × Value → H) :
    ReturnsInHanded {} Try.checked os 9 .any (Rows.fnPayoffSpec.pre6 enc Try.prog Try.f9 Rows.fnPayoffRow.domain false) (Rows.fnPayoffSpec.post enc Try.prog Try.f9 false true false false) := by
  refine returnsInHanded_of_change (C := Try.checked) own started (by kernel_rfl) Try.func9
    (ChangeSpec.witness6 (enc := enc) (C := Try.checked) false ⟨#[], #[.slice none 0 0], []⟩ 8 (by kernel_rfl) (by kernel_rfl) (by kernel_rfl) (by kernel_rfl)) ?_
  intro W base args ds gs before hval0 hW _ _
  have hval : ∀ (j : Nat) t v, Try.f9.params[j]? = some t → args[j]? = some v → Value.okWide Try.prog W .any base t v := hval0
  have hW' := hW
  obtain ⟨p, q, hA0, hV, hrest⟩ := hW
  have hA : DataW.TrodAll enc Try.prog W 0 (fun _ => true) true Try.f9.params.toList args.toList ds p := hA0
  clear hA0 hval0 hV hrest
  rw [Try.params9] at hA hval
  obtain ⟨v0, d0, rfl, rfl, h0⟩ := trodAll_one hA
  obtain ⟨a, len, cap, rfl, hlen, hB⟩ := draw.open_code Try.underlying34 Try.underlying5 (by kernel_rfl) (hval 0 34 v0 rfl rfl) h0
  have wk : Calls Try.prog 9 #[.slice a len cap] W fun e w' => e = .returned (.bool true) ∧ Below W.heap.size W w' := by
    by_cases hb : len ≤ 1048576
    · exact walk_small a cap len W hB hb
    · exact walk_big a len cap W hlen (by omega)
  refine (wk).mono fun e W' ⟨he, hb⟩ => ?_
  subst he
  exact ⟨_, rfl, lift.law_post laidOut (by kernel_rfl) (by kernel_rfl) (by kernel_rfl) Try.underlying4 (by rw [Try.params9]; exact isLaw) hW' hb⟩

theorem over : Rows.fnPayoffRow.holds Try.pinned (OpenSpec.ofChange Rows.fnPayoffSpec) :=
  OpenClaim.holds_of_wide 9 Try.f9 rfl rfl rfl rfl rfl rfl rfl ⟨rfl, rfl, rfl, rfl, rfl⟩ rfl rfl rfl rfl rfl (by kernel_rfl) Try.func9 (by kernel_rfl)
    (of_decide_eq_true (by kernel_rfl)) (by unfold Func.isWrapper; first | (rw [if_pos (by decide +kernel)]; kernel_rfl) | (rw [if_neg (by decide +kernel)]; exact ⟨rfl, rfl⟩))
    (fun os started H enc _ => lifted os started H enc)

theorem proved : Rows.FnPayoffSaid := over
#print axioms proved
end Go.Proofs.Ytmnmijiikjpdnaa.fnPayoff
