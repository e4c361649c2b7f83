/-
  Proved: for every code, the sums of consumers, merchants and the platform are the sum of all, and a balance that is not 0 is of a valid account; the law laws.FnClasses returns true and its arguments read as before. Conditions: none beyond the given row.
-/
import Derived.Test.YtnkdjnfbllkgiaaClM
import Derived.Test.YtnkdjnfbllkgiaaDrawC
import Derived.Test.YtnkdjnfbllkgiaaBalS
import Derived.Test.YtnkdjnfbllkgiaaClS
import Derived.Test.YtnkdjnfbllkgiaaTrI
import Derived.Test.YtnkdjnfbllkgiaaAcct
namespace Go.Proofs.Ytnkdjnfbllkgiaa.fnClasses
open Go.ChangeShapes Go.WideShapes Go.ChangeAt Go.RowKit


theorem walk_big (a : Option Addr) (len cap : Nat) (w : World) (hl : len ≤ maxLen) (hb : 1048576 < len) : Calls Try.prog 12 #[.slice a len cap] w fun e w' => e = .returned (.bool true) ∧ Below w.heap.size w w' := by
  go_enter Try.func12, Try.ntmps12
  go_wp2_with fail
  refine (draw.bigT a len cap w hb hl).mono ?_
  rintro e w' ⟨rfl, rfl⟩
  go_wp2
  go_ret
  exact ⟨rfl, Below.refl _ _⟩
set_option maxRecDepth 100000 in
set_option maxHeartbeats 8000000 in
theorem walk_small (a : Option Addr) (cap len : Nat) (w : World) (hB : draw.Bytes w a len) (hn : len ≤ 1048576) : Calls Try.prog 12 #[.slice a len cap] w fun e w' => e = .returned (.bool true) ∧ Below w.heap.size w w' := by
  have HB := Lib.hid hB
  clear hB
  go_enter Try.func12, Try.ntmps12
  go_wp2_with fail
  refine (draw.bigF a len cap w hn).mono ?_
  rintro e w' ⟨rfl, rfl⟩
  go_wp2_with fail
  refine (draw.drawCs a len cap w HB.out hn).mono ?_
  rintro e w1 ⟨cl, gl, l, cs, cu, rfl, rl, gl1, hl, u1, u2, b1⟩
  have B1 := Lib.hid b1
  have RL := Lib.hid rl
  clear rl b1
  go_wp2_with fail
  refine (draw.drawBo a len cap w1 (HB.out.below B1.out) hn).mono ?_
  rintro e w2 ⟨cm, gm, m, p, rfl, rm, gm1, hm, w4, b2⟩
  obtain ⟨W0, hW0⟩ : ∃ W0, W0 = w2.alloc (.cells #[.int .i64 p.1, .int .i64 p.2.1, .int .i64 p.2.2.1] 25) := ⟨_, rfl⟩
  have B2 := Lib.hid (show Below w2.heap.size w2 W0 from by rw [hW0]; exact (five.Grew.alloc w2 _).below)
  have FIN := Lib.hid (show ∀ w', Below W0.heap.size W0 w' → Below w.heap.size w w' from fun w' hb => by
    have h1 := B1.out.trans (b2.mono B1.out.size)
    have h2 := h1.trans (B2.out.mono h1.size)
    exact h2.trans (hb.mono h2.size))
  have KL := Lib.hid (show ∀ w', Below W0.heap.size W0 w' → five.Row w' (some ⟨gl, 0, none⟩) cl gl l from fun w' hb => RL.out.keep fun _ => (hb.block gl (Nat.lt_of_lt_of_le gl1 (Nat.le_trans b2.size B2.out.size))).trans ((B2.out.block gl (Nat.lt_of_lt_of_le gl1 b2.size)).trans (b2.block gl gl1)))
  have KM := Lib.hid (show ∀ w', Below W0.heap.size W0 w' → five.Row w' (some ⟨gm, 0, none⟩) cm gm m from fun w' hb => rm.keep fun _ => (hb.block gm (Nat.lt_of_lt_of_le gm1 B2.out.size)).trans (B2.out.block gm gm1))
  have KC := Lib.hid (show ∀ w' (i : Nat) (v : Value), Below W0.heap.size W0 w' → W0.cell? ⟨w2.heap.size, i, none⟩ = some v → w'.cell? ⟨w2.heap.size, i, none⟩ = some v from fun w' i v hb h => (hb.cell (p := ⟨w2.heap.size, i, none⟩) (by rw [hW0]; simp)).trans h)
  have C0 := Lib.hid (show W0.cell? ⟨w2.heap.size, 0, none⟩ = some (.int .i64 p.1) from by rw [hW0]; exact five.box_cell (five.box_refl w2 _) 0 rfl)
  have C1 := Lib.hid (show W0.cell? ⟨w2.heap.size, 1, none⟩ = some (.int .i64 p.2.1) from by rw [hW0]; exact five.box_cell (five.box_refl w2 _) 1 rfl)
  have C2 := Lib.hid (show W0.cell? ⟨w2.heap.size, 2, none⟩ = some (.int .i64 p.2.2.1) from by rw [hW0]; exact five.box_cell (five.box_refl w2 _) 2 rfl)
  have WP := Lib.hid w4
  have Z0 := Lib.hid (Below.refl W0.heap.size W0)
  have BI := Lib.hid (show ∀ w', Below W0.heap.size W0 w' → Calls Try.prog 30 #[.slice (some ⟨gm, 0, none⟩) m.length cm, .agg #[.int .i64 p.1, .int .i64 p.2.1, .int .i64 p.2.2.1], .int .i64 p.2.2.2.1] w' (fun e w'' => e = .returned (.int .i64 (mp.blv m p)) ∧ Below W0.heap.size W0 w'') from fun w' hb => (mp.blI w' _ cm gm m p (KM.out w' hb) WP.out (by omega)).mono fun _ _ ⟨he, b⟩ => ⟨he, hb.trans (b.mono hb.size)⟩)
  have BS := Lib.hid (show ∀ w', Below W0.heap.size W0 w' → Calls Try.prog 29 #[.slice (some ⟨gm, 0, none⟩) m.length cm, .agg #[.int .i64 p.1, .int .i64 p.2.1, .int .i64 p.2.2.1], .int .i64 p.2.2.2.1] w' (fun e w'' => e = .returned (.int .i64 (mp.blv m p)) ∧ Below W0.heap.size W0 w'') from fun w' hb => (mp.blS w' _ cm gm m p (KM.out w' hb) (by omega)).mono fun _ _ ⟨he, b⟩ => ⟨he, hb.trans (b.mono hb.size)⟩)
  have CI := Lib.hid (show ∀ (k : Int) w', Below W0.heap.size W0 w' → Calls Try.prog 22 #[.slice (some ⟨gl, 0, none⟩) l.length cl, .int .i64 k, .int .i64 cu] w' (fun e w'' => e = .returned (.int .i64 (led.clS l k cu)) ∧ Below W0.heap.size W0 w'') from fun k w' hb => (base.clsI w' _ cl gl l k cu (KL.out w' hb) (by omega)).mono fun _ _ ⟨he, b⟩ => ⟨he, hb.trans (b.mono hb.size)⟩)
  have CS := Lib.hid (show ∀ (k : Int) w', Below W0.heap.size W0 w' → Calls Try.prog 21 #[.slice (some ⟨gl, 0, none⟩) l.length cl, .int .i64 k, .int .i64 cu] w' (fun e w'' => e = .returned (.int .i64 (led.clS l k cu)) ∧ Below W0.heap.size W0 w'') from fun k w' hb => (base.clsS w' _ cl gl l k cu (KL.out w' hb) (by omega)).mono fun _ _ ⟨he, b⟩ => ⟨he, hb.trans (b.mono hb.size)⟩)
  have LS := Lib.hid (show ∀ w', Below W0.heap.size W0 w' → Calls Try.prog 17 #[.slice (some ⟨gl, 0, none⟩) l.length cl] w' (fun e w'' => e = .returned (.bool (led.lv l)) ∧ Below W0.heap.size W0 w'') from fun w' hb => (base.lgS w' _ cl gl l (KL.out w' hb) (by omega)).mono fun _ _ ⟨he, b⟩ => ⟨he, hb.trans (b.mono hb.size)⟩)
  have AC := Lib.hid (show ∀ w', Below W0.heap.size W0 w' → Calls Try.prog 15 #[.agg #[.int .i64 p.1, .int .i64 p.2.1, .int .i64 p.2.2.1]] w' (fun e w'' => e = .returned (.bool (led.acct p.1 p.2.1 p.2.2.1)) ∧ Below W0.heap.size W0 w'') from fun w' hb => (base.acctI p.1 p.2.1 p.2.2.1 w').mono fun _ _ ⟨he, b⟩ => ⟨he, hb.trans (b.below.mono hb.size)⟩)
  have NZ := Lib.hid (show mp.blv m p ≠ 0 → led.acct p.1 p.2.1 p.2.2.1 = true from fun h => by
    cases hv : led.lv m with
    | false => exact absurd (mp.blv_f hv) h
    | true => rw [mp.blv_t hv] at h; exact led.at4_acct (led.lv_iff.1 hv) h)
  have rom := RL.out.room
  have rmm := rm.room
  generalize led.acct p.1 p.2.1 p.2.2.1 = ok at AC NZ
  generalize mp.blv m p = n at BI BS NZ
  have tn : (n != n) = false := by simp
  have tn' : (n == n) = true := by simp
  have CI0 := Lib.hid (CI.out cs)
  have CS0 := Lib.hid (CS.out cs)
  obtain ⟨k0, hk0⟩ : ∃ k0, k0 = led.clS l cs cu := ⟨_, rfl⟩
  rw [← hk0] at CI0 CS0
  have tk : (k0 != k0) = false := by simp
  have tk' : (k0 == k0) = true := by simp
  have b0 := C0.out
  have b1 := C1.out
  have b2' := C2.out
  clear rm w4 b2 hk0 CS
  go_wp2_with fail
  rw [← hW0]
  clear hW0
  refine (BI.out W0 Z0.out).mono ?_
  rintro e w3 ⟨rfl, bb⟩
  have Z3 := Lib.hid bb
  have v03 := KC.out w3 0 _ bb C0.out
  have v13 := KC.out w3 1 _ bb C1.out
  have v23 := KC.out w3 2 _ bb C2.out
  clear bb
  go_wp2_with fail
  refine (CI0.out w3 Z3.out).mono ?_
  rintro e w4 ⟨rfl, bb⟩
  have Z4 := Lib.hid bb
  have v04 := KC.out w4 0 _ bb C0.out
  have v14 := KC.out w4 1 _ bb C1.out
  have v24 := KC.out w4 2 _ bb C2.out
  clear bb
  go_wp2_with fail
  refine (CS0.out w4 Z4.out).mono ?_
  rintro e w5 ⟨rfl, bb⟩
  have Z5 := Lib.hid bb
  have v05 := KC.out w5 0 _ bb C0.out
  have v15 := KC.out w5 1 _ bb C1.out
  have v25 := KC.out w5 2 _ bb C2.out
  clear bb
  go_wp2_with fail
  refine (BS.out w5 Z5.out).mono ?_
  rintro e w6 ⟨rfl, bb⟩
  have Z6 := Lib.hid bb
  have v06 := KC.out w6 0 _ bb C0.out
  have v16 := KC.out w6 1 _ bb C1.out
  have v26 := KC.out w6 2 _ bb C2.out
  clear bb
  cases hv : led.lv l with
  | false =>
    rw [hv] at LS
    clear hv
    go_wp2_with fail
    refine (LS.out w6 Z6.out).mono ?_
    rintro e w7 ⟨rfl, bb⟩
    have Z7 := Lib.hid bb
    have v07 := KC.out w7 0 _ bb C0.out
    have v17 := KC.out w7 1 _ bb C1.out
    have v27 := KC.out w7 2 _ bb C2.out
    clear bb
    go_wp2_with fail
    refine (CI0.out w7 Z7.out).mono ?_
    rintro e w8 ⟨rfl, bb⟩
    have Z8 := Lib.hid bb
    have v08 := KC.out w8 0 _ bb C0.out
    have v18 := KC.out w8 1 _ bb C1.out
    have v28 := KC.out w8 2 _ bb C2.out
    clear bb
    go_wp2_with fail
    refine (CS0.out w8 Z8.out).mono ?_
    rintro e w9 ⟨rfl, bb⟩
    have Z9 := Lib.hid bb
    have v09 := KC.out w9 0 _ bb C0.out
    have v19 := KC.out w9 1 _ bb C1.out
    have v29 := KC.out w9 2 _ bb C2.out
    clear bb
    go_wp2_with fail
    refine (BS.out w9 Z9.out).mono ?_
    rintro e w10 ⟨rfl, bb⟩
    have Z10 := Lib.hid bb
    have v010 := KC.out w10 0 _ bb C0.out
    have v110 := KC.out w10 1 _ bb C1.out
    have v210 := KC.out w10 2 _ bb C2.out
    clear bb
    go_wp2
    go_ret
    exact ⟨rfl, FIN.out _ Z10.out⟩
  | true =>
    have LVL := Lib.hid (led.lv_iff.1 hv)
    have E1 := Lib.hid (led.clS_t (a := 1) (c := cu) hv)
    have E2 := Lib.hid (led.clS_t (a := 2) (c := cu) hv)
    have E3 := Lib.hid (led.clS_t (a := 3) (c := cu) hv)
    have ET := Lib.hid (led.trl_t hv)
    rw [hv] at LS
    clear hv
    go_wp2_with fail
    refine (LS.out w6 Z6.out).mono ?_
    rintro e w7 ⟨rfl, bb⟩
    have Z7 := Lib.hid bb
    have v07 := KC.out w7 0 _ bb C0.out
    have v17 := KC.out w7 1 _ bb C1.out
    have v27 := KC.out w7 2 _ bb C2.out
    clear bb
    have CT := Lib.hid (base.trI w7 (some ⟨gl, 0, none⟩) cl gl l (KL.out w7 Z7.out) (by omega))
    rw [ET.out] at CT
    unfold base.Made at CT
    rw [led.six_len] at CT
    go_wp2_with fail
    refine CT.out.mono ?_
    rintro e w8 ⟨at', ct, gt, rfl, rt, GT, bb⟩
    have Z8 := Lib.hid (Z7.out.trans (bb.mono Z7.out.size))
    obtain ⟨c, hc⟩ : ∃ c : Nat, cu = (c : Int) := Int.eq_ofNat_of_zero_le u1
    have c6 : c < 6 := by omega
    have KT := Lib.hid (show ∀ w', Below w8.heap.size w8 w' → w'.cell? ⟨gt, c, none⟩ = some (.int .i64 (led.csk l c l.length)) from fun w' hb => (hb.cell (p := ⟨gt, c, none⟩) (GT (by omega)).2).trans (by rw [rt.cells c (by rw [led.six_len]; exact c6), led.six_get l c6]))
    obtain rfl := rt.addr (by rw [led.six_len]; omega)
    have rmt := rt.room
    have s1 := led.csm_small LVL.out 1 cu (Nat.le_refl _)
    have s2 := led.csm_small LVL.out 2 cu (Nat.le_refl _)
    have s3 := led.csm_small LVL.out 3 cu (Nat.le_refl _)
    have SUM := Lib.hid (led.csm_sum LVL.out c l.length (Nat.le_refl _))
    rw [← hc] at SUM
    have CX := Lib.hid (show ∀ (k : Int) w', Below w8.heap.size w8 w' → Calls Try.prog 22 #[.slice (some ⟨gl, 0, none⟩) l.length cl, .int .i64 k, .int .i64 cu] w' (fun e w'' => e = .returned (.int .i64 (led.clS l k cu)) ∧ Below w8.heap.size w8 w'') from fun k w' hb => (base.clsI w' _ cl gl l k cu (KL.out w' (Z8.out.trans (hb.mono Z8.out.size))) (by omega)).mono fun _ _ ⟨he, b⟩ => ⟨he, hb.trans (b.mono hb.size)⟩)
    have X1 := Lib.hid (CX.out 1)
    have X2 := Lib.hid (CX.out 2)
    have X3 := Lib.hid (CX.out 3)
    rw [E1.out] at X1
    rw [E2.out] at X2
    rw [E3.out] at X3
    generalize led.csm l 1 cu l.length = q1 at X1 s1 SUM
    generalize led.csm l 2 cu l.length = q2 at X2 s2 SUM
    generalize led.csm l 3 cu l.length = q3 at X3 s3 SUM
    obtain ⟨q, hq⟩ : ∃ q, q = led.csk l c l.length := ⟨_, rfl⟩
    rw [← hq] at KT SUM
    have Y0 := Lib.hid (Below.refl w8.heap.size w8)
    have ts : (q == q1 + q2 + q3) = true := by rw [← SUM.out]; simp
    have a1 := s1.1
    have a2 := s1.2
    have a3 := s2.1
    have a4 := s2.2
    have a5 := s3.1
    have a6 := s3.2
    rw [led.six_len] at rmt
    clear rt GT bb E1 E2 E3 ET s1 s2 s3 hq CI CX
    subst hc
    have cz : (c : Int) < 6 := by omega
    go_wp2_with fail
    refine (X1.out w8 Y0.out).mono ?_
    rintro e w9 ⟨rfl, bb⟩
    have Y9 := Lib.hid bb
    have Z9 := Lib.hid (Z8.out.trans (bb.mono Z8.out.size))
    have v09 := KC.out w9 0 _ Z9.out C0.out
    have v19 := KC.out w9 1 _ Z9.out C1.out
    have v29 := KC.out w9 2 _ Z9.out C2.out
    clear bb
    go_wp2_with fail
    refine (X2.out w9 Y9.out).mono ?_
    rintro e w10 ⟨rfl, bb⟩
    have Y10 := Lib.hid bb
    have Z10 := Lib.hid (Z8.out.trans (bb.mono Z8.out.size))
    have v010 := KC.out w10 0 _ Z10.out C0.out
    have v110 := KC.out w10 1 _ Z10.out C1.out
    have v210 := KC.out w10 2 _ Z10.out C2.out
    clear bb
    go_wp2_with fail
    refine (X3.out w10 Y10.out).mono ?_
    rintro e w11 ⟨rfl, bb⟩
    have Y11 := Lib.hid bb
    have Z11 := Lib.hid (Z8.out.trans (bb.mono Z8.out.size))
    have v011 := KC.out w11 0 _ Z11.out C0.out
    have v111 := KC.out w11 1 _ Z11.out C1.out
    have v211 := KC.out w11 2 _ Z11.out C2.out
    clear bb
    have kt := KT.out w11 Y11.out
    by_cases h0 : n = 0
    · have t0 : (n == 0) = true := by simp [h0]
      clear h0
      go_wp2
      go_ret
      exact ⟨rfl, FIN.out _ Z11.out⟩
    · have t0 : (n == 0) = false := by simp [h0]
      have OKT := NZ.out h0
      rw [OKT] at AC
      clear h0 OKT
      go_wp2_with fail
      refine (AC.out w11 Z11.out).mono ?_
      rintro e w12 ⟨rfl, bb⟩
      have Z12 := Lib.hid bb
      clear bb
      go_wp2
      go_ret
      exact ⟨rfl, FIN.out _ Z12.out⟩

theorem own : ownKnob Try.prog.godebug = none := by kernel_rfl
theorem laidOut : laidOutB Try.prog = true := by kernel_rfl
theorem isLaw : lift.IsLaw Rows.fnClassesSpec 1 0 := fun _ ds gs h1 h2 => match ds, h1 with | [_], _ => match gs, h2 with | [], _ => rfl

set_option maxRecDepth 100000 in
theorem lifted (os : Os) (started : os.Started) (H : Type) (enc : TypeId × Value → H) :
    ReturnsInHanded {} Try.checked os 12 .any (Rows.fnClassesSpec.pre6 enc Try.prog Try.f12 Rows.fnClassesRow.domain false) (Rows.fnClassesSpec.post enc Try.prog Try.f12 false true false false) := by
  refine returnsInHanded_of_change (C := Try.checked) own started (by kernel_rfl) Try.func12
    (ChangeSpec.witness6 (enc := enc) (C := Try.checked) false ⟨#[], #[.slice none 0 0], []⟩ 8 (by kernel_rfl) (by kernel_rfl) (by kernel_rfl) (by kernel_rfl)) ?_
  intro W base args ds gs before hval0 hW _ _
  have hval : ∀ (j : Nat) t v, Try.f12.params[j]? = some t → args[j]? = some v → Value.okWide Try.prog W .any base t v := hval0
  have hW' := hW
  obtain ⟨p, q, hA0, hV, hrest⟩ := hW
  have hA : DataW.TrodAll enc Try.prog W 0 (fun _ => true) true Try.f12.params.toList args.toList ds p := hA0
  clear hA0 hval0 hV hrest
  rw [Try.params12] at hA hval
  obtain ⟨v0, d0, rfl, rfl, h0⟩ := trodAll_one hA
  obtain ⟨a, len, cap, rfl, hlen, hB⟩ := draw.open_code Try.underlying47 Try.underlying5 (by kernel_rfl) (hval 0 47 v0 rfl rfl) h0
  have wk : Calls Try.prog 12 #[.slice a len cap] W fun e w' => e = .returned (.bool true) ∧ Below W.heap.size W w' := by
    by_cases hb : len ≤ 1048576
    · exact walk_small a cap len W hB hb
    · exact walk_big a len cap W hlen (by omega)
  refine (wk).mono fun e W' ⟨he, hb⟩ => ?_
  subst he
  exact ⟨_, rfl, lift.law_post laidOut (by kernel_rfl) (by kernel_rfl) (by kernel_rfl) Try.underlying4 (by rw [Try.params12]; exact isLaw) hW' hb⟩

theorem over : Rows.fnClassesRow.holds Try.pinned (OpenSpec.ofChange Rows.fnClassesSpec) :=
  OpenClaim.holds_of_wide 12 Try.f12 rfl rfl rfl rfl rfl rfl rfl ⟨rfl, rfl, rfl, rfl, rfl⟩ rfl rfl rfl rfl rfl (by kernel_rfl) Try.func12 (by kernel_rfl)
    (of_decide_eq_true (by kernel_rfl)) (by unfold Func.isWrapper; first | (rw [if_pos (by decide +kernel)]; kernel_rfl) | (rw [if_neg (by decide +kernel)]; exact ⟨rfl, rfl⟩))
    (fun os started H enc _ => lifted os started H enc)

theorem proved : Rows.FnClassesSaid := over
#print axioms proved
end Go.Proofs.Ytnkdjnfbllkgiaa.fnClasses
