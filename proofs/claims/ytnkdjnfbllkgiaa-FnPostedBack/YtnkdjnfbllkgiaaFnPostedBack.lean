/-
  Proved: for every code, posting a batch and then the same with all signs turned restores the ledger; the law laws.FnPostedBack returns true and its arguments read as before. Conditions: none beyond the given row.
-/
import Derived.Test.YtnkdjnfbllkgiaaPsM
import Derived.Test.YtnkdjnfbllkgiaaDrawP
import Derived.Test.YtnkdjnfbllkgiaaPrLen
import Derived.Test.YtnkdjnfbllkgiaaSam
import Derived.Test.YtnkdjnfbllkgiaaStepO
namespace Go.Proofs.Ytnkdjnfbllkgiaa.fnPostedBack
open Go.ChangeShapes Go.WideShapes Go.ChangeAt Go.RowKit


theorem walk_big (a : Option Addr) (len cap : Nat) (w : World) (hl : len ≤ maxLen) (hb : 1048576 < len) : Calls Try.prog 10 #[.slice a len cap] w fun e w' => e = .returned (.bool true) ∧ Below w.heap.size w w' := by
  go_enter Try.func10, Try.ntmps10
  go_wp2_with fail
  refine (draw.bigT a len cap w hb hl).mono ?_
  rintro e w' ⟨rfl, rfl⟩
  go_wp2
  go_ret
  exact ⟨rfl, Below.refl _ _⟩
set_option maxRecDepth 100000 in
set_option maxHeartbeats 8000000 in
theorem walk_small (a : Option Addr) (cap len : Nat) (w : World) (hB : draw.Bytes w a len) (hn : len ≤ 1048576) : Calls Try.prog 10 #[.slice a len cap] w fun e w' => e = .returned (.bool true) ∧ Below w.heap.size w w' := by
  have HB := Lib.hid hB
  clear hB
  obtain ⟨i5, hi, hz0, hz1, hz2⟩ := info_parts five.infoE
  go_enter Try.func10, Try.ntmps10
  go_wp2_with fail
  refine (draw.bigF a len cap w hn).mono ?_
  rintro e w' ⟨rfl, rfl⟩
  go_wp2_with fail
  refine (draw.drawPs a len cap w HB.out hn).mono ?_
  rintro e w1 ⟨cl, gl, l, ab, cb, gb, bt, rfl, rl, gl1, rb, GB, hl, hlb, b1⟩
  have KL := Lib.hid (show ∀ w', Below w1.heap.size w1 w' → five.Row w' (some ⟨gl, 0, none⟩) cl gl l from fun w' hb => rl.keep fun _ => hb.block gl gl1)
  have KB := Lib.hid (show ∀ w', Below w1.heap.size w1 w' → five.Row w' ab cb gb bt from fun w' hb => rb.keep fun h => hb.block gb (GB h))
  have FIN := Lib.hid (show ∀ w', Below w1.heap.size w1 w' → Below w.heap.size w w' from fun w' hb => b1.trans (hb.mono b1.size))
  have GBh := Lib.hid GB
  have ADDR := Lib.hid rb.addr
  have rmb := rb.room
  have A1 := Lib.hid (Below.refl w1.heap.size w1)
  have PS := Lib.hid (mp.pst l bt)
  have lp : (mp.pr l bt).length ≤ 400 := mp.pr_len l bt
  have CI := fun w0 hb => mp.psI w0 (some ⟨gl, 0, none⟩) ab cl cb gl gb l bt (KL.out w0 hb) (KB.out w0 hb) (by omega) (by omega)
  have CS := fun w0 (hb : Below w1.heap.size w1 w0) => mp.psS w0 ab cl cb gl gb l bt (KL.out w0 hb) (Nat.lt_of_lt_of_le gl1 hb.size) (KB.out w0 hb) (by omega) (by omega)
  unfold mp.Psd at CI CS
  obtain ⟨P, hP⟩ : ∃ P, P = mp.pr l bt := ⟨_, rfl⟩
  obtain ⟨c, hc⟩ : ∃ c, c = mp.pc l bt := ⟨_, rfl⟩
  rw [← hP, ← hc] at CI CS
  rw [← hP] at lp PS
  rw [← hc] at PS
  have CIh := Lib.hid CI
  have CSh := Lib.hid CS
  clear rl rb GB b1 CI CS hP hc
  go_wp2_with fail
  refine (CIh.out w1 A1.out).mono ?_
  rintro e w2 ⟨am, cm, gm, rfl, rm, GM, b2⟩
  have A2 := Lib.hid (A1.out.trans (b2.mono A1.out.size))
  have KM := Lib.hid (show ∀ w', Below w2.heap.size w2 w' → five.Row w' am cm gm P from fun w' hb => rm.keep fun h => hb.block gm (GM h).2)
  clear rm GM b2
  go_wp2_with fail
  refine (CSh.out w2 A2.out).mono ?_
  rintro e w3 ⟨aw, cw, gw, rfl, rw3, GW, b3⟩
  have A3 := Lib.hid (A2.out.trans (b3.mono A2.out.size))
  have KW := Lib.hid (show ∀ w', Below w3.heap.size w3 w' → five.Row w' aw cw gw P from fun w' hb => rw3.keep fun h => hb.block gw (GW h).2)
  have KM3 := Lib.hid (show ∀ w', Below w3.heap.size w3 w' → five.Row w' am cm gm P from fun w' hb => KM.out w' (b3.trans (hb.mono b3.size)))
  clear rw3 GW b3 KM
  by_cases hc0 : c = 0
  · subst hc0
    have BVT := Lib.hid PS.out.zero.2.1
    have BK := Lib.hid (show mp.pr P (led.rn bt 0) = l ∧ mp.pc P (led.rn bt 0) = 0 from by rw [led.rn_zero]; exact mp.pst_is PS.out.back)
    have OW0 := Lib.hid (show (w3.alloc (.cells #[] 52)).ownsRow w3.heap.size 52 5 (.slice (some ⟨w3.heap.size, 0, none⟩) 0 0) (led.rn bt bt.length).length (draw.fl (led.rn bt bt.length)) from by
      rw [led.rn_all]
      exact ⟨rfl, .inr ⟨w3.heap.size, 0, #[], rfl, Nat.le_refl _, heap_alloc_new w3 _, Nat.le_refl _, Nat.zero_le _, rfl, rfl⟩⟩)
    have OB0 := Lib.hid (five.Grew.alloc w3 (.cells #[] 52)).below
    obtain ⟨n, hnz⟩ : ∃ n, n = bt.length := ⟨_, rfl⟩
    have HNZ := Lib.hid hnz
    rw [← hnz] at OW0 hlb rmb ⊢
    clear hnz
    go_wp2
    go_loopw [9, 10] (fun v vi wr => ∃ k : Nat, k ≤ n ∧ vi = .int .i64 ((k : Int) - 1) ∧ Hid (wr.ownsRow w3.heap.size 52 5 v (led.rn bt k).length (draw.fl (led.rn bt k))) ∧ Hid (v ≠ .slice none 0 0) ∧ Hid (Below w3.heap.size w3 wr)) (fun _ vi _ => (intOf vi + 1).toNat)
    case atStart => exact ⟨n, by omega, by go_num, OW0, Lib.hid (fun h => by cases h), OB0⟩
    case round =>
      obtain ⟨k, hk, rfl, OW, NN, OB⟩ := hrel
      have lst := led.rn_len bt k
      rw [← HNZ.out] at lst
      have A5 := Lib.hid (A3.out.trans (OB.out.mono A3.out.size))
      cases k with
      | succ j =>
        have ej : ((j + 1 : Nat) : Int) - 1 = (j : Int) := by omega
        rw [ej]
        clear ej
        have HLT := Lib.hid (show j < bt.length from by rw [← HNZ.out]; omega)
        obtain rfl := ADDR.out (by rw [← HNZ.out]; omega)
        have qx := (KB.out wr A5.out).cells j HLT.out
        have LS := Lib.hid (led.rn_step HLT.out)
        obtain ⟨x, hx⟩ : ∃ x, x = bt.getD j led.z5 := ⟨_, rfl⟩
        rw [← hx] at qx LS
        have HX := Lib.hid hx
        clear hx
        obtain ⟨x1, x2, x3, x4, x5⟩ := qx
        have z1 : (j : Int) < (n : Int) := by omega
        have u1 : decide ((0 : Int) ≤ (j : Int)) = true := by simp
        have szW := OB.out.size
        have bx := led.inR_iff.1 (BVT.out.2 j HLT.out).2
        rw [← HX.out] at bx
        have f1 : -1000000000000 ≤ x.2.2.2.2 := bx.1
        have f2 : x.2.2.2.2 ≤ 1000000000000 := bx.2
        clear bx
        have hwr : IntKind.i64.wrap (-x.2.2.2.2) = -x.2.2.2.2 := IntWalk.i64_in _ (by omega)
        have OWd := Lib.hid (show ∀ o, (World.drew (wr.alloc o)).ownsRow w3.heap.size 52 5 _ (led.rn bt (j + 1)).length (draw.fl (led.rn bt (j + 1))) from fun o => OW.out.alloc o)
        have NWd := Lib.hid (show ∀ q u, [.int .i64 x.1, .int .i64 x.2.1, .int .i64 x.2.2.1, .int .i64 x.2.2.2.1, .int .i64 (-x.2.2.2.2)][q]? = some u → (World.drew (wr.alloc (.cells #[.int .i64 x.1, .int .i64 x.2.1, .int .i64 x.2.2.1, .int .i64 x.2.2.2.1, .int .i64 (-x.2.2.2.2)] 52))).cell? ((⟨wr.heap.size, 0, none⟩ : Addr).add q) = some u from draw.news5 wr (led.ng x))
        have ONd := Lib.hid (show ∀ u ∈ [Value.int .i64 x.1, .int .i64 x.2.1, .int .i64 x.2.2.1, .int .i64 x.2.2.2.1, .int .i64 (-x.2.2.2.2)], u.oneCell' = true from draw.one5 (led.ng x))
        have SZd := Lib.hid (show ∀ o, w3.heap.size ≤ (World.drew (wr.alloc o)).heap.size from fun o => by show w3.heap.size ≤ (wr.alloc o).heap.size; rw [World.size_alloc]; omega)
        have OBd := Lib.hid (show ∀ o, Below w3.heap.size w3 (World.drew (wr.alloc o)) from fun o => (OB.out.alloc OB.out.size o).drew)
        go_wp2_with fail
        go_region_law (refine base.step_own rfl (.tmp 50) (.tmp 68) 31 rfl w3.heap.size 52 i5 (.agg #[.int .i64 0, .int .i64 0, .int .i64 0, .int .i64 0, .int .i64 0]) 5 40 Try.underlying31 hi hz0 hz1 hz2 rfl (by decide) _ _ _ rfl (OWd.out _) ⟨wr.heap.size, 0, none⟩ 1 1 [.int .i64 x.1, .int .i64 x.2.1, .int .i64 x.2.2.1, .int .i64 x.2.2.2.1, .int .i64 (-x.2.2.2.2)] rfl rfl NWd.out ONd.out (by unfold maxLen; omega) (by omega) (SZd.out _) ?_; intro v6 w6 hown3 hgrow3 hnil)
        all_goals
          have OW6 := Lib.hid (show w6.ownsRow w3.heap.size 52 5 v6 (led.rn bt j).length (draw.fl (led.rn bt j)) from by rw [LS.out, List.length_append, draw.fl_app]; exact hown3)
          have OB6 := Lib.hid (show Below w3.heap.size w3 w6 from (OBd.out _).grown hgrow3 (SZd.out _) (draw.own_ge OW.out))
          have NN6 := Lib.hid (show v6 ≠ .slice none 0 0 from fun h => by have := (hnil.1 h).2; omega)
          clear hown3 hgrow3 hnil szW x1 x2 x3 x4 x5
          go_wp2
          go_roundw
          case rel => exact ⟨j, by omega, by go_num, OW6, NN6, OB6⟩
          case measure => simp [intOf]
      | zero =>
        obtain ⟨cr, gr, hvr, rr, gr1, gr2⟩ := draw.of_owns5n OW.out NN.out
        subst hvr
        have KR := Lib.hid (show ∀ w', Below wr.heap.size wr w' → five.Row w' (some ⟨gr, 0, none⟩) cr gr (led.rn bt 0) from fun w' hb => rr.keep fun _ => hb.block gr gr2)
        have CQ := mp.psI wr am (some ⟨gr, 0, none⟩) cm cr gm gr P (led.rn bt 0) (KM3.out wr OB.out) (KR.out wr (Below.refl _ _)) (by omega) (by omega)
        unfold mp.Psd at CQ
        rw [BK.out.1, BK.out.2] at CQ
        have CQh := Lib.hid CQ
        clear CQ rr gr1 OW NN
        go_wp2_with fail
        refine CQh.out.mono ?_
        rintro e w7 ⟨an, cn, gn, rfl, rn, GN, b7⟩
        have B7 := Lib.hid (OB.out.trans (b7.mono OB.out.size))
        have A7 := Lib.hid (A3.out.trans (B7.out.mono A3.out.size))
        have N7 := Lib.hid rn
        clear rn GN b7
        go_wp2_with fail
        refine (five.samT w7 an (some ⟨gl, 0, none⟩) cn cl gn gl l N7.out (KL.out w7 A7.out) (by omega)).mono ?_
        rintro e w8 ⟨rfl, b8⟩
        have B8 := Lib.hid (A7.out.trans (b8.mono A7.out.size))
        clear b8
        go_wp2
        go_ret
        exact ⟨rfl, FIN.out _ B8.out⟩
  · have t1 : (c != c) = false := by simp
    have t2 : (c != 0) = true := by simp [hc0]
    have t3 : (c == c) = true := by simp
    clear hc0
    go_wp2
    go_ret
    exact ⟨rfl, FIN.out _ A3.out⟩

theorem own : ownKnob Try.prog.godebug = none := by kernel_rfl
theorem laidOut : laidOutB Try.prog = true := by kernel_rfl
theorem isLaw : lift.IsLaw Rows.fnPostedBackSpec 1 0 := fun _ ds gs h1 h2 => match ds, h1 with | [_], _ => match gs, h2 with | [], _ => rfl

set_option maxRecDepth 100000 in
theorem lifted (os : Os) (started : os.Started) (H : Type) (enc : TypeId × Value → H) :
    ReturnsInHanded {} Try.checked os 10 .any (Rows.fnPostedBackSpec.pre6 enc Try.prog Try.f10 Rows.fnPostedBackRow.domain false) (Rows.fnPostedBackSpec.post enc Try.prog Try.f10 false true false false) := by
  refine returnsInHanded_of_change (C := Try.checked) own started (by kernel_rfl) Try.func10
    (ChangeSpec.witness6 (enc := enc) (C := Try.checked) false ⟨#[], #[.slice none 0 0], []⟩ 8 (by kernel_rfl) (by kernel_rfl) (by kernel_rfl) (by kernel_rfl)) ?_
  intro W base args ds gs before hval0 hW _ _
  have hval : ∀ (j : Nat) t v, Try.f10.params[j]? = some t → args[j]? = some v → Value.okWide Try.prog W .any base t v := hval0
  have hW' := hW
  obtain ⟨p, q, hA0, hV, hrest⟩ := hW
  have hA : DataW.TrodAll enc Try.prog W 0 (fun _ => true) true Try.f10.params.toList args.toList ds p := hA0
  clear hA0 hval0 hV hrest
  rw [Try.params10] at hA hval
  obtain ⟨v0, d0, rfl, rfl, h0⟩ := trodAll_one hA
  obtain ⟨a, len, cap, rfl, hlen, hB⟩ := draw.open_code Try.underlying47 Try.underlying5 (by kernel_rfl) (hval 0 47 v0 rfl rfl) h0
  have wk : Calls Try.prog 10 #[.slice a len cap] W fun e w' => e = .returned (.bool true) ∧ Below W.heap.size W w' := by
    by_cases hb : len ≤ 1048576
    · exact walk_small a cap len W hB hb
    · exact walk_big a len cap W hlen (by omega)
  refine (wk).mono fun e W' ⟨he, hb⟩ => ?_
  subst he
  exact ⟨_, rfl, lift.law_post laidOut (by kernel_rfl) (by kernel_rfl) (by kernel_rfl) Try.underlying4 (by rw [Try.params10]; exact isLaw) hW' hb⟩

theorem over : Rows.fnPostedBackRow.holds Try.pinned (OpenSpec.ofChange Rows.fnPostedBackSpec) :=
  OpenClaim.holds_of_wide 10 Try.f10 rfl rfl rfl rfl rfl rfl rfl ⟨rfl, rfl, rfl, rfl, rfl⟩ rfl rfl rfl rfl rfl (by kernel_rfl) Try.func10 (by kernel_rfl)
    (of_decide_eq_true (by kernel_rfl)) (by unfold Func.isWrapper; first | (rw [if_pos (by decide +kernel)]; kernel_rfl) | (rw [if_neg (by decide +kernel)]; exact ⟨rfl, rfl⟩))
    (fun os started H enc _ => lifted os started H enc)

theorem proved : Rows.FnPostedBackSaid := over
#print axioms proved
end Go.Proofs.Ytnkdjnfbllkgiaa.fnPostedBack
