/-
  Proved: for every code, without a rate of a pair nothing is converted; the law laws.FnRateNone returns true and its arguments read as before. Conditions: none beyond the given row.
-/
import Derived.Test.YtnkdjnfbllkgiabRnLaw
import Derived.Test.YtnkdjnfbllkgiabDrawCv
namespace Go.Proofs.Ytnkdjnfbllkgiab.fnRateNone
open Go.ChangeShapes Go.WideShapes Go.ChangeAt Go.RowKit


theorem walk_big (a : Option Addr) (len cap : Nat) (w : World) (hl : len ≤ maxLen) (hb : 1048576 < len) : Calls Try.prog 10 #[.slice a len cap] w fun e w' => e = .returned (.bool true) ∧ Below w.heap.size w w' := by
  go_enter Try.func10, Try.ntmps10
  go_wp2_with fail
  refine (draw.bigT a len cap w hb hl).mono ?_
  rintro e w' ⟨rfl, rfl⟩
  go_wp2
  go_ret
  exact ⟨rfl, Below.refl _ _⟩
theorem news5 (w : World) (x : led.F5) : ∀ j u, [Value.int .i64 x.1, .int .i64 x.2.1, .int .i64 x.2.2.1, .int .i64 x.2.2.2.1, .int .i64 x.2.2.2.2][j]? = some u → (w.alloc (.cells #[.int .i64 x.1, .int .i64 x.2.1, .int .i64 x.2.2.1, .int .i64 x.2.2.2.1, .int .i64 x.2.2.2.2] 25)).cell? ((⟨w.heap.size, 0, none⟩ : Addr).add j) = some u := by
  intro j u hj
  match j, hj with
  | 0, hj => simp at hj; subst hj; simp [Addr.add]
  | 1, hj => simp at hj; subst hj; simp [Addr.add]
  | 2, hj => simp at hj; subst hj; simp [Addr.add]
  | 3, hj => simp at hj; subst hj; simp [Addr.add]
  | 4, hj => simp at hj; subst hj; simp [Addr.add]
theorem one5 (x : led.F5) : ∀ u ∈ [Value.int .i64 x.1, .int .i64 x.2.1, .int .i64 x.2.2.1, .int .i64 x.2.2.2.1, .int .i64 x.2.2.2.2], u.oneCell' = true := by
  intro u hu; simp at hu; rcases hu with rfl | rfl | rfl | rfl | rfl <;> rfl
theorem own_ge {w : World} {B e s n : Nat} {v : Value} {xs : List Value} (h : w.ownsRow B e s v n xs) : ∀ k, v.ownBlock = some k → B ≤ k := fun k hk => by
  rcases h.2 with ⟨rfl, _⟩ | ⟨g, cap, cur, rfl, hg, _⟩
  · cases hk
  · cases hk; exact hg
set_option maxRecDepth 100000 in
set_option maxHeartbeats 8000000 in
theorem walk_small (a : Option Addr) (cap len : Nat) (w : World) (hB : draw.Bytes w a len) (hn : len ≤ 1048576) : Calls Try.prog 10 #[.slice a len cap] w fun e w' => e = .returned (.bool true) ∧ Below w.heap.size w w' := by
  have HB := Lib.hid hB
  clear hB
  go_enter Try.func10, Try.ntmps10
  go_wp2_with fail
  refine (draw.bigF a len cap w hn).mono ?_
  rintro e w' ⟨rfl, rfl⟩
  go_wp2_with fail
  refine (draw.drawCv a len cap w HB.out hn).mono ?_
  rintro e w1 ⟨al, cl, g, l, n, f, t, d, rfl, rl, G, hl, b1⟩
  have KEEP := Lib.hid (show ∀ w', Below w1.heap.size w1 w' → five.Row w' al cl g l from fun w' hb => rl.keep fun h => hb.block g (G h).2)
  have RI := Lib.hid (show ∀ w', Below w1.heap.size w1 w' → _ from fun w' hb => base.rsI w' al cl g l (KEEP.out w' hb) (by omega))
  have RS := Lib.hid (show ∀ w', Below w1.heap.size w1 w' → _ from fun w' hb => base.rsS w' al cl g l (KEEP.out w' hb) (by omega))
  have CI := Lib.hid (show ∀ w', Below w1.heap.size w1 w' → _ from fun w' hb => base.cvI w' al cl g l n f t d (KEEP.out w' hb) (by omega))
  have CS := Lib.hid (show ∀ w', Below w1.heap.size w1 w' → _ from fun w' hb => base.cvS w' al cl g l n f t d (KEEP.out w' hb) (by omega))
  have A1 := Lib.hid (Below.refl w1.heap.size w1)
  have FIN := Lib.hid (show ∀ w', Below w1.heap.size w1 w' → Below w.heap.size w w' from fun w' hb => b1.trans (hb.mono b1.size))
  have ADDR := Lib.hid rl.addr
  have room := rl.room
  have GG := Lib.hid G
  clear rl G b1
  cases hv : led.lv l with
  | false =>
    rw [hv] at RI RS
    clear CI CS hv
    go_wp2_with fail
    refine (RS.out w1 A1.out).mono ?_
    rintro e w2 ⟨rfl, b⟩
    have A2 := Lib.hid (A1.out.trans (b.mono A1.out.size))
    clear b
    go_wp2_with fail
    refine (RI.out w2 A2.out).mono ?_
    rintro e w3 ⟨rfl, b⟩
    have A3 := Lib.hid (A2.out.trans (b.mono A2.out.size))
    clear b
    go_wp2_with fail
    refine (RS.out w3 A3.out).mono ?_
    rintro e w4 ⟨rfl, b⟩
    have A4 := Lib.hid (A3.out.trans (b.mono A3.out.size))
    clear b
    go_wp2
    go_ret
    exact ⟨rfl, FIN.out _ A4.out⟩
  | true =>
    have HV := Lib.hid (led.lv_iff.1 hv)
    rw [hv] at RI RS
    clear hv
    by_cases hft : f = t
    · have t1 : (f == t) = true := by simp [hft]
      clear CI CS hft
      go_wp2_with fail
      refine (RS.out w1 A1.out).mono ?_
      rintro e w2 ⟨rfl, b⟩
      have A2 := Lib.hid (A1.out.trans (b.mono A1.out.size))
      clear b
      go_wp2_with fail
      refine (RI.out w2 A2.out).mono ?_
      rintro e w3 ⟨rfl, b⟩
      have A3 := Lib.hid (A2.out.trans (b.mono A2.out.size))
      clear b
      go_wp2_with fail
      refine (RS.out w3 A3.out).mono ?_
      rintro e w4 ⟨rfl, b⟩
      have A4 := Lib.hid (A3.out.trans (b.mono A3.out.size))
      clear b
      go_wp2
      go_ret
      exact ⟨rfl, FIN.out _ A4.out⟩
    · have t1 : (f == t) = false := by simp [hft]
      have HFT := Lib.hid hft
      clear hft
      obtain ⟨i5, hi2, hz20, hz21, hz22⟩ := info_parts five.infoE
      have INF := Lib.hid (And.intro hi2 (And.intro hz20 (And.intro hz21 hz22)))
      clear hi2 hz20 hz21 hz22
      go_wp2_with fail
      refine (RS.out w1 A1.out).mono ?_
      rintro e w2 ⟨rfl, b⟩
      have A2 := Lib.hid (A1.out.trans (b.mono A1.out.size))
      clear b
      have OW0 := Lib.hid (show (w2.alloc (.cells #[] 25)).ownsRow w2.heap.size 25 5 (.slice (some ⟨w2.heap.size, 0, none⟩) 0 0) (base.les l f t 0).length (draw.fl (base.les l f t 0)) from
        ⟨rfl, .inr ⟨w2.heap.size, 0, #[], rfl, Nat.le_refl _, heap_alloc_new w2 _, Nat.le_refl _, Nat.zero_le _, rfl, rfl⟩⟩)
      have OB0 := Lib.hid (five.Grew.alloc w2 (.cells #[] 25)).below
      go_wp2
      go_loopw [8, 9] (fun vl vi wr => Below w2.heap.size w2 wr ∧ ∃ k : Nat, k ≤ l.length ∧ vi = .int .i64 k ∧ wr.ownsRow w2.heap.size 25 5 vl (base.les l f t k).length (draw.fl (base.les l f t k))) (fun _ vi _ => l.length - (intOf vi).toNat)
      case atStart => exact ⟨OB0.out, 0, by omega, rfl, OW0.out⟩
      case round =>
        obtain ⟨hob, k, hk, rfl, how⟩ := hrel
        have OB := Lib.hid hob
        have OW := Lib.hid how
        have lsl := base.les_len l f t k
        clear hob how
        by_cases hlt : k < l.length
        · have gl := (GG.out (by omega)).2
          obtain rfl := ADDR.out (by omega)
          have q1 := ((KEEP.out wr (A2.out.trans (OB.out.mono A2.out.size))).cells k hlt)
          obtain ⟨x, hx⟩ : ∃ x, x = l.getD k led.z5 := ⟨_, rfl⟩
          rw [← hx] at q1
          obtain ⟨x1, x2, x3, x4, x5⟩ := q1
          have LS0 := Lib.hid (base.les_succ l f t hlt)
          rw [← hx] at LS0
          have z1 : (k : Int) < (l.length : Int) := by omega
          have u1 : decide (k < l.length) = true := by simp; omega
          clear hx gl
          cases m1 : (x.2.1 != f) with
          | true =>
            have LS := Lib.hid (show base.les l f t (k + 1) = base.les l f t k ++ [(x.1, x.2.1, x.2.2.1, x.2.2.2.1, x.2.2.2.2)] from by rw [LS0.out, if_pos (by unfold base.oth; rw [m1]; rfl)])
            obtain ⟨hi2, hz20, hz21, hz22⟩ := INF.out
            have szW := OB.out.size
            go_wp2_with (at_builtin; refine wpList_append_own_at _ rfl _ _ 31 rfl w2.heap.size 25 i5 (.agg #[.int .i64 0, .int .i64 0, .int .i64 0, .int .i64 0, .int .i64 0]) 5 40 Try.underlying31 hi2 hz20 hz21 hz22 rfl (by decide) _ _ _ rfl (OW.out.alloc _) ⟨wr.heap.size, 0, none⟩ 1 1 [.int .i64 x.1, .int .i64 x.2.1, .int .i64 x.2.2.1, .int .i64 x.2.2.2.1, .int .i64 x.2.2.2.2] rfl rfl (news5 wr x) (one5 x) (by unfold maxLen; omega) (by omega) (by simp; omega) ?_)
            intro v3 w3 hown3 hgrow3 _ _
            have OB3 := Lib.hid (show Below w2.heap.size w2 w3 from ((OB.out.alloc OB.out.size (.cells #[.int .i64 x.1, .int .i64 x.2.1, .int .i64 x.2.2.1, .int .i64 x.2.2.2.1, .int .i64 x.2.2.2.2] 25)).grown hgrow3 (by simp; omega) (own_ge OW.out)))
            have OW3 := Lib.hid (show w3.ownsRow w2.heap.size 25 5 v3 (base.les l f t (k + 1)).length (draw.fl (base.les l f t (k + 1))) from by rw [LS.out, List.length_append, draw.fl_app]; exact hown3)
            clear hown3 hgrow3 hi2 hz20 hz21 hz22 szW x1 x2 x3 x4 x5
            go_wp2
            go_roundw
            case rel => exact ⟨OB3.out, k + 1, by omega, by go_num, OW3.out⟩
            case measure => simp [intOf]; omega
          | false =>
            cases m2 : (x.2.2.1 != t) with
            | true =>
              have LS := Lib.hid (show base.les l f t (k + 1) = base.les l f t k ++ [(x.1, x.2.1, x.2.2.1, x.2.2.2.1, x.2.2.2.2)] from by rw [LS0.out, if_pos (by unfold base.oth; rw [m1, m2]; rfl)])
              obtain ⟨hi2, hz20, hz21, hz22⟩ := INF.out
              have szW := OB.out.size
              go_wp2_with (at_builtin; refine wpList_append_own_at _ rfl _ _ 31 rfl w2.heap.size 25 i5 (.agg #[.int .i64 0, .int .i64 0, .int .i64 0, .int .i64 0, .int .i64 0]) 5 40 Try.underlying31 hi2 hz20 hz21 hz22 rfl (by decide) _ _ _ rfl (OW.out.alloc _) ⟨wr.heap.size, 0, none⟩ 1 1 [.int .i64 x.1, .int .i64 x.2.1, .int .i64 x.2.2.1, .int .i64 x.2.2.2.1, .int .i64 x.2.2.2.2] rfl rfl (news5 wr x) (one5 x) (by unfold maxLen; omega) (by omega) (by simp; omega) ?_)
              intro v3 w3 hown3 hgrow3 _ _
              have OB3 := Lib.hid (show Below w2.heap.size w2 w3 from ((OB.out.alloc OB.out.size (.cells #[.int .i64 x.1, .int .i64 x.2.1, .int .i64 x.2.2.1, .int .i64 x.2.2.2.1, .int .i64 x.2.2.2.2] 25)).grown hgrow3 (by simp; omega) (own_ge OW.out)))
              have OW3 := Lib.hid (show w3.ownsRow w2.heap.size 25 5 v3 (base.les l f t (k + 1)).length (draw.fl (base.les l f t (k + 1))) from by rw [LS.out, List.length_append, draw.fl_app]; exact hown3)
              clear hown3 hgrow3 hi2 hz20 hz21 hz22 szW x1 x2 x3 x4 x5
              go_wp2
              go_roundw
              case rel => exact ⟨OB3.out, k + 1, by omega, by go_num, OW3.out⟩
              case measure => simp [intOf]; omega
            | false =>
              have LS := Lib.hid (show base.les l f t (k + 1) = base.les l f t k from by rw [LS0.out, if_neg (by unfold base.oth; rw [m1, m2]; decide)])
              go_wp2
              go_roundw
              case rel => exact ⟨OB.out, k + 1, by omega, by go_num, by rw [LS.out]; exact OW.out⟩
              case measure => simp [intOf]; omega
        · obtain rfl : k = l.length := by omega
          have u1 : decide (l.length < l.length) = false := by simp
          obtain ⟨ar, cr, gr, hvr, rr, GR⟩ := draw.of_owns5 OW.out
          subst hvr
          have KR := Lib.hid (show ∀ w', Below wr.heap.size wr w' → five.Row w' ar cr gr (base.les l f t l.length) from fun w' hb => rr.keep fun h => hb.block gr (GR h).2)
          have LN := base.les_len l f t l.length
          have CO := Lib.hid (show ∀ w', Below wr.heap.size wr w' → _ from fun w' hb => base.onI w' ar cr gr (base.les l f t l.length) f t d (KR.out w' hb) (by omega))
          have CL := Lib.hid (show ∀ w', Below wr.heap.size wr w' → _ from fun w' hb => base.cvI w' ar cr gr (base.les l f t l.length) n f t d (KR.out w' hb) (by omega))
          have RL := Lib.hid (show ∀ w', Below wr.heap.size wr w' → _ from fun w' hb => base.rsI w' ar cr gr (base.les l f t l.length) (KR.out w' hb) (by omega))
          rw [base.les_none] at CO
          unfold base.onv at CO
          rw [base.les_cvt l n f t d HFT.out] at CL
          rw [base.les_lv HV.out] at RL
          generalize (base.cvt (base.les l f t l.length) n f t d).1 = yl at CL
          generalize (base.cvt l n f t d).1 = y at CI CS
          generalize (base.cvt l n f t d).2 = bb at CI CS
          have AR := Lib.hid (A2.out.trans (OB.out.mono A2.out.size))
          have ZR := Lib.hid (Below.refl wr.heap.size wr)
          have tb : (bb == bb) = true := by simp
          clear rr GR OW OB lsl
          go_wp2_with fail
          refine (CO.out wr ZR.out).mono ?_
          rintro e w4 ⟨rfl, b⟩
          have Z4 := Lib.hid (ZR.out.trans (b.mono ZR.out.size))
          clear b
          obtain ⟨w5, hw5⟩ : ∃ w5, w5 = w4.alloc (.cells #[.int .i64 0, .int .i64 0, .int .i64 0, .int .i64 0, .int .i64 0] 25) := ⟨_, rfl⟩
          have Z5 := Lib.hid (show Below wr.heap.size wr w5 from by rw [hw5]; exact Z4.out.alloc Z4.out.size _)
          go_wp2_with fail
          rw [← hw5]
          clear hw5
          refine (CL.out w5 Z5.out).mono ?_
          rintro e w6 ⟨rfl, b6⟩
          have Z6 := Lib.hid (Z5.out.trans (b6.mono Z5.out.size))
          have A6 := Lib.hid (AR.out.trans (Z6.out.mono AR.out.size))
          clear b6
          go_wp2_with fail
          refine (CI.out w6 A6.out).mono ?_
          rintro e w7 ⟨rfl, b⟩
          have Z7 := Lib.hid (Z6.out.trans (b.mono Z6.out.size))
          have A7 := Lib.hid (A6.out.trans (b.mono A6.out.size))
          clear b
          go_wp2_with fail
          refine (CS.out w7 A7.out).mono ?_
          rintro e w8 ⟨rfl, b⟩
          have Z8 := Lib.hid (Z7.out.trans (b.mono Z7.out.size))
          have A8 := Lib.hid (A7.out.trans (b.mono A7.out.size))
          clear b
          go_wp2_with fail
          refine (RL.out w8 Z8.out).mono ?_
          rintro e w9 ⟨rfl, b9⟩
          have A9 := Lib.hid (A8.out.trans (b9.mono A8.out.size))
          clear b9
          go_wp2
          go_ret
          exact ⟨rfl, FIN.out _ A9.out⟩

theorem own : ownKnob Try.prog.godebug = none := by kernel_rfl
theorem laidOut : laidOutB Try.prog = true := by kernel_rfl
theorem isLaw : lift.IsLaw Rows.fnRateNoneSpec 1 0 := fun _ ds gs h1 h2 => match ds, h1 with | [_], _ => match gs, h2 with | [], _ => rfl

set_option maxRecDepth 100000 in
theorem lifted (os : Os) (started : os.Started) (H : Type) (enc : TypeId × Value → H) :
    ReturnsInHanded {} Try.checked os 10 .any (Rows.fnRateNoneSpec.pre6 enc Try.prog Try.f10 Rows.fnRateNoneRow.domain false) (Rows.fnRateNoneSpec.post enc Try.prog Try.f10 false true false false) := by
  refine returnsInHanded_of_change (C := Try.checked) own started (by kernel_rfl) Try.func10
    (ChangeSpec.witness6 (enc := enc) (C := Try.checked) false ⟨#[], #[.slice none 0 0], []⟩ 8 (by kernel_rfl) (by kernel_rfl) (by kernel_rfl) (by kernel_rfl)) ?_
  intro W base args ds gs before hval0 hW _ _
  have hval : ∀ (j : Nat) t v, Try.f10.params[j]? = some t → args[j]? = some v → Value.okWide Try.prog W .any base t v := hval0
  have hW' := hW
  obtain ⟨p, q, hA0, hV, hrest⟩ := hW
  have hA : DataW.TrodAll enc Try.prog W 0 (fun _ => true) true Try.f10.params.toList args.toList ds p := hA0
  clear hA0 hval0 hV hrest
  rw [Try.params10] at hA hval
  obtain ⟨v0, d0, rfl, rfl, h0⟩ := trodAll_one hA
  obtain ⟨a, len, cap, rfl, hlen, hB⟩ := draw.open_code Try.underlying46 Try.underlying5 (by kernel_rfl) (hval 0 46 v0 rfl rfl) h0
  have wk : Calls Try.prog 10 #[.slice a len cap] W fun e w' => e = .returned (.bool true) ∧ Below W.heap.size W w' := by
    by_cases hb : len ≤ 1048576
    · exact walk_small a cap len W hB hb
    · exact walk_big a len cap W hlen (by omega)
  refine (wk).mono fun e W' ⟨he, hb⟩ => ?_
  subst he
  exact ⟨_, rfl, lift.law_post laidOut (by kernel_rfl) (by kernel_rfl) (by kernel_rfl) Try.underlying4 (by rw [Try.params10]; exact isLaw) hW' hb⟩

theorem over : Rows.fnRateNoneRow.holds Try.pinned (OpenSpec.ofChange Rows.fnRateNoneSpec) :=
  OpenClaim.holds_of_wide 10 Try.f10 rfl rfl rfl rfl rfl rfl rfl ⟨rfl, rfl, rfl, rfl, rfl⟩ rfl rfl rfl rfl rfl (by kernel_rfl) Try.func10 (by kernel_rfl)
    (of_decide_eq_true (by kernel_rfl)) (by unfold Func.isWrapper; first | (rw [if_pos (by decide +kernel)]; kernel_rfl) | (rw [if_neg (by decide +kernel)]; exact ⟨rfl, rfl⟩))
    (fun os started H enc _ => lifted os started H enc)

theorem proved : Rows.FnRateNoneSaid := over
#print axioms proved
end Go.Proofs.Ytnkdjnfbllkgiab.fnRateNone
