/-
  Proved: for every code, after posting a batch all balances are the previous ones plus what is posted and the sums of all currencies are unchanged; the law laws.FnPosted returns true and its arguments read as before. Conditions: none beyond the given row.
-/
import Derived.Deep.RegionWith
import Derived.WalkSmall
import Derived.Test.YtnkdjnfbllkgiaaFpM
import Derived.Test.YtnkdjnfbllkgiaaDrawP
import Derived.Test.YtnkdjnfbllkgiaaPrLen
import Derived.Test.YtnkdjnfbllkgiaaSam
import Derived.Test.YtnkdjnfbllkgiaaSamI
import Derived.Test.YtnkdjnfbllkgiaaBalI
namespace Go.Proofs.Ytnkdjnfbllkgiaa.fnPosted
open Go.ChangeShapes Go.WideShapes Go.ChangeAt Go.RowKit


theorem walk_big (a : Option Addr) (len cap : Nat) (w : World) (hl : len ≤ maxLen) (hb : 1048576 < len) : Calls Try.prog 9 #[.slice a len cap] w fun e w' => e = .returned (.bool true) ∧ Below w.heap.size w w' := by
  go_enter Try.func9, Try.ntmps9
  go_wp2_with fail
  refine (draw.bigT a len cap w hb hl).mono ?_
  rintro e w' ⟨rfl, rfl⟩
  go_wp2
  go_ret
  exact ⟨rfl, Below.refl _ _⟩
set_option maxRecDepth 100000 in
set_option maxHeartbeats 8000000 in
theorem walk_small (a : Option Addr) (cap len : Nat) (w : World) (hB : draw.Bytes w a len) (hn : len ≤ 1048576) : Calls Try.prog 9 #[.slice a len cap] w fun e w' => e = .returned (.bool true) ∧ Below w.heap.size w w' := by
  have HB := Lib.hid hB
  clear hB
  obtain ⟨i5, hi, hz0, hz1, hz2⟩ := info_parts five.infoE
  go_enter Try.func9, Try.ntmps9
  go_wp2_with fail
  refine (draw.bigF a len cap w hn).mono ?_
  rintro e w' ⟨rfl, rfl⟩
  go_wp2_with fail
  refine (draw.drawPs a len cap w HB.out hn).mono ?_
  rintro e w1 ⟨cl, gl, l, ab, cb, gb, bt, rfl, rl, gl1, rb, GB, hl, hlb, b1⟩
  have KL := Lib.hid (show ∀ w', Below w1.heap.size w1 w' → five.Row w' (some ⟨gl, 0, none⟩) cl gl l from fun w' hb => rl.keep fun _ => hb.block gl gl1)
  have KB := Lib.hid (show ∀ w', Below w1.heap.size w1 w' → five.Row w' ab cb gb bt from fun w' hb => rb.keep fun h => hb.block gb (GB h))
  have FIN := Lib.hid (show ∀ w', Below w1.heap.size w1 w' → Below w.heap.size w w' from fun w' hb => b1.trans (hb.mono b1.size))
  have GBh := Lib.hid GB
  have ADDR := Lib.hid rb.addr
  have rmb := rb.room
  have A1 := Lib.hid (Below.refl w1.heap.size w1)
  have PS := Lib.hid (mp.pst l bt)
  have lp : (mp.pr l bt).length ≤ 400 := mp.pr_len l bt
  have CI := fun w0 hb => mp.psI w0 (some ⟨gl, 0, none⟩) ab cl cb gl gb l bt (KL.out w0 hb) (KB.out w0 hb) (by omega) (by omega)
  have CS := fun w0 (hb : Below w1.heap.size w1 w0) => mp.psS w0 ab cl cb gl gb l bt (KL.out w0 hb) (Nat.lt_of_lt_of_le gl1 hb.size) (KB.out w0 hb) (by omega) (by omega)
  unfold mp.Psd at CI CS
  obtain ⟨P, hP⟩ : ∃ P, P = mp.pr l bt := ⟨_, rfl⟩
  obtain ⟨c, hc⟩ : ∃ c, c = mp.pc l bt := ⟨_, rfl⟩
  rw [← hP, ← hc] at CI CS
  rw [← hP] at lp PS
  rw [← hc] at PS
  have CIh := Lib.hid CI
  have CSh := Lib.hid CS
  clear rl rb GB b1 CI CS hP hc
  go_wp2_with fail
  refine (CIh.out w1 A1.out).mono ?_
  rintro e w2 ⟨am, cm, gm, rfl, rm, GM, b2⟩
  have A2 := Lib.hid (A1.out.trans (b2.mono A1.out.size))
  have KM := Lib.hid (show ∀ w', Below w2.heap.size w2 w' → five.Row w' am cm gm P from fun w' hb => rm.keep fun h => hb.block gm (GM h).2)
  clear rm GM b2
  go_wp2_with fail
  refine (CSh.out w2 A2.out).mono ?_
  rintro e w3 ⟨aw, cw, gw, rfl, rw3, GW, b3⟩
  have A3 := Lib.hid (A2.out.trans (b3.mono A2.out.size))
  have KW := Lib.hid (show ∀ w', Below w3.heap.size w3 w' → five.Row w' aw cw gw P from fun w' hb => rw3.keep fun h => hb.block gw (GW h).2)
  have KM3 := Lib.hid (show ∀ w', Below w3.heap.size w3 w' → five.Row w' am cm gm P from fun w' hb => KM.out w' (b3.trans (hb.mono b3.size)))
  clear rw3 GW b3 KM
  have t1 : (c != c) = false := by simp
  have t3 : (c == c) = true := by simp
  have SAM := Lib.hid (show ∀ w', Below w3.heap.size w3 w' → Calls Try.prog 36 #[.slice am P.length cm, .slice aw P.length cw] w' (fun e w'' => e = .returned (.bool true) ∧ Below w3.heap.size w3 w'') from fun w' hb => (five.samT w' am aw cm cw gm gw P (KM3.out w' hb) (KW.out w' hb) (by omega)).mono fun _ _ ⟨he, b⟩ => ⟨he, hb.trans (b.mono hb.size)⟩)
  have FIN3 := Lib.hid (show ∀ w', Below w3.heap.size w3 w' → Below w.heap.size w w' from fun w' hb => FIN.out w' (A3.out.trans (hb.mono A3.out.size)))
  have KL3 := Lib.hid (show ∀ w', Below w3.heap.size w3 w' → five.Row w' (some ⟨gl, 0, none⟩) cl gl l from fun w' hb => KL.out w' (A3.out.trans (hb.mono A3.out.size)))
  have KB3 := Lib.hid (show ∀ w', Below w3.heap.size w3 w' → five.Row w' ab cb gb bt from fun w' hb => KB.out w' (A3.out.trans (hb.mono A3.out.size)))
  have Z3 := Lib.hid (Below.refl w3.heap.size w3)
  have LGI := Lib.hid (show ∀ w', Below w3.heap.size w3 w' → Calls Try.prog 19 #[.slice (some ⟨gl, 0, none⟩) l.length cl] w' (fun e w'' => e = .returned (.bool (led.lv l)) ∧ Below w3.heap.size w3 w'') from fun w' hb => (base.lgI w' _ cl gl l (KL3.out w' hb) (by omega)).mono fun _ _ ⟨he, b⟩ => ⟨he, hb.trans (b.mono hb.size)⟩)
  have LGS := Lib.hid (show ∀ w', Below w3.heap.size w3 w' → Calls Try.prog 17 #[.slice (some ⟨gl, 0, none⟩) l.length cl] w' (fun e w'' => e = .returned (.bool (led.lv l)) ∧ Below w3.heap.size w3 w'') from fun w' hb => (base.lgS w' _ cl gl l (KL3.out w' hb) (by omega)).mono fun _ _ ⟨he, b⟩ => ⟨he, hb.trans (b.mono hb.size)⟩)
  by_cases hc0 : c = 0
  · subst hc0
    have BVT := Lib.hid PS.out.zero.2.1
    have LVL := Lib.hid PS.out.zero.1
    have LVM := Lib.hid PS.out.zero.2.2.2.1
    have TRL := Lib.hid PS.out.trl
    have lb := BVT.out.1
    have AT := Lib.hid (show ∀ p, led.In p → led.at4 P p = led.at4 l p + led.sm bt p bt.length from fun p hp => PS.out.at4 hp)
    have BLL := Lib.hid (show ∀ (p : led.F5), led.In p → ∀ w', Below w3.heap.size w3 w' → Calls Try.prog 30 #[.slice (some ⟨gl, 0, none⟩) l.length cl, .agg #[.int .i64 p.1, .int .i64 p.2.1, .int .i64 p.2.2.1], .int .i64 p.2.2.2.1] w' (fun e w'' => e = .returned (.int .i64 (led.at4 l p)) ∧ Below w3.heap.size w3 w'') from fun p hp w' hb => (mp.blI w' _ cl gl l p (KL3.out w' hb) (mp.W4.of_in hp) (by omega)).mono fun _ _ ⟨he, b⟩ => ⟨by rw [he, mp.blv_t (led.lv_t LVL.out)], hb.trans (b.mono hb.size)⟩)
    have BLM := Lib.hid (show ∀ (p : led.F5), led.In p → ∀ w', Below w3.heap.size w3 w' → Calls Try.prog 30 #[.slice am P.length cm, .agg #[.int .i64 p.1, .int .i64 p.2.1, .int .i64 p.2.2.1], .int .i64 p.2.2.2.1] w' (fun e w'' => e = .returned (.int .i64 (led.at4 P p)) ∧ Below w3.heap.size w3 w'') from fun p hp w' hb => (mp.blI w' _ cm gm P p (KM3.out w' hb) (mp.W4.of_in hp) (by omega)).mono fun _ _ ⟨he, b⟩ => ⟨by rw [he, mp.blv_t (led.lv_t LVM.out)], hb.trans (b.mono hb.size)⟩)
    go_wp2_with fail
    refine (SAM.out w3 Z3.out).mono ?_
    rintro e w4 ⟨rfl, b4⟩
    have Z4 := Lib.hid b4
    clear b4 LGI LGS
    obtain ⟨n, hnz⟩ : ∃ n, n = bt.length := ⟨_, rfl⟩
    have HNZ := Lib.hid hnz
    rw [← hnz] at hlb rmb lb ⊢
    clear hnz
    go_wp2
    go_loopw [9] (fun vi wr => ∃ i : Nat, i ≤ n ∧ vi = .int .i64 i ∧ Hid (Below w3.heap.size w3 wr)) (fun vi _ => n - (intOf vi).toNat)
    case atStart => exact ⟨0, by omega, rfl, Z4⟩
    case round =>
      obtain ⟨i, hi9, rfl, OB⟩ := hrel
      by_cases hlt : i < n
      · have HLT := Lib.hid (show i < bt.length from by rw [← HNZ.out]; exact hlt)
        obtain rfl := ADDR.out (by rw [← HNZ.out]; omega)
        obtain ⟨x, hx⟩ : ∃ x, x = bt.getD i led.z5 := ⟨_, rfl⟩
        have HX := Lib.hid hx
        have INX := Lib.hid (show led.In x from by rw [hx]; exact led.plok_in (BVT.out.2 i HLT.out).1)
        have QX := Lib.hid (show ∀ w', Below w3.heap.size w3 w' → five.At w' gb (i * 5) x from fun w' hb => by rw [HX.out]; exact (KB3.out w' hb).cells i HLT.out)
        clear hx
        obtain ⟨x1, x2, x3, x4, x5⟩ := QX.out wr OB.out
        have z1 : (i : Int) < (n : Int) := by omega
        have u1 : decide (i < n) = true := by simp; omega
        have BX := Lib.hid (BLL.out x INX.out)
        have BM := Lib.hid (BLM.out x INX.out)
        have AX := Lib.hid (AT.out x INX.out)
        have sb : -1000000000000000 ≤ led.at4 l x ∧ led.at4 l x ≤ 1000000000000000 := by
          rcases mp.at4_mem l x with h | ⟨y, hy, h⟩
          · rw [h]; omega
          · rw [h]; exact led.inR_iff.1 (led.LV_mem LVL.out hy).2.2
        obtain ⟨s, hs⟩ : ∃ s, s = led.at4 l x := ⟨_, rfl⟩
        rw [← hs] at BX AX sb
        have s1 := sb.1
        have s2 := sb.2
        clear hs sb
        go_wp2_with fail
        go_region_with (go_at_call 30; refine (BX.out _ ?_).mono ?_; (first | exact OB.out.drew | exact OB.out); rintro e w5 ⟨rfl, b5⟩; have Z5 := Lib.hid b5; clear b5)
        all_goals
          clear x1 x2 x3 x4 x5
          go_wp2
          go_loopw [10, 11] (fun vn vj wx => ∃ k : Nat, k ≤ n ∧ vj = .int .i64 k ∧ vn = .int .i64 (s + led.sm bt x k) ∧ Hid (Below w3.heap.size w3 wx)) (fun _ vj _ => n - (intOf vj).toNat)
          case atStart => exact ⟨0, by omega, rfl, by (try simp [led.sm]), Z5⟩
          case round =>
            obtain ⟨k, hk, rfl, rfl, OC⟩ := hrel
            have smb := led.sm_bound BVT.out x k (by rw [← HNZ.out]; exact hk)
            obtain ⟨t, ht⟩ : ∃ t, t = led.sm bt x k := ⟨_, rfl⟩
            rw [← ht] at smb ⊢
            have HT := Lib.hid ht
            have t1' : -20000000000000 ≤ t := by omega
            have t2' : t ≤ 20000000000000 := by omega
            clear ht smb
            by_cases hlk : k < n
            · have HLK := Lib.hid (show k < bt.length from by rw [← HNZ.out]; exact hlk)
              obtain ⟨y, hy⟩ : ∃ y, y = bt.getD k led.z5 := ⟨_, rfl⟩
              have yb := led.inR_iff.1 (BVT.out.2 k HLK.out).2
              rw [← hy] at yb
              have y1' : -1000000000000 ≤ y.2.2.2.2 := yb.1
              have y2' : y.2.2.2.2 ≤ 1000000000000 := yb.2
              obtain ⟨y1, y2, y3, y4, y5⟩ := show five.At wr gb (k * 5) y from by rw [hy]; exact (KB3.out wr OC.out).cells k HLK.out
              obtain ⟨x1, x2, x3, x4, x5⟩ := QX.out wr OC.out
              have z2 : (k : Int) < (n : Int) := by omega
              have u2 : decide (k < n) = true := by simp; omega
              have SMK := Lib.hid (show led.sm bt x (k + 1) = t + (if led.same y x then y.2.2.2.2 else 0) from by rw [led.sm, ← HT.out, ← hy]; rfl)
              clear hy yb
              by_cases hsm : led.same y x
              · have SM1 := Lib.hid (show s + led.sm bt x (k + 1) = s + t + y.2.2.2.2 from by rw [SMK.out, if_pos hsm]; omega)
                have q0 : (y.1 == x.1) = true := by simp [hsm.1]
                have q1 : (y.2.1 == x.2.1) = true := by simp [hsm.2.1]
                have q2 : (y.2.2.1 == x.2.2.1) = true := by simp [hsm.2.2.1]
                have q3 : (y.2.2.2.1 == x.2.2.2.1) = true := by simp [hsm.2.2.2]
                clear hsm
                go_wp2_with fail
                go_quiet (fail)
                go_wp2
                go_roundw
                case rel => exact ⟨k + 1, by omega, by go_num, by rw [SM1.out], Lib.hid (below_drewN OC.out _)⟩
                case measure => simp [intOf]; omega
              · have SM1 := Lib.hid (show s + led.sm bt x (k + 1) = s + t from by rw [SMK.out, if_neg hsm, Int.add_zero])
                cases q0 : (y.1 == x.1) with
                | false =>
                  clear hsm
                  go_wp2_with fail
                  go_quiet (fail)
                  go_wp2
                  go_roundw
                  case rel => exact ⟨k + 1, by omega, by go_num, by rw [SM1.out], Lib.hid (below_drewN OC.out _)⟩
                  case measure => simp [intOf]; omega
                | true =>
                  cases q1 : (y.2.1 == x.2.1) with
                  | false =>
                    clear hsm
                    go_wp2_with fail
                    go_quiet (fail)
                    go_wp2
                    go_roundw
                    case rel => exact ⟨k + 1, by omega, by go_num, by rw [SM1.out], Lib.hid (below_drewN OC.out _)⟩
                    case measure => simp [intOf]; omega
                  | true =>
                    cases q2 : (y.2.2.1 == x.2.2.1) with
                    | false =>
                      clear hsm
                      go_wp2_with fail
                      go_quiet (fail)
                      go_wp2
                      go_roundw
                      case rel => exact ⟨k + 1, by omega, by go_num, by rw [SM1.out], Lib.hid (below_drewN OC.out _)⟩
                      case measure => simp [intOf]; omega
                    | true =>
                      have q3 : (y.2.2.2.1 == x.2.2.2.1) = false := by
                        cases q3 : (y.2.2.2.1 == x.2.2.2.1) with
                        | false => rfl
                        | true => exact absurd ⟨by simpa using q0, by simpa using q1, by simpa using q2, by simpa using q3⟩ hsm
                      clear hsm
                      go_wp2_with fail
                      go_quiet (fail)
                      go_wp2
                      go_roundw
                      case rel => exact ⟨k + 1, by omega, by go_num, by rw [SM1.out], Lib.hid (below_drewN OC.out _)⟩
                      case measure => simp [intOf]; omega
            · obtain rfl : k = n := by omega
              have u2 : decide (k < k) = false := by simp
              rw [← show s + t = led.at4 P x from by rw [AX.out, HT.out, HNZ.out]] at BM
              have te : (s + t != s + t) = false := by simp
              obtain ⟨x1, x2, x3, x4, x5⟩ := QX.out wr OC.out
              go_wp2_with fail
              go_region_with (go_at_call 30; refine (BM.out _ ?_).mono ?_; (first | exact OC.out.drew | exact OC.out); rintro e w6 ⟨rfl, b6⟩; have Z6 := Lib.hid b6; clear b6)
              all_goals
                clear x1 x2 x3 x4 x5
                go_wp2
                go_roundw
                case rel => exact ⟨i + 1, by omega, by go_num, Z6⟩
                case measure => simp [intOf]; omega
      · obtain rfl : i = n := by omega
        have u1 : decide (i < i) = false := by simp
        have CK := Lib.hid (base.lgI wr am cm gm P (KM3.out wr OB.out) (by omega))
        rw [led.lv_t LVM.out] at CK
        go_wp2_with fail
        refine CK.out.mono ?_
        rintro e w5 ⟨rfl, b5⟩
        have Z5 := Lib.hid (OB.out.trans (b5.mono OB.out.size))
        clear b5
        have CT := Lib.hid (base.trI w5 am cm gm P (KM3.out w5 Z5.out) (by omega))
        rw [TRL.out] at CT
        go_wp2_with fail
        refine CT.out.mono ?_
        rintro e w6 ⟨at', ct, gt, rfl, rt, GT, b6⟩
        have Z6 := Lib.hid (Z5.out.trans (b6.mono Z5.out.size))
        have KT := Lib.hid (show ∀ w', Below w6.heap.size w6 w' → rows.Row w' at' ct gt (led.trl l) from fun w' hb => ⟨rt.addr, rt.room, fun i hi => (hb.cell (p := ⟨gt, i, none⟩) (GT (by omega)).2).trans (rt.cells i hi), fun h i => (hb.frozen (p := ⟨gt, i, none⟩) (GT h).2).trans (rt.free h i)⟩)
        clear rt GT b6
        have CU := Lib.hid (base.trI w6 (some ⟨gl, 0, none⟩) cl gl l (KL3.out w6 Z6.out) (by omega))
        go_wp2_with fail
        refine CU.out.mono ?_
        rintro e w7 ⟨au, cu, gu, rfl, ru, GU, b7⟩
        have Z7 := Lib.hid (Z6.out.trans (b7.mono Z6.out.size))
        have R1 := Lib.hid (KT.out w7 b7)
        have R2 := Lib.hid ru
        have ln : (led.trl l).length ≤ 6 := by rw [led.trl_t (led.lv_t LVL.out), led.six_len]; omega
        clear ru GU b7
        go_wp2_with fail
        refine (five.samI w7 at' au ct cu gt gu (led.trl l) R1.out R2.out (by omega)).mono ?_
        rintro e w8 ⟨rfl, b8⟩
        have Z8 := Lib.hid (Z7.out.trans (b8.mono Z7.out.size))
        clear b8
        go_wp2
        go_ret
        exact ⟨rfl, FIN3.out _ Z8.out⟩
  · have t2 : (c != 0) = true := by simp [hc0]
    generalize led.lv l = lvl at LGI LGS
    have tl : (lvl == lvl) = true := by simp
    clear hc0
    go_wp2_with fail
    refine (SAM.out w3 Z3.out).mono ?_
    rintro e w4 ⟨rfl, b4⟩
    have Z4 := Lib.hid b4
    clear b4
    go_wp2_with fail
    refine (SAM.out w4 Z4.out).mono ?_
    rintro e w5 ⟨rfl, b5⟩
    have Z5 := Lib.hid b5
    clear b5
    go_wp2_with fail
    refine (LGI.out w5 Z5.out).mono ?_
    rintro e w6 ⟨rfl, b6⟩
    have Z6 := Lib.hid b6
    clear b6
    go_wp2_with fail
    refine (LGS.out w6 Z6.out).mono ?_
    rintro e w7 ⟨rfl, b7⟩
    have Z7 := Lib.hid b7
    clear b7
    go_wp2
    go_ret
    exact ⟨rfl, FIN3.out _ Z7.out⟩

theorem own : ownKnob Try.prog.godebug = none := by kernel_rfl
theorem laidOut : laidOutB Try.prog = true := by kernel_rfl
theorem isLaw : lift.IsLaw Rows.fnPostedSpec 1 0 := fun _ ds gs h1 h2 => match ds, h1 with | [_], _ => match gs, h2 with | [], _ => rfl

set_option maxRecDepth 100000 in
theorem lifted (os : Os) (started : os.Started) (H : Type) (enc : TypeId × Value → H) :
    ReturnsInHanded {} Try.checked os 9 .any (Rows.fnPostedSpec.pre6 enc Try.prog Try.f9 Rows.fnPostedRow.domain false) (Rows.fnPostedSpec.post enc Try.prog Try.f9 false true false false) := by
  refine returnsInHanded_of_change (C := Try.checked) own started (by kernel_rfl) Try.func9
    (ChangeSpec.witness6 (enc := enc) (C := Try.checked) false ⟨#[], #[.slice none 0 0], []⟩ 8 (by kernel_rfl) (by kernel_rfl) (by kernel_rfl) (by kernel_rfl)) ?_
  intro W base args ds gs before hval0 hW _ _
  have hval : ∀ (j : Nat) t v, Try.f9.params[j]? = some t → args[j]? = some v → Value.okWide Try.prog W .any base t v := hval0
  have hW' := hW
  obtain ⟨p, q, hA0, hV, hrest⟩ := hW
  have hA : DataW.TrodAll enc Try.prog W 0 (fun _ => true) true Try.f9.params.toList args.toList ds p := hA0
  clear hA0 hval0 hV hrest
  rw [Try.params9] at hA hval
  obtain ⟨v0, d0, rfl, rfl, h0⟩ := trodAll_one hA
  obtain ⟨a, len, cap, rfl, hlen, hB⟩ := draw.open_code Try.underlying47 Try.underlying5 (by kernel_rfl) (hval 0 47 v0 rfl rfl) h0
  have wk : Calls Try.prog 9 #[.slice a len cap] W fun e w' => e = .returned (.bool true) ∧ Below W.heap.size W w' := by
    by_cases hb : len ≤ 1048576
    · exact walk_small a cap len W hB hb
    · exact walk_big a len cap W hlen (by omega)
  refine (wk).mono fun e W' ⟨he, hb⟩ => ?_
  subst he
  exact ⟨_, rfl, lift.law_post laidOut (by kernel_rfl) (by kernel_rfl) (by kernel_rfl) Try.underlying4 (by rw [Try.params9]; exact isLaw) hW' hb⟩

theorem over : Rows.fnPostedRow.holds Try.pinned (OpenSpec.ofChange Rows.fnPostedSpec) :=
  OpenClaim.holds_of_wide 9 Try.f9 rfl rfl rfl rfl rfl rfl rfl ⟨rfl, rfl, rfl, rfl, rfl⟩ rfl rfl rfl rfl rfl (by kernel_rfl) Try.func9 (by kernel_rfl)
    (of_decide_eq_true (by kernel_rfl)) (by unfold Func.isWrapper; first | (rw [if_pos (by decide +kernel)]; kernel_rfl) | (rw [if_neg (by decide +kernel)]; exact ⟨rfl, rfl⟩))
    (fun os started H enc _ => lifted os started H enc)

theorem proved : Rows.FnPostedSaid := over
#print axioms proved
end Go.Proofs.Ytnkdjnfbllkgiaa.fnPosted
