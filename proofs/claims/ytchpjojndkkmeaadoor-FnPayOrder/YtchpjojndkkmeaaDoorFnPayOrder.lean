/-
  Proved: for every code, a later Part of a plan that is made is paid only if all earlier ones are paid; the law laws.FnPayOrder returns true and its arguments read as before. Conditions: none beyond the given row (the listed tables are as the program's text lays them).
-/
import Derived.Test.YtchpjojndkkmeaaDoorTie
import Derived.Test.YtchpjojndkkmeaaDoorCards
import Derived.Test.YtchpjojndkkmeaaDoorDrd
import Derived.Test.YtchpjojndkkmeaaDoorPmS
import Derived.Test.YtchpjojndkkmeaaDoorIPm
import Derived.Test.YtchpjojndkkmeaaDoorPpo
import Derived.Test.YtchpjojndkkmeaaDoorPyI
import Derived.Test.YtchpjojndkkmeaaDoorByt
import Derived.Test.YtchpjojndkkmeaaDoorOw
import Derived.Carry
import Derived.Deep.QuietTactic
import Derived.BigQuiet
namespace Go.Proofs.YtchpjojndkkmeaaDoor.fnPayOrder
open Go.ChangeShapes Go.WideShapes Go.ChangeAt Go.RowKit
open Go.ChangeMaps (open_string shut_string)

theorem mon_one {W : World} (h : laidMetH Tryd.prog Rows.fnPayOrderRow.laid W) : ibase.Mon W := by
  rw [MakeChecks.laidMetH_plain _ _ _ (by kernel_rfl)] at h
  exact ibase.mon_of h
theorem own : ownKnob Tryd.prog.godebug = none := by kernel_rfl
theorem laidOut : laidOutB Tryd.prog = true := by kernel_rfl
theorem walk_big (a : Option Addr) (len cap : Nat) (w : World) (hl : len ≤ maxLen) (hb : 1048576 < len) : Calls Tryd.prog 5 #[.slice a len cap] w fun e w' => e = .returned (.bool true) ∧ Below w.heap.size w w' := by
  go_enter Tryd.func5, Tryd.ntmps5
  go_wp2_with fail
  refine (draw.bigT a len cap w hb hl).mono ?_
  rintro e w' ⟨rfl, rfl⟩
  go_wp2
  go_ret
  exact ⟨rfl, Below.refl _ _⟩
set_option maxRecDepth 100000 in
set_option maxHeartbeats 8000000 in
theorem walk_small (a : Option Addr) (cap len : Nat) (w : World) (hB : draw.Bytes w a len) (hn : len ≤ 1048576) (c : ibase.Mon w) : Calls Tryd.prog 5 #[.slice a len cap] w fun e w' => e = .returned (.bool true) ∧ Below w.heap.size w w' := by
  have HB := Lib.hid hB
  have C := Lib.hid c
  have HB2 := Lib.hid hB
  have lt := c.lt
  clear hB c
  go_enter Tryd.func5, Tryd.ntmps5
  go_wp2_with fail
  refine (draw.bigF a len cap w hn).mono ?_
  rintro e w' ⟨rfl, rfl⟩
  go_wp2_with fail
  refine (draw.drawPM a len cap w HB.out hn).mono ?_
  rintro e w1 ⟨t, n, d, r, rfl, b1⟩
  have BB := Lib.hid b1
  clear b1 HB
  have lp : (pm.pmL t n d r).length ≤ 24 := pm.pm_len
  have CS := Lib.hid (fun w0 => base.pmS t n d r w0)
  have CI := Lib.hid (fun w0 (c : ibase.Mon w0) => base.pmI t n d r w0 c)
  unfold base.GotP at CS CI
  obtain ⟨P, hP⟩ : ∃ P, P = pm.pmL t n d r := ⟨_, rfl⟩
  obtain ⟨K, hK⟩ : ∃ K, K = pm.okB t n d r := ⟨_, rfl⟩
  rw [← hP] at CS CI lp
  rw [← hK] at CS CI
  have HP := Lib.hid hP
  have HK := Lib.hid hK
  clear hP hK
  have tK : (K != K) = false := by simp
  have tK' : (K == K) = true := by simp
  go_wp2_with fail
  refine (CI.out w1 (C.out.below BB.out lt)).mono ?_
  rintro e w2 ⟨ag, cg, gg, rfl, r0, G0, bb⟩
  replace BB := Lib.hid (BB.out.trans (bb.mono BB.out.size))
  have z2 := bb.size
  clear bb
  have RG := Lib.hid r0
  have GRG := Lib.hid G0
  clear r0 G0
  go_wp2_with fail
  refine (CS.out w2).mono ?_
  rintro e w3 ⟨a3, c3, g3, rfl, r0, G0, bb⟩
  replace BB := Lib.hid (BB.out.trans (bb.mono BB.out.size))
  have z3 := bb.size
  replace RG := Lib.hid (RG.out.keep (w' := w3) fun h => bb.block gg (by have := (GRG.out h).2; omega))
  clear bb
  clear r0 G0
  cases K with
  | false =>
    clear tK tK'
    go_wp2
    go_ret
    exact ⟨rfl, BB.out⟩
  | true =>
    clear tK tK'
    have OK := Lib.hid (pm.okB_iff.1 HK.out.symm)
    have LP := pm.parts_len t n d r n.toNat
    rw [← pm.pm_yes OK.out, ← HP.out] at LP
    have N0 := OK.out.dz.1
    have T0 := OK.out.t0
    have T1 := OK.out.t1
    have N24 := OK.out.dz.2.1
    obtain ⟨nz, rfl⟩ := Int.eq_ofNat_of_zero_le (show 0 ≤ n by omega)
    rw [Int.toNat_natCast] at LP
    have ea := RG.out.addr (by omega)
    have rm := RG.out.room
    subst ea
    obtain ⟨g, hg⟩ : ∃ g, g = gg := ⟨_, rfl⟩
    have gB : g < w3.heap.size := by rw [hg]; have := (GRG.out (by omega)).2; omega
    rw [← hg] at RG ⊢
    clear hg GRG CS CI
    go_wp2_with fail
    refine (draw.byteOf a len cap w3 2 (by omega) (HB2.out.below BB.out) hn).mono ?_
    rintro e w' ⟨⟨y, y1, rfl⟩, rfl⟩
    obtain ⟨z, hz⟩ : ∃ z : Nat, z = y % 5 := ⟨_, rfl⟩
    obtain ⟨dv, hdv⟩ : ∃ q : Nat, q = 1 + z := ⟨_, rfl⟩
    have e1 : (y : Int).tmod 5 = (z : Int) := by rw [Int.tmod_eq_emod_of_nonneg (by omega)]; omega
    have e1' : (y : Int) % 5 = (z : Int) := by omega
    have e2 : (1 : Int) + (z : Int) = (dv : Int) := by omega
    have d1 : 1 ≤ dv := by omega
    have d5 : dv ≤ 5 := by omega
    obtain ⟨T, rfl⟩ := Int.eq_ofNat_of_zero_le (show 0 ≤ t by omega)
    obtain ⟨m, hm⟩ : ∃ m, m = T / dv := ⟨_, rfl⟩
    have e3 : (T : Int) / (dv : Int) = (m : Int) := by rw [hm, Int.natCast_ediv]
    have e3' : (T : Int).tdiv (dv : Int) = (m : Int) := by rw [Int.tdiv_eq_ediv_of_nonneg (by omega), e3]
    have m1 : m ≤ T := by rw [hm]; exact Nat.div_le_self _ _
    have e4 : ((dv : Int) == 0) = false := by simp; omega
    have MO := Lib.hid (fun k (hk : k < nz) => pm.paid_one (t := (T : Int)) (n := (nz : Int)) (d := d) (r := r) (m := (m : Int)) OK.out (by omega) k (by rw [Int.toNat_natCast]; exact hk))
    have MP := Lib.hid (pm.paid_get (t := (T : Int)) (n := (nz : Int)) (d := d) (r := r) (m := (m : Int)) OK.out (by omega) (by omega))
    have PI := fun w0 c g r => base.ppI (m : Int) w0 c g P r (by omega)
    unfold base.Out3 at PI
    rw [Int.toNat_natCast] at MP
    rw [← HP.out] at MO MP
    obtain ⟨Q, hQ⟩ : ∃ Q, Q = base.pyL P (m : Int) := ⟨_, rfl⟩
    rw [← hQ] at PI MP
    generalize base.pyS P (m : Int) = S at PI
    obtain ⟨s1, s2, s3, s4⟩ := S
    dsimp only at PI
    have LQ := MP.out.1
    rw [LP] at PI rm
    rw [LQ] at PI
    have PIh := Lib.hid PI
    have fs : Nat → Int := fun k => (pl.fs pl.pay ((m : Int), 0, 0, 0) P k).1
    obtain ⟨F, hF⟩ : ∃ F : Nat → Int, ∀ k, F k = (pl.fs pl.pay ((m : Int), 0, 0, 0) P k).1 := ⟨_, fun _ => rfl⟩
    have ON := Lib.hid (fun k (hk : k < nz) => show pm.One (F k) (F (k + 1)) (Q.getD k seven.zz) from by rw [hF, hF, MP.out.2 k hk]; exact (MO.out k hk).2)
    clear hQ PI hF MO MP hm hdv hz fs
    go_wp2_with fail
    refine (PIh.out w3 _ g RG.out).mono ?_
    rintro e w4 ⟨aq, cq, gq, rfl, rq, Gq, bb, -⟩
    replace BB := Lib.hid (BB.out.trans (bb.mono BB.out.size))
    clear bb
    have eq_ := rq.addr (by omega)
    have rmq := rq.room
    rw [LQ] at rmq
    have gq4 : gq < w4.heap.size := (Gq (by omega)).2
    have RQ := Lib.hid rq
    subst eq_
    clear rq Gq
    have XS := Lib.hid (Below.refl w4.heap.size w4)
    have zbb : (w4.alloc (.cells #[.int .i64 0, .int .i64 0, .int .i64 0, .int .i64 0, .int .i64 s4, .int .i64 s3, .int .i64 s2] 35)).heap.size = w4.heap.size + 1 := by simp
    have al := fun k hk => Below.heap_alloc w4 (.cells #[.int .i64 0, .int .i64 0, .int .i64 0, .int .i64 0, .int .i64 s4, .int .i64 s3, .int .i64 s2] 35) k hk
    replace RQ := Lib.hid (RQ.out.keep (w' := w4.alloc (.cells #[.int .i64 0, .int .i64 0, .int .i64 0, .int .i64 0, .int .i64 s4, .int .i64 s3, .int .i64 s2] 35)) fun h => al gq (by omega))
    replace BB := Lib.hid (BB.out.alloc BB.out.size (.cells #[.int .i64 0, .int .i64 0, .int .i64 0, .int .i64 0, .int .i64 s4, .int .i64 s3, .int .i64 s2] 35))
    clear al XS
    go_wp2
    generalize w4.alloc (.cells #[.int .i64 0, .int .i64 0, .int .i64 0, .int .i64 0, .int .i64 s4, .int .i64 s3, .int .i64 s2] 35) = W5 at BB zbb RQ ⊢
    go_loopw [14, 15] (fun o v wr => Below W5.heap.size W5 wr ∧ ∃ (k : Nat) (b : Bool), k ≤ nz ∧ o = .bool b ∧ v = .int .i64 k ∧ (b = true → F k = 0)) (fun _ v _ => nz - (intOf v).toNat)
    case atStart => exact ⟨Below.refl _ _, 0, false, by omega, rfl, rfl, fun h => by cases h⟩
    case round =>
      obtain ⟨hB, k, b, hk, rfl, rfl, hb⟩ := hrel
      have HBk := Lib.hid hB
      have bz := hB.size
      by_cases hlt : k < nz
      · have u1 : decide (k < nz) = true := by simp; omega
        have z1 : (k : Int) < (nz : Int) := by omega
        have A := (RQ.out.cells k (by omega)).keep (hB.block gq (by omega))
        have O := ON.out k hlt
        generalize Q.getD k seven.zz = X at A O
        obtain ⟨du, p, i, f, a', c', g'⟩ := X
        obtain ⟨m0, n0, o1, o2, a0, a1, c0, c1, p1, i1, up, op, no⟩ := O
        dsimp only at o1 o2 a0 a1 c0 c1 p1 i1 up op no
        subst o1 o2
        have AH := Lib.hid A
        have OP := Lib.hid op
        have UP := Lib.hid up
        have NOH := Lib.hid no
        have SML := Lib.hid (show base.Sml (du, p, i, 0, a', c', 0) from by constructor <;> (try dsimp only) <;> omega)
        clear hB op up no A
        have mm : ∀ wn, Below wr.heap.size wr wn → seven.At wn gq (k * 7) (du, p, i, 0, a', c', 0) := fun wn h => AH.out.keep (h.block gq (by omega))
        have MM := Lib.hid mm
        clear mm
        obtain ⟨_, q1, q2, q3, q4, q5, q6⟩ := AH.out
        dsimp only at q1 q2 q3 q4 q5 q6
        have wa : IntKind.i64.wrap (a' + c') = a' + c' := by rw [IntKind.wrap_i64]; omega
        cases b with
        | true =>
          obtain ⟨ra, rc, rn⟩ := NOH.out (hb rfl)
          subst ra rc
          clear wa
          go_wp2_with fail
          go_quiet (fail)
          go_wp2_with fail
          go_quiet (fail)
          go_wp2
          go_roundw
          case rel => exact ⟨⟨HBk.out.os, HBk.out.tape, HBk.out.output, HBk.out.size, HBk.out.block⟩, k + 1, true, by omega, rfl, by go_num, fun _ => rn⟩
          case measure => simp [intOf]; omega
        | false =>
          clear hb
          have OWC := Lib.hid (fun w0 => base.owC du p i 0 a' c' 0 w0 SML.out)
          obtain ⟨ov, hov⟩ : ∃ q, q = base.ow (du, p, i, 0, a', c', 0) := ⟨_, rfl⟩
          rw [← hov] at OWC
          have HOV := Lib.hid (show ov = p + i + 0 - a' - c' - 0 from hov)
          clear hov
          have NXT := Lib.hid (show decide (0 < ov) = true → F (k + 1) = 0 from fun h => OP.out (by have := HOV.out; simp at h; omega))
          by_cases ha : 0 < a'
          · have t1 : decide (0 < a') = true := by simp; omega
            have ci := UP.out ha
            have t2 : decide (c' < i) = false := by simp; omega
            clear ci
            go_wp2_with fail
            go_quiet (fail)
            go_wp2_with fail
            go_quiet (fail)
            generalize hW : World.drewN _ _ = wq
            have hq : Below wr.heap.size wr wq := by rw [← hW]; exact ⟨rfl, rfl, rfl, Nat.le_refl _, fun _ _ => rfl⟩
            clear hW q1 q2 q3 q4 q5 q6
            obtain ⟨v0, v1, v2, v3, v4, v5, v6⟩ := MM.out wq hq
            dsimp only at v0 v1 v2 v3 v4 v5 v6
            have HQ := Lib.hid (HBk.out.trans (hq.mono bz))
            have zq := HQ.out.size
            clear hq
            go_wp2_with fail
            refine (OWC.out wq).mono ?_
            rintro e wo ⟨rfl, bo⟩
            have HO := Lib.hid (HQ.out.trans (bo.mono zq))
            clear bo
            go_wp2
            go_roundw
            case rel => exact ⟨HO.out, k + 1, decide (0 < ov), by omega, rfl, by go_num, NXT.out⟩
            case measure => simp [intOf]; omega
          · have t1 : decide (0 < a') = false := by simp; omega
            go_wp2_with fail
            go_quiet (fail)
            go_wp2_with fail
            go_quiet (fail)
            generalize hW : World.drewN _ _ = wq
            have hq : Below wr.heap.size wr wq := by rw [← hW]; exact ⟨rfl, rfl, rfl, Nat.le_refl _, fun _ _ => rfl⟩
            clear hW q1 q2 q3 q4 q5 q6
            obtain ⟨v0, v1, v2, v3, v4, v5, v6⟩ := MM.out wq hq
            dsimp only at v0 v1 v2 v3 v4 v5 v6
            have HQ := Lib.hid (HBk.out.trans (hq.mono bz))
            have zq := HQ.out.size
            clear hq
            go_wp2_with fail
            refine (OWC.out wq).mono ?_
            rintro e wo ⟨rfl, bo⟩
            have HO := Lib.hid (HQ.out.trans (bo.mono zq))
            clear bo
            go_wp2
            go_roundw
            case rel => exact ⟨HO.out, k + 1, decide (0 < ov), by omega, rfl, by go_num, NXT.out⟩
            case measure => simp [intOf]; omega
      · have u1 : decide (k < nz) = false := by simp; omega
        obtain rfl : k = nz := by omega
        go_wp2
        go_ret
        exact ⟨rfl, BB.out.trans (HBk.out.mono BB.out.size)⟩

theorem isLaw : lift.IsLaw Rows.fnPayOrderSpec 1 1 := fun _ ds gs h1 h2 => match ds, h1 with | [_], _ => match gs, h2 with | [_], _ => rfl

theorem laid_met (os : Os) : laidMetH Tryd.prog Rows.fnPayOrderRow.laid ((World.doorLaid Tryd.prog 400 os).forCall (fun _ _ => 0) ⟨#[], #[.slice none 0 0], []⟩).memory :=
  laidMetH_of_parts3 (fuel := 8) (laidMet_of_run' 8 (by kernel_rfl) (by kernel_rfl)) (by kernel_rfl) (by kernel_rfl)

theorem reads (os : Os) {H : Type} (enc : TypeId × Value → H) : ∃ gs places, DataW.whole enc Tryd.prog ((World.doorLaid Tryd.prog 400 os).forCall (fun _ _ => 0) ⟨#[], #[.slice none 0 0], []⟩).memory Tryd.f5.params.toList Rows.fnPayOrderSpec.vars false (#[.slice none 0 0] : Array Value).toList 8 = some ([.nil], gs, places) :=
  ⟨[Rows.laid_loop_example_g00714_impl_monthLengths], MemPlace.row ⟨2, 0, none⟩ 12, by kernel_rfl⟩

set_option maxRecDepth 100000 in
theorem lifted (os : Os) (started : os.Started) (H : Type) (enc : TypeId × Value → H) (F : Stop.Interp) :
    ReturnsInHanded {} Tryd.checked os 5 .any ((OpenSpec.ofChange Rows.fnPayOrderSpec).preRow enc Tryd.prog Tryd.f5 [] false Rows.fnPayOrderRow.laid) (((OpenSpec.ofChange Rows.fnPayOrderSpec).at F).post enc Tryd.prog Tryd.f5 false true false false) := by
  obtain ⟨gs, places, hx⟩ := reads os enc
  refine lift.law_lift (C := Tryd.checked) (tb := 4) own started (by kernel_rfl) Tryd.func5 laidOut (by kernel_rfl) (by kernel_rfl) (by kernel_rfl) Tryd.underlying4 (by rw [Tryd.params5]; exact isLaw)
    (witness_row_at (enc := enc) (C := Tryd.checked) false (World.doorLaid Tryd.prog 400 os) #[.slice none 0 0] rfl (by kernel_rfl) (by kernel_rfl) (by kernel_rfl)
      (OpenSpec.preRow_of_cond 8 hx (by kernel_rfl) (fun k hk => by cases hk) (by kernel_rfl) (laid_met os))) ?_
  intro W b0 args ds p hval hA hL
  rw [Tryd.params5] at hA hval
  obtain ⟨v0, d0, rfl, rfl, h0⟩ := trodAll_one hA
  obtain ⟨a, len, cap, rfl, hlen, hB⟩ := draw.open_code Tryd.underlying28 Tryd.underlying5 (by kernel_rfl) (hval 0 28 v0 rfl rfl) h0
  by_cases hb : len ≤ 1048576
  · exact walk_small a cap len W hB hb (mon_one hL)
  · exact walk_big a len cap W hlen (by omega)

theorem said : Rows.FnPayOrderSaid :=
  OpenClaim.holds_of_cond 5 Tryd.f5 rfl rfl rfl rfl rfl rfl rfl ⟨rfl, rfl, rfl, rfl, rfl⟩ rfl rfl rfl rfl rfl (by kernel_rfl) Tryd.func5 (by kernel_rfl)
    (of_decide_eq_true (by kernel_rfl)) (by unfold Func.isWrapper; first | (rw [if_pos (by decide +kernel)]; kernel_rfl) | (rw [if_neg (by decide +kernel)]; exact ⟨rfl, rfl⟩))
    (fun os started H enc _ F => by rw [OpenClaim.pre_eq_preRow]; exact lifted os started H enc F)

theorem plain (f : FuncId) (fn : Func) (hf : Tryd.pinned.checked.prog.funcNamed "loop.example/g00714/laws.FnPayOrder" = some f) (hfn : Tryd.pinned.checked.prog.funcs[f]? = some fn) :
    false = Tryd.pinned.checked.prog.looks [] ∧ ∀ (j : Nat) t, fn.params[j]? = some t → Tryd.pinned.checked.prog.wantsStandIn t = false := by
  obtain rfl : f = 5 := Option.some.inj ((show Tryd.prog.funcNamed "loop.example/g00714/laws.FnPayOrder" = some 5 by kernel_rfl).symm.trans hf) |>.symm
  obtain rfl : fn = Tryd.f5 := (Option.some.inj (Tryd.func5.symm.trans hfn)).symm
  refine ⟨by kernel_rfl, fun j t ht => ?_⟩
  rw [Tryd.params5] at ht
  have hm : t ∈ [28] := by simpa using Array.mem_of_getElem? ht
  have hall : ([28].all fun u => !Tryd.prog.wantsStandIn u) = true := by kernel_rfl
  exact (show Tryd.prog.wantsStandIn t = false by simpa using List.all_eq_true.1 hall t hm)

theorem card : Rows.FnPayOrderCardSaid :=
  Claim7.holds_tied_plain_at .later [] _ _ _ _ said (fun _ h => by cases h) (by kernel_rfl) (fun _ h => by cases h) fnPayOrder_row_tie rfl ⟨rfl, rfl⟩ (by kernel_rfl) rfl plain (by kernel_rfl)
#print axioms card
end Go.Proofs.YtchpjojndkkmeaaDoor.fnPayOrder
