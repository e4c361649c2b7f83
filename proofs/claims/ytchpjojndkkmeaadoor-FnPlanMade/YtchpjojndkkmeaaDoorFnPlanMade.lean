/-
  Proved: for every code, the landed PlanMade answers as its model does, and a plan that it makes has all of the price and of the interest; the law laws.FnPlanMade returns true and its arguments read as before. Conditions: none beyond the given row (the listed tables are as the program's text lays them).
-/
import Derived.Test.YtchpjojndkkmeaaDoorTie
import Derived.Test.YtchpjojndkkmeaaDoorCards
import Derived.Test.YtchpjojndkkmeaaDoorDrd
import Derived.Test.YtchpjojndkkmeaaDoorPmS
import Derived.Test.YtchpjojndkkmeaaDoorIPm
import Derived.Test.YtchpjojndkkmeaaDoorPmm
import Derived.Test.YtchpjojndkkmeaaDoorSa7
import Derived.Test.YtchpjojndkkmeaaDoorSmI
import Derived.Test.YtchpjojndkkmeaaDoorPkI
import Derived.Carry
import Derived.Deep.QuietTactic
import Derived.BigQuiet
namespace Go.Proofs.YtchpjojndkkmeaaDoor.fnPlanMade
open Go.ChangeShapes Go.WideShapes Go.ChangeAt Go.RowKit
open Go.ChangeMaps (open_string shut_string)

theorem mon_one {W : World} (h : laidMetH Tryd.prog Rows.fnPlanMadeRow.laid W) : ibase.Mon W := by
  rw [MakeChecks.laidMetH_plain _ _ _ (by kernel_rfl)] at h
  exact ibase.mon_of h
theorem own : ownKnob Tryd.prog.godebug = none := by kernel_rfl
theorem laidOut : laidOutB Tryd.prog = true := by kernel_rfl
theorem walk_big (a : Option Addr) (len cap : Nat) (w : World) (hl : len ≤ maxLen) (hb : 1048576 < len) : Calls Tryd.prog 4 #[.slice a len cap] w fun e w' => e = .returned (.bool true) ∧ Below w.heap.size w w' := by
  go_enter Tryd.func4, Tryd.ntmps4
  go_wp2_with fail
  refine (draw.bigT a len cap w hb hl).mono ?_
  rintro e w' ⟨rfl, rfl⟩
  go_wp2
  go_ret
  exact ⟨rfl, Below.refl _ _⟩
set_option maxRecDepth 100000 in
set_option maxHeartbeats 8000000 in
theorem walk_small (a : Option Addr) (cap len : Nat) (w : World) (hB : draw.Bytes w a len) (hn : len ≤ 1048576) (c : ibase.Mon w) : Calls Tryd.prog 4 #[.slice a len cap] w fun e w' => e = .returned (.bool true) ∧ Below w.heap.size w w' := by
  have HB := Lib.hid hB
  have C := Lib.hid c
  have lt := c.lt
  clear hB c
  go_enter Tryd.func4, Tryd.ntmps4
  go_wp2_with fail
  refine (draw.bigF a len cap w hn).mono ?_
  rintro e w' ⟨rfl, rfl⟩
  go_wp2_with fail
  refine (draw.drawPM a len cap w HB.out hn).mono ?_
  rintro e w1 ⟨t, n, d, r, rfl, b1⟩
  have BB := Lib.hid b1
  clear b1 HB
  have lp : (pm.pmL t n d r).length ≤ 24 := pm.pm_len
  have CS := Lib.hid (fun w0 => base.pmS t n d r w0)
  have CI := Lib.hid (fun w0 (c : ibase.Mon w0) => base.pmI t n d r w0 c)
  unfold base.GotP at CS CI
  obtain ⟨P, hP⟩ : ∃ P, P = pm.pmL t n d r := ⟨_, rfl⟩
  obtain ⟨K, hK⟩ : ∃ K, K = pm.okB t n d r := ⟨_, rfl⟩
  rw [← hP] at CS CI lp
  rw [← hK] at CS CI
  have HP := Lib.hid hP
  have HK := Lib.hid hK
  clear hP hK
  have tK : (K != K) = false := by simp
  have tK' : (K == K) = true := by simp
  go_wp2_with fail
  refine (CI.out w1 (C.out.below BB.out lt)).mono ?_
  rintro e w2 ⟨ag, cg, gg, rfl, r0, G0, bb⟩
  replace BB := Lib.hid (BB.out.trans (bb.mono BB.out.size))
  have z2 := bb.size
  clear bb
  have RG := Lib.hid r0
  have GRG := Lib.hid G0
  clear r0 G0
  go_wp2_with fail
  refine (CS.out w2).mono ?_
  rintro e w3 ⟨a3, c3, g3, rfl, r0, G0, bb⟩
  replace BB := Lib.hid (BB.out.trans (bb.mono BB.out.size))
  have z3 := bb.size
  replace RG := Lib.hid (RG.out.keep (w' := w3) fun h => bb.block gg (by have := (GRG.out h).2; omega))
  clear bb
  have R3 := Lib.hid r0
  clear r0 G0
  go_wp2_with fail
  refine (seven.samT w3 ag a3 cg c3 gg g3 P RG.out R3.out (by omega)).mono ?_
  rintro e w4 ⟨rfl, bb⟩
  replace BB := Lib.hid (BB.out.trans (bb.mono BB.out.size))
  have z4 := bb.size
  replace RG := Lib.hid (RG.out.keep (w' := w4) fun h => bb.block gg (by have := (GRG.out h).2; omega))
  replace R3 := Lib.hid (R3.out.keep (w' := w4) fun h => bb.block g3 (by have := R3.out.lt (by omega); omega))
  clear bb
  cases K with
  | false =>
    clear tK tK'
    go_wp2_with fail
    refine (seven.samT w4 ag a3 cg c3 gg g3 P RG.out R3.out (by omega)).mono ?_
    rintro e w5 ⟨rfl, bb⟩
    go_wp2
    go_ret
    exact ⟨rfl, BB.out.trans (bb.mono BB.out.size)⟩
  | true =>
    clear tK tK'
    have OK := Lib.hid (pm.okB_iff.1 HK.out.symm)
    have LP := pm.parts_len t n d r n.toNat
    rw [← pm.pm_yes OK.out, ← HP.out] at LP
    have N0 := OK.out.dz.1
    have T0 := OK.out.t0
    have T1 := OK.out.t1
    have R0 := OK.out.r0
    have R1 := OK.out.r1
    have IB := pm.intr_bd OK.out
    have SM := pm.sums_made OK.out
    have N24 := OK.out.dz.2.1
    have CM := md.impl t (r * n) 120000
    unfold md.Ans at CM
    have J9 : md.val t (r * n) 120000 = pm.intr t n r := rfl
    rw [J9, OK.out.md] at CM
    have CMh := Lib.hid CM
    have CD := Lib.hid (fun w0 (c : ibase.Mon w0) => idue.dueI d n w0 c)
    unfold mf.GotD at CD
    have DY := mf.dz_yes OK.out.dz
    obtain ⟨zs, hzs⟩ : ∃ zs, zs = mf.dz d n := ⟨_, rfl⟩
    rw [← hzs] at CD DY
    obtain ⟨nz, rfl⟩ := Int.eq_ofNat_of_zero_le (show 0 ≤ n by omega)
    obtain ⟨R, rfl⟩ := Int.eq_ofNat_of_zero_le R0
    obtain ⟨p, hp⟩ : ∃ p, p = R * nz := ⟨_, rfl⟩
    have pb : p ≤ 240000 := by rw [hp]; exact Nat.le_trans (Nat.mul_le_mul (show R ≤ 10000 by omega) (show nz ≤ 24 by omega)) (by omega)
    have ep : (R : Int) * (nz : Int) = (p : Int) := by rw [hp, Int.natCast_mul]
    clear CM hp hzs
    rw [Int.toNat_natCast] at LP DY
    have MG := Lib.hid (fun i (hi : i < nz) => pm.made_get (t := t) (n := (nz : Int)) (d := d) (r := (R : Int)) OK.out (i := i) (by rw [Int.toNat_natCast]; exact hi))
    rw [Int.toNat_natCast] at MG
    rw [← HP.out] at SM MG
    obtain ⟨J, hJ⟩ : ∃ J, J = pm.intr t (nz : Int) (R : Int) := ⟨_, rfl⟩
    rw [← hJ] at CMh SM IB MG
    rw [ep] at CMh
    have SMI := fun w0 c g r => base.smI w0 (some ⟨g, 0, none⟩) c g P r (by omega)
    have PKI := fun w0 c g r => base.pkI w0 (some ⟨g, 0, none⟩) c g P r (by omega)
    rw [SM] at SMI
    dsimp only at SMI
    rw [show pl.pv P = true from by rw [HP.out]; exact pl.pv_t (pm.pv OK.out)] at PKI
    have ea := RG.out.addr (by omega)
    have rm := RG.out.room
    subst ea
    obtain ⟨g, hg⟩ : ∃ g, g = gg := ⟨_, rfl⟩
    have gB : g < w4.heap.size := by rw [hg]; have := (GRG.out (by omega)).2; omega
    rw [← hg] at RG ⊢
    rw [LP] at SMI PKI rm ⊢
    have SMIh := Lib.hid SMI
    have PKIh := Lib.hid PKI
    have DV := Lib.hid DY
    have IBh := Lib.hid IB
    clear hJ hg GRG SMI PKI SM DY IB CS CI HK
    go_wp2_with fail
    refine (CMh.out w4).mono ?_
    rintro e w5 ⟨rfl, bb⟩
    replace BB := Lib.hid (BB.out.trans (bb.mono BB.out.size))
    have z5 := bb.size
    replace RG := Lib.hid (RG.out.keep (w' := w5) fun h => bb.block g (by omega))
    clear bb
    go_wp2_with fail
    refine (SMIh.out w5 _ g RG.out).mono ?_
    rintro e w6 ⟨rfl, bb⟩
    replace BB := Lib.hid (BB.out.trans (bb.mono BB.out.size))
    have z6 := bb.size
    replace RG := Lib.hid (RG.out.keep (w' := w6) fun h => bb.block g (by omega))
    clear bb
    have XS := Lib.hid (base.Bx.new w6 (0, t, J, 0, 0, 0, 0))
    have zbb : (w6.alloc (.cells #[.int .i64 0, .int .i64 t, .int .i64 J, .int .i64 0, .int .i64 0, .int .i64 0, .int .i64 0] 35)).heap.size = w6.heap.size + 1 := by simp
    have al := fun k hk => Below.heap_alloc w6 (.cells #[.int .i64 0, .int .i64 t, .int .i64 J, .int .i64 0, .int .i64 0, .int .i64 0, .int .i64 0] 35) k hk
    replace RG := Lib.hid (RG.out.keep (w' := w6.alloc (.cells #[.int .i64 0, .int .i64 t, .int .i64 J, .int .i64 0, .int .i64 0, .int .i64 0, .int .i64 0] 35)) fun h => al g (by omega))
    replace BB := Lib.hid (BB.out.alloc BB.out.size (.cells #[.int .i64 0, .int .i64 t, .int .i64 J, .int .i64 0, .int .i64 0, .int .i64 0, .int .i64 0] 35))
    clear al
    go_wp2_with fail
    obtain ⟨bs, hbs⟩ : ∃ bs, bs = w6.heap.size := ⟨_, rfl⟩
    rw [← hbs] at XS zbb ⊢
    generalize w6.alloc (.cells #[.int .i64 0, .int .i64 t, .int .i64 J, .int .i64 0, .int .i64 0, .int .i64 0, .int .i64 0] 35) = W7 at XS BB zbb RG ⊢
    have lbs : bs < W7.heap.size := by omega
    have gbs : g < bs := by omega
    clear hbs
    refine (CD.out W7 (C.out.below BB.out lt)).mono ?_
    rintro e w8 ⟨ad, cd, gd, rfl, rd, Gd, bb⟩
    replace BB := Lib.hid (BB.out.trans (bb.mono BB.out.size))
    have z8 := bb.size
    replace RG := Lib.hid (RG.out.keep (w' := w8) fun h => bb.block g (by omega))
    replace XS := Lib.hid (XS.out.keep (w' := w8) (bb.block bs (by omega)))
    clear bb
    have ed := rd.addr (by rw [DV.out.1]; omega)
    have rmd := rd.room
    rw [DV.out.1] at Gd rmd ⊢
    have gd8 : gd < w8.heap.size := (Gd (by omega)).2
    have RD := Lib.hid rd
    subst ed
    clear rd Gd
    go_wp2
    go_loopw [15] (fun v wr => Below w8.heap.size w8 wr ∧ ∃ k : Nat, k ≤ nz ∧ v = .int .i64 k) (fun v _ => nz - (intOf v).toNat)
    case atStart => exact ⟨Below.refl _ _, 0, by omega, rfl⟩
    case round =>
      obtain ⟨hB, k, hk, rfl⟩ := hrel
      have HBk := Lib.hid hB
      by_cases hlt : k < nz
      · have u1 : decide (k < nz) = true := by simp; omega
        have z1 : (k : Int) < (nz : Int) := by omega
        have z0 : (0 : Int) < (nz : Int) := by omega
        have A := (RG.out.cells k (by omega)).keep (hB.block g (by omega))
        have Z := (RG.out.cells 0 (by omega)).keep (hB.block g (by omega))
        rw [MG.out k hlt] at A
        rw [MG.out 0 (by omega)] at Z
        obtain ⟨a0, a1, a2, _, _, _, _⟩ := A
        obtain ⟨_, b1, b2, _, _, _, _⟩ := Z
        have q := (hB.cell (p := ⟨gd, k, none⟩) gd8).trans (RD.out.cells k (by rw [DV.out.1]; omega))
        rw [DV.out.2 k hlt] at q
        dsimp only at a0 a1 a2 b1 b2
        simp only [Nat.zero_mul, Nat.zero_add] at b1 b2
        have s1 := pm.sv_first t nz k
        have s2 := pm.sv_first J nz k
        have v1 := pm.sv_bd (t := t) T1 (n := nz) (by omega) 0
        have v2 := pm.sv_bd (t := J) IBh.out.2 (n := nz) (by omega) 0
        obtain ⟨x0, hx0⟩ : ∃ x, x = mf.mf d ((k : Int) + 1) := ⟨_, rfl⟩
        obtain ⟨x1, hx1⟩ : ∃ x, x = pm.sv t nz k := ⟨_, rfl⟩
        obtain ⟨x2, hx2⟩ : ∃ x, x = pm.sv J nz k := ⟨_, rfl⟩
        obtain ⟨y1, hy1⟩ : ∃ x, x = pm.sv t nz 0 := ⟨_, rfl⟩
        obtain ⟨y2, hy2⟩ : ∃ x, x = pm.sv J nz 0 := ⟨_, rfl⟩
        rw [← hx0] at a0 q
        rw [← hx1] at a1 s1
        rw [← hx2] at a2 s2
        rw [← hy1] at b1 s1 v1
        rw [← hy2] at b2 s2 v2
        clear hx0 hx1 hx2 hy1 hy2 hB
        obtain ⟨s10, s11⟩ := s1
        obtain ⟨s20, s21⟩ := s2
        obtain ⟨v10, v11⟩ := v1
        obtain ⟨v20, v21⟩ := v2
        have c0 : (x0 != x0) = false := by simp
        have c1 : decide (y1 < x1) = false := by simp; omega
        have c2 : decide (x1 < y1 - 1) = false := by simp; omega
        have c3 : decide (y2 < x2) = false := by simp; omega
        have c4 : decide (x2 < y2 - 1) = false := by simp; omega
        have w1' : IntKind.i64.wrap (y1 - 1) = y1 - 1 := by rw [IntKind.wrap_i64]; omega
        have w2' : IntKind.i64.wrap (y2 - 1) = y2 - 1 := by rw [IntKind.wrap_i64]; omega
        go_wp2_with fail
        go_quiet (fail)
        go_wp2
        go_roundw
        case rel => exact ⟨⟨HBk.out.os, HBk.out.tape, HBk.out.output, HBk.out.size, HBk.out.block⟩, k + 1, by omega, by go_num⟩
        case measure => simp [intOf]; omega
      · have u1 : decide (k < nz) = false := by simp; omega
        obtain rfl : k = nz := by omega
        have RE := Lib.hid (RG.out.keep (w' := wr) fun h => hB.block g (by omega))
        have XE := XS.out.keep (w' := wr) (hB.block bs (by omega))
        obtain ⟨p0, p1, p2, p3, p4, p5, p6⟩ := XE.at_
        simp only [Nat.zero_add] at p0 p1 p2 p3 p4 p5 p6
        have HB8 := Lib.hid hB
        clear XE hB
        go_wp2_with fail
        refine (PKIh.out wr _ g RE.out).mono ?_
        rintro e w9 ⟨rfl, b9⟩
        have B9 := Lib.hid ((BB.out.trans (HB8.out.mono BB.out.size)).trans (b9.mono (by have := BB.out.size; have := HB8.out.size; omega)))
        clear b9
        go_wp2
        go_ret
        exact ⟨rfl, B9.out⟩

theorem isLaw : lift.IsLaw Rows.fnPlanMadeSpec 1 1 := fun _ ds gs h1 h2 => match ds, h1 with | [_], _ => match gs, h2 with | [_], _ => rfl

theorem laid_met (os : Os) : laidMetH Tryd.prog Rows.fnPlanMadeRow.laid ((World.doorLaid Tryd.prog 400 os).forCall (fun _ _ => 0) ⟨#[], #[.slice none 0 0], []⟩).memory :=
  laidMetH_of_parts3 (fuel := 8) (laidMet_of_run' 8 (by kernel_rfl) (by kernel_rfl)) (by kernel_rfl) (by kernel_rfl)

theorem reads (os : Os) {H : Type} (enc : TypeId × Value → H) : ∃ gs places, DataW.whole enc Tryd.prog ((World.doorLaid Tryd.prog 400 os).forCall (fun _ _ => 0) ⟨#[], #[.slice none 0 0], []⟩).memory Tryd.f4.params.toList Rows.fnPlanMadeSpec.vars false (#[.slice none 0 0] : Array Value).toList 8 = some ([.nil], gs, places) :=
  ⟨[Rows.laid_loop_example_g00714_impl_monthLengths], MemPlace.row ⟨2, 0, none⟩ 12, by kernel_rfl⟩

set_option maxRecDepth 100000 in
theorem lifted (os : Os) (started : os.Started) (H : Type) (enc : TypeId × Value → H) (F : Stop.Interp) :
    ReturnsInHanded {} Tryd.checked os 4 .any ((OpenSpec.ofChange Rows.fnPlanMadeSpec).preRow enc Tryd.prog Tryd.f4 [] false Rows.fnPlanMadeRow.laid) (((OpenSpec.ofChange Rows.fnPlanMadeSpec).at F).post enc Tryd.prog Tryd.f4 false true false false) := by
  obtain ⟨gs, places, hx⟩ := reads os enc
  refine lift.law_lift (C := Tryd.checked) (tb := 4) own started (by kernel_rfl) Tryd.func4 laidOut (by kernel_rfl) (by kernel_rfl) (by kernel_rfl) Tryd.underlying4 (by rw [Tryd.params4]; exact isLaw)
    (witness_row_at (enc := enc) (C := Tryd.checked) false (World.doorLaid Tryd.prog 400 os) #[.slice none 0 0] rfl (by kernel_rfl) (by kernel_rfl) (by kernel_rfl)
      (OpenSpec.preRow_of_cond 8 hx (by kernel_rfl) (fun k hk => by cases hk) (by kernel_rfl) (laid_met os))) ?_
  intro W b0 args ds p hval hA hL
  rw [Tryd.params4] at hA hval
  obtain ⟨v0, d0, rfl, rfl, h0⟩ := trodAll_one hA
  obtain ⟨a, len, cap, rfl, hlen, hB⟩ := draw.open_code Tryd.underlying28 Tryd.underlying5 (by kernel_rfl) (hval 0 28 v0 rfl rfl) h0
  by_cases hb : len ≤ 1048576
  · exact walk_small a cap len W hB hb (mon_one hL)
  · exact walk_big a len cap W hlen (by omega)

theorem said : Rows.FnPlanMadeSaid :=
  OpenClaim.holds_of_cond 4 Tryd.f4 rfl rfl rfl rfl rfl rfl rfl ⟨rfl, rfl, rfl, rfl, rfl⟩ rfl rfl rfl rfl rfl (by kernel_rfl) Tryd.func4 (by kernel_rfl)
    (of_decide_eq_true (by kernel_rfl)) (by unfold Func.isWrapper; first | (rw [if_pos (by decide +kernel)]; kernel_rfl) | (rw [if_neg (by decide +kernel)]; exact ⟨rfl, rfl⟩))
    (fun os started H enc _ F => by rw [OpenClaim.pre_eq_preRow]; exact lifted os started H enc F)

theorem plain (f : FuncId) (fn : Func) (hf : Tryd.pinned.checked.prog.funcNamed "loop.example/g00714/laws.FnPlanMade" = some f) (hfn : Tryd.pinned.checked.prog.funcs[f]? = some fn) :
    false = Tryd.pinned.checked.prog.looks [] ∧ ∀ (j : Nat) t, fn.params[j]? = some t → Tryd.pinned.checked.prog.wantsStandIn t = false := by
  obtain rfl : f = 4 := Option.some.inj ((show Tryd.prog.funcNamed "loop.example/g00714/laws.FnPlanMade" = some 4 by kernel_rfl).symm.trans hf) |>.symm
  obtain rfl : fn = Tryd.f4 := (Option.some.inj (Tryd.func4.symm.trans hfn)).symm
  refine ⟨by kernel_rfl, fun j t ht => ?_⟩
  rw [Tryd.params4] at ht
  have hm : t ∈ [28] := by simpa using Array.mem_of_getElem? ht
  have hall : ([28].all fun u => !Tryd.prog.wantsStandIn u) = true := by kernel_rfl
  exact (show Tryd.prog.wantsStandIn t = false by simpa using List.all_eq_true.1 hall t hm)

theorem card : Rows.FnPlanMadeCardSaid :=
  Claim7.holds_tied_plain_at .later [] _ _ _ _ said (fun _ h => by cases h) (by kernel_rfl) (fun _ h => by cases h) fnPlanMade_row_tie rfl ⟨rfl, rfl⟩ (by kernel_rfl) rfl plain (by kernel_rfl)
#print axioms card
end Go.Proofs.YtchpjojndkkmeaaDoor.fnPlanMade
