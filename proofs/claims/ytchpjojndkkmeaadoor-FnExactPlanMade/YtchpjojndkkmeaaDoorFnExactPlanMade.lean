/-
  Proved: for all arguments, the landed PlanMade answers as its model does, in memory of its own; the law laws.FnExactPlanMade returns true and its arguments read as before. Conditions: none beyond the given row (the listed tables are as the program's text lays them).
-/
import Derived.Test.YtchpjojndkkmeaaDoorTie
import Derived.Test.YtchpjojndkkmeaaDoorCards
import Derived.Test.YtchpjojndkkmeaaDoorPmS
import Derived.Test.YtchpjojndkkmeaaDoorIPm
import Derived.Test.YtchpjojndkkmeaaDoorEq7
import Derived.Test.YtchpjojndkkmeaaDoorHd7
import Derived.Carry
namespace Go.Proofs.YtchpjojndkkmeaaDoor.fnExactPlanMade
open Go.ChangeShapes Go.WideShapes Go.ChangeAt Go.RowKit
open Go.ChangeMaps (open_string shut_string)

theorem mon_one {W : World} (h : laidMetH Tryd.prog Rows.fnExactPlanMadeRow.laid W) : ibase.Mon W := by
  rw [MakeChecks.laidMetH_plain _ _ _ (by kernel_rfl)] at h
  exact ibase.mon_of h
theorem own : ownKnob Tryd.prog.godebug = none := by kernel_rfl
theorem laidOut : laidOutB Tryd.prog = true := by kernel_rfl
set_option maxRecDepth 100000 in
set_option maxHeartbeats 8000000 in
theorem walk (t n d r : Int) (w : World) (c : ibase.Mon w) : Calls Tryd.prog 3 #[.int .i64 t, .int .i64 n, .int .i64 d, .int .i64 r] w fun e w' => e = .returned (.bool true) ∧ Below w.heap.size w w' := by
  have C := Lib.hid c
  have lt := c.lt
  clear c
  have lp : (pm.pmL t n d r).length ≤ 24 := pm.pm_len
  have CS := Lib.hid (fun w0 => base.pmS t n d r w0)
  have CI := Lib.hid (fun w0 (c : ibase.Mon w0) => base.pmI t n d r w0 c)
  unfold base.GotP at CS CI
  generalize pm.pmL t n d r = P at CS CI lp
  generalize pm.okB t n d r = K at CS CI
  have tK : (K != K) = false := by simp
  have BB := Lib.hid (Below.refl w.heap.size w)
  go_enter Tryd.func3, Tryd.ntmps3
  go_wp2_with fail
  refine (CS.out w).mono ?_
  rintro e w1 ⟨a3, c3, g3, rfl, r0, G0, bb⟩
  replace BB := Lib.hid (BB.out.trans (bb.mono BB.out.size))
  have z1 := bb.size
  clear bb
  have R3 := Lib.hid r0
  have GR3 := Lib.hid G0
  clear r0 G0
  go_wp2_with fail
  refine (CI.out w1 (C.out.below BB.out lt)).mono ?_
  rintro e w2 ⟨ag, cg, gg, rfl, r0, G0, bb⟩
  replace BB := Lib.hid (BB.out.trans (bb.mono BB.out.size))
  have z2 := bb.size
  replace R3 := Lib.hid (R3.out.keep (w' := w2) fun h => bb.block g3 (by have := (GR3.out h).2; omega))
  clear bb
  have RG := Lib.hid r0
  have GRG := Lib.hid G0
  clear r0 G0
  go_wp2_with fail
  refine (seven.eqT w2 ag a3 cg c3 gg g3 P RG.out R3.out (by omega)).mono ?_
  rintro e w3 ⟨rfl, bb⟩
  replace BB := Lib.hid (BB.out.trans (bb.mono BB.out.size))
  have z3 := bb.size
  replace R3 := Lib.hid (R3.out.keep (w' := w3) fun h => bb.block g3 (by have := (GR3.out h).2; omega))
  replace RG := Lib.hid (RG.out.keep (w' := w3) fun h => bb.block gg (by have := (GRG.out h).2; omega))
  clear bb
  go_wp2_with fail
  refine (seven.mark w3 ag cg gg P RG.out (by omega)).mono ?_
  rintro e w4 ⟨rfl, hk⟩
  have z4 : w4.heap.size = w3.heap.size := hk.size
  have MK := Lib.hid (show seven.Mks w4 ag cg gg P.length from ⟨RG.out.addr, RG.out.room, hk.done⟩)
  replace R3 := Lib.hid (R3.out.keep (w' := w4) fun h => hk.other g3 (fun e => by have := (GR3.out h).2; have := (GRG.out h).1; omega))
  replace BB := Lib.hid (BB.out.trans (hk.below (B := w.heap.size) (fun hp => by have := (GRG.out (by omega)).1; omega)))
  clear hk RG
  go_wp2_with fail
  refine (seven.held w4 ag cg gg P.length MK.out (by omega)).mono ?_
  rintro e w' ⟨rfl, rfl⟩
  have p2 : decide (1 + (P.length : Int) * 7 < 0) = false := by simp; omega
  have p2' : decide (1 + ((P.length * 7 : Nat) : Int) < 0) = false := by simp; omega
  have p3 : (1 + (P.length : Int) * 7 != 1 + (P.length : Int) * 7) = false := by simp
  have p3' : (1 + ((P.length * 7 : Nat) : Int) != 1 + ((P.length * 7 : Nat) : Int)) = false := by simp
  have GMK := Lib.hid GRG.out
  go_wp2_with fail
  refine (CI.out w4 (C.out.below BB.out lt)).mono ?_
  rintro e w5 ⟨ah, ch, gh, rfl, r0, G0, bb⟩
  replace BB := Lib.hid (BB.out.trans (bb.mono BB.out.size))
  have z5 := bb.size
  replace R3 := Lib.hid (R3.out.keep (w' := w5) fun h => bb.block g3 (by have := (GR3.out h).2; omega))
  replace MK := Lib.hid (MK.out.keep (w' := w5) fun h => bb.block gg (by have := (GMK.out h).2; omega))
  clear bb
  have RH := Lib.hid r0
  have GRH := Lib.hid G0
  clear r0 G0
  have P2 := Lib.hid (And.intro p2 p3)
  clear p2 p3
  go_wp2_with fail
  refine (seven.eqT w5 ah a3 ch c3 gh g3 P RH.out R3.out (by omega)).mono ?_
  rintro e w6 ⟨rfl, bb⟩
  replace BB := Lib.hid (BB.out.trans (bb.mono BB.out.size))
  have z6 := bb.size
  replace MK := Lib.hid (MK.out.keep (w' := w6) fun h => bb.block gg (by have := (GMK.out h).2; omega))
  clear bb
  obtain ⟨p2, p3⟩ := P2.out
  go_wp2_with fail
  refine (seven.held w6 ag cg gg P.length MK.out (by omega)).mono ?_
  rintro e w' ⟨rfl, rfl⟩
  go_wp2
  go_ret
  exact ⟨rfl, BB.out⟩

theorem isLaw : lift.IsLaw Rows.fnExactPlanMadeSpec 4 1 := fun _ ds gs h1 h2 => match ds, h1 with | [_, _, _, _], _ => match gs, h2 with | [_], _ => rfl

theorem laid_met (os : Os) : laidMetH Tryd.prog Rows.fnExactPlanMadeRow.laid ((World.doorLaid Tryd.prog 400 os).forCall (fun _ _ => 0) ⟨#[], #[.int .i64 0, .int .i64 0, .int .i64 0, .int .i64 0], []⟩).memory :=
  laidMetH_of_parts3 (fuel := 8) (laidMet_of_run' 8 (by kernel_rfl) (by kernel_rfl)) (by kernel_rfl) (by kernel_rfl)

theorem reads (os : Os) {H : Type} (enc : TypeId × Value → H) : ∃ gs places, DataW.whole enc Tryd.prog ((World.doorLaid Tryd.prog 400 os).forCall (fun _ _ => 0) ⟨#[], #[.int .i64 0, .int .i64 0, .int .i64 0, .int .i64 0], []⟩).memory Tryd.f3.params.toList Rows.fnExactPlanMadeSpec.vars false (#[.int .i64 0, .int .i64 0, .int .i64 0, .int .i64 0] : Array Value).toList 8 = some ([.lit (.int .i64 0), .lit (.int .i64 0), .lit (.int .i64 0), .lit (.int .i64 0)], gs, places) :=
  ⟨[Rows.laid_loop_example_g00714_impl_monthLengths], MemPlace.row ⟨2, 0, none⟩ 12, by kernel_rfl⟩

set_option maxRecDepth 100000 in
theorem lifted (os : Os) (started : os.Started) (H : Type) (enc : TypeId × Value → H) (F : Stop.Interp) :
    ReturnsInHanded {} Tryd.checked os 3 .any ((OpenSpec.ofChange Rows.fnExactPlanMadeSpec).preRow enc Tryd.prog Tryd.f3 [] false Rows.fnExactPlanMadeRow.laid) (((OpenSpec.ofChange Rows.fnExactPlanMadeSpec).at F).post enc Tryd.prog Tryd.f3 false true false false) := by
  obtain ⟨gs, places, hx⟩ := reads os enc
  refine lift.law_lift (C := Tryd.checked) (tb := 4) own started (by kernel_rfl) Tryd.func3 laidOut (by kernel_rfl) (by kernel_rfl) (by kernel_rfl) Tryd.underlying4 (by rw [Tryd.params3]; exact isLaw)
    (witness_row_at (enc := enc) (C := Tryd.checked) false (World.doorLaid Tryd.prog 400 os) #[.int .i64 0, .int .i64 0, .int .i64 0, .int .i64 0] rfl (by kernel_rfl) (by kernel_rfl) (by kernel_rfl)
      (OpenSpec.preRow_of_cond 8 hx (by kernel_rfl) (fun k hk => by cases hk) (by kernel_rfl) (laid_met os))) ?_
  intro W b0 args ds p hval hA hL
  rw [Tryd.params3] at hA hval
  obtain ⟨v0, v1, v2, v3, d0, d1, d2, d3, p0, p1, p2, p3, rfl, rfl, rfl, h0, h1, h2, h3⟩ := trodAll_four hA
  obtain ⟨a0, rfl, rfl, rfl, w0⟩ := open_int Tryd.underlying2 (hval 0 2 v0 rfl rfl) h0
  obtain ⟨a1, rfl, rfl, rfl, w1⟩ := open_int Tryd.underlying2 (hval 1 2 v1 rfl rfl) h1
  obtain ⟨a2, rfl, rfl, rfl, w2⟩ := open_int Tryd.underlying2 (hval 2 2 v2 rfl rfl) h2
  obtain ⟨a3, rfl, rfl, rfl, w3⟩ := open_int Tryd.underlying2 (hval 3 2 v3 rfl rfl) h3
  exact walk a0 a1 a2 a3 W (mon_one hL)

theorem said : Rows.FnExactPlanMadeSaid :=
  OpenClaim.holds_of_cond 3 Tryd.f3 rfl rfl rfl rfl rfl rfl rfl ⟨rfl, rfl, rfl, rfl, rfl⟩ rfl rfl rfl rfl rfl (by kernel_rfl) Tryd.func3 (by kernel_rfl)
    (of_decide_eq_true (by kernel_rfl)) (by unfold Func.isWrapper; first | (rw [if_pos (by decide +kernel)]; kernel_rfl) | (rw [if_neg (by decide +kernel)]; exact ⟨rfl, rfl⟩))
    (fun os started H enc _ F => by rw [OpenClaim.pre_eq_preRow]; exact lifted os started H enc F)

theorem plain (f : FuncId) (fn : Func) (hf : Tryd.pinned.checked.prog.funcNamed "loop.example/g00714/laws.FnExactPlanMade" = some f) (hfn : Tryd.pinned.checked.prog.funcs[f]? = some fn) :
    false = Tryd.pinned.checked.prog.looks [] ∧ ∀ (j : Nat) t, fn.params[j]? = some t → Tryd.pinned.checked.prog.wantsStandIn t = false := by
  obtain rfl : f = 3 := Option.some.inj ((show Tryd.prog.funcNamed "loop.example/g00714/laws.FnExactPlanMade" = some 3 by kernel_rfl).symm.trans hf) |>.symm
  obtain rfl : fn = Tryd.f3 := (Option.some.inj (Tryd.func3.symm.trans hfn)).symm
  refine ⟨by kernel_rfl, fun j t ht => ?_⟩
  rw [Tryd.params3] at ht
  have hm : t ∈ [2, 2, 2, 2] := by simpa using Array.mem_of_getElem? ht
  have hall : ([2, 2, 2, 2].all fun u => !Tryd.prog.wantsStandIn u) = true := by kernel_rfl
  exact (show Tryd.prog.wantsStandIn t = false by simpa using List.all_eq_true.1 hall t hm)

theorem card : Rows.FnExactPlanMadeCardSaid :=
  Claim7.holds_tied_plain_at .later [] _ _ _ _ said (fun _ h => by cases h) (by kernel_rfl) (fun _ h => by cases h) fnExactPlanMade_row_tie rfl ⟨rfl, rfl⟩ (by kernel_rfl) rfl plain (by kernel_rfl)
#print axioms card
end Go.Proofs.YtchpjojndkkmeaaDoor.fnExactPlanMade
