/-
  Proved: for every day and count, the landed DueDays answers as its model does, in memory of its own; the law laws.FnExactDueDays returns true and its arguments read as before. Conditions: none beyond the given row (the listed tables are as the program's text lays them).
-/
import Derived.Test.YtlpeadkkkmpccabDoorDue
import Derived.Test.YtlpeadkkkmpccabDoorMarks
namespace Go.Proofs.YtlpeadkkkmpccabDoor.fnExactDueDays
open Go.ChangeShapes Go.WideShapes Go.ChangeAt Go.RowKit
open Go.ChangeMaps (open_string shut_string)

theorem zs_small {f : Int → Int} {n : Int} {zs : List Int} (h : due.Zs f n zs) : zs.length ≤ 24 := by
  rcases h with ⟨_, rfl⟩ | ⟨h1, h2, _, rfl⟩
  · simp
  · rw [due.pre_len]; omega

set_option maxHeartbeats 1000000 in
theorem walk (t n : Int) (w : World) (c : base.Mon w) : Calls Tryd.prog 13 #[.int .i64 t, .int .i64 n] w fun e w' => e = .returned (.bool true) ∧ Below w.heap.size w w' := by
  obtain ⟨f, hlo, hI, hS⟩ := due.mon_fun t
  have lt := c.lt
  have C := Lib.hid c
  have HI := Lib.hid hI
  have HS := Lib.hid hS
  have HL := Lib.hid hlo
  clear c hI hS hlo
  go_enter Tryd.func13, Tryd.ntmps13
  go_wp2_with fail
  refine (due.spec t n f w HS.out HL.out C.out).mono ?_
  rintro e w1 ⟨v0, zs, rfl, hz, own0, b1⟩
  obtain ⟨a0, c0, g0, rfl, R0, G0⟩ := rows.of_owns own0
  have Z := Lib.hid hz
  have RR0 := Lib.hid R0
  have GG0 := Lib.hid G0
  have B1 := Lib.hid b1
  have C1 := Lib.hid (C.out.below b1 lt)
  have small := zs_small hz
  clear hz own0 b1 R0 G0
  go_wp2_with fail
  refine (due.impl t n f w1 HI.out HL.out C1.out).mono ?_
  rintro e w2 ⟨v1, zs1, rfl, hz1, own1, b2⟩
  obtain rfl : zs = zs1 := due.zs_fun Z.out hz1
  obtain ⟨a1, c1, g1, rfl, R1, G1⟩ := rows.of_owns own1
  have RR1 := Lib.hid R1
  have GG1 := Lib.hid G1
  have B2 := Lib.hid b2
  have RR02 := Lib.hid (RR0.out.keep fun h => b2.block g0 (GG0.out h).2)
  clear hz1 own1 b2 R1 G1
  go_wp2_with fail
  refine (rows.eqT w2 a1 a0 c1 c0 g1 g0 zs RR1.out RR02.out (by omega)).mono ?_
  rintro e w3 ⟨rfl, q, hq⟩
  subst hq
  have RR13 := Lib.hid (show rows.Row (w2.drewN q) a1 c1 g1 zs from RR1.out.keep fun _ => rfl)
  go_wp2_with fail
  refine (rows.mark (w2.drewN q) a1 c1 g1 zs RR13.out (by omega)).mono ?_
  rintro e w4 ⟨rfl, hm⟩
  have HM := Lib.hid hm
  have MK := Lib.hid (show rows.Marks w4 a1 c1 g1 zs.length from ⟨RR13.out.addr, RR13.out.room, hm.done⟩)
  clear hm
  have B4 := Lib.hid ((below_drewN (B1.out.trans (B2.out.mono B1.out.size)) q).trans (HM.out.below (B := w.heap.size) (fun hp => Nat.le_trans B1.out.size (GG1.out hp).1)))
  have C4 := Lib.hid (C.out.below B4.out lt)
  have RR04 := Lib.hid (RR02.out.keep (w' := w4) fun h => HM.out.other g0 (fun e => by
    rcases Nat.eq_zero_or_pos zs.length with z | p
    · exact z
    · have := (GG1.out p).1; have := (GG0.out p).2; omega))
  have s4 : w4.heap.size = w2.heap.size := HM.out.size
  have S4 := Lib.hid s4
  clear s4
  go_wp2_with fail
  refine (rows.held w4 a1 c1 g1 zs.length MK.out (by omega)).mono ?_
  rintro e w' ⟨rfl, rfl⟩
  have p1 : decide (1 + (zs.length : Int) < 0) = false := by simp; omega
  go_wp2_with fail
  refine (due.impl t n f w4 HI.out HL.out C4.out).mono ?_
  rintro e w5 ⟨v5, zs5, rfl, hz5, own5, b5⟩
  obtain rfl : zs = zs5 := due.zs_fun Z.out hz5
  obtain ⟨a5, c5, g5, rfl, R5, G5⟩ := rows.of_owns own5
  have RR5 := Lib.hid R5
  have B5 := Lib.hid (B4.out.trans (b5.mono B4.out.size))
  have RR05 := Lib.hid (RR04.out.keep (w' := w5) fun h => b5.block g0 (by have := (GG0.out h).2; have := B2.out.size; rw [S4.out]; omega))
  have MK5 := Lib.hid (MK.out.keep (w' := w5) fun h => b5.block g1 (by rw [S4.out]; exact (GG1.out h).2))
  clear hz5 own5 b5 R5 G5
  go_wp2_with fail
  refine (rows.eqT w5 a5 a0 c5 c0 g5 g0 zs RR5.out RR05.out (by omega)).mono ?_
  rintro e w6 ⟨rfl, q6, hq6⟩
  subst hq6
  have MK6 := Lib.hid (show rows.Marks (w5.drewN q6) a1 c1 g1 zs.length from MK5.out.keep fun _ => rfl)
  go_wp2_with fail
  refine (rows.held (w5.drewN q6) a1 c1 g1 zs.length MK6.out (by omega)).mono ?_
  rintro e w' ⟨rfl, rfl⟩
  go_wp2
  go_ret
  exact ⟨rfl, below_drewN B5.out q6⟩

theorem isLaw : lift.IsLaw Rows.fnExactDueDaysSpec 2 1 := fun _ ds gs h1 h2 => match ds, h1 with | [_, _], _ => match gs, h2 with | [_], _ => rfl

theorem laid_met (os : Os) : laidMetH Tryd.prog Rows.fnExactDueDaysRow.laid ((World.doorLaid Tryd.prog 400 os).forCall (fun _ _ => 0) ⟨#[], #[.int .i64 0, .int .i64 0], []⟩).memory :=
  laidMetH_of_parts3 (fuel := 8) (laidMet_of_run' 8 (by kernel_rfl) (by kernel_rfl)) (by kernel_rfl) (by kernel_rfl)

theorem reads (os : Os) {H : Type} (enc : TypeId × Value → H) : ∃ gs places, DataW.whole enc Tryd.prog ((World.doorLaid Tryd.prog 400 os).forCall (fun _ _ => 0) ⟨#[], #[.int .i64 0, .int .i64 0], []⟩).memory Tryd.f13.params.toList Rows.fnExactDueDaysSpec.vars false (#[.int .i64 0, .int .i64 0] : Array Value).toList 8 = some ([.lit (.int .i64 0), .lit (.int .i64 0)], gs, places) :=
  ⟨[Rows.laid_loop_example_g00714_impl_monthLengths], MemPlace.row ⟨0, 0, none⟩ 12, by kernel_rfl⟩

set_option maxRecDepth 100000 in
theorem lifted (os : Os) (started : os.Started) (H : Type) (enc : TypeId × Value → H) (F : Stop.Interp) :
    ReturnsInHanded {} Tryd.checked os 13 .any ((OpenSpec.ofChange Rows.fnExactDueDaysSpec).preRow enc Tryd.prog Tryd.f13 [] false Rows.fnExactDueDaysRow.laid) (((OpenSpec.ofChange Rows.fnExactDueDaysSpec).at F).post enc Tryd.prog Tryd.f13 false true false false) := by
  obtain ⟨gs, places, hx⟩ := reads os enc
  refine lift.law_lift (C := Tryd.checked) (tb := 4) base.own started (by kernel_rfl) Tryd.func13 base.laidOut (by kernel_rfl) (by kernel_rfl) (by kernel_rfl) Tryd.underlying4 (by rw [Tryd.params13]; exact isLaw)
    (witness_row_at (enc := enc) (C := Tryd.checked) false (World.doorLaid Tryd.prog 400 os) #[.int .i64 0, .int .i64 0] rfl (by kernel_rfl) (by kernel_rfl) (by kernel_rfl)
      (OpenSpec.preRow_of_cond 8 hx (by kernel_rfl) (fun k hk => by cases hk) (by kernel_rfl) (laid_met os))) ?_
  intro W b0 args ds p hval hA hL
  rw [Tryd.params13] at hA hval
  obtain ⟨v0, v1, d0, d1, p0, p1, rfl, rfl, rfl, h0, h1⟩ := trodAll_two hA
  obtain ⟨a0, rfl, rfl, rfl, w0⟩ := open_int Tryd.underlying2 (hval 0 2 v0 rfl rfl) h0
  obtain ⟨a1, rfl, rfl, rfl, w1⟩ := open_int Tryd.underlying2 (hval 1 2 v1 rfl rfl) h1
  exact walk a0 a1 W (base.mon_one hL)

theorem said : Rows.FnExactDueDaysSaid :=
  OpenClaim.holds_of_cond 13 Tryd.f13 rfl rfl rfl rfl rfl rfl rfl ⟨rfl, rfl, rfl, rfl, rfl⟩ rfl rfl rfl rfl rfl (by kernel_rfl) Tryd.func13 (by kernel_rfl)
    (of_decide_eq_true (by kernel_rfl)) (by unfold Func.isWrapper; first | (rw [if_pos (by decide +kernel)]; kernel_rfl) | (rw [if_neg (by decide +kernel)]; exact ⟨rfl, rfl⟩))
    (fun os started H enc _ F => by rw [OpenClaim.pre_eq_preRow]; exact lifted os started H enc F)

theorem plain (f : FuncId) (fn : Func) (hf : Tryd.pinned.checked.prog.funcNamed "loop.example/g00714/laws.FnExactDueDays" = some f) (hfn : Tryd.pinned.checked.prog.funcs[f]? = some fn) :
    false = Tryd.pinned.checked.prog.looks [] ∧ ∀ (j : Nat) t, fn.params[j]? = some t → Tryd.pinned.checked.prog.wantsStandIn t = false := by
  obtain rfl : f = 13 := Option.some.inj ((show Tryd.prog.funcNamed "loop.example/g00714/laws.FnExactDueDays" = some 13 by kernel_rfl).symm.trans hf) |>.symm
  obtain rfl : fn = Tryd.f13 := (Option.some.inj (Tryd.func13.symm.trans hfn)).symm
  refine ⟨by kernel_rfl, fun j t ht => ?_⟩
  rw [Tryd.params13] at ht
  have hm : t ∈ [2, 2] := by simpa using Array.mem_of_getElem? ht
  have hall : ([2, 2].all fun u => !Tryd.prog.wantsStandIn u) = true := by kernel_rfl
  exact (show Tryd.prog.wantsStandIn t = false by simpa using List.all_eq_true.1 hall t hm)

theorem card : Rows.FnExactDueDaysCardSaid :=
  Claim7.holds_tied_plain_at .later [] _ _ _ _ said (fun _ h => by cases h) (by kernel_rfl) (fun _ h => by cases h) fnExactDueDays_row_tie rfl ⟨rfl, rfl⟩ (by kernel_rfl) rfl plain (by kernel_rfl)
#print axioms card
end Go.Proofs.YtlpeadkkkmpccabDoor.fnExactDueDays
