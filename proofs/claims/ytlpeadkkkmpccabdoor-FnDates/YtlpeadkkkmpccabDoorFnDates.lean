/-
  Proved: for every code, the law of days and dates holds of the drawn day and the drawn date; the law laws.FnDates returns true and its arguments read as before. Conditions: none beyond the given row (the listed tables are as the program's text lays them).
-/
import Derived.Test.YtlpeadkkkmpccabDoorDraw5
import Derived.Test.YtlpeadkkkmpccabDoorReadMath
import Derived.Test.YtlpeadkkkmpccabDoorTabs
namespace Go.Proofs.YtlpeadkkkmpccabDoor.fnDates
open Go.ChangeShapes Go.WideShapes Go.ChangeAt Go.RowKit
open Go.ChangeMaps (open_string shut_string)

theorem walk_big (a : Option Addr) (len cap : Nat) (w : World) (hl : len ≤ maxLen) (hb : 1048576 < len) : Calls Tryd.prog 3 #[.slice a len cap] w fun e w' => e = .returned (.bool true) ∧ Below w.heap.size w w' := by
  go_enter Tryd.func3, Tryd.ntmps3
  go_wp2_with fail
  refine (draw.bigT a len cap w hb hl).mono ?_
  rintro e w' ⟨rfl, rfl⟩
  go_wp2
  go_ret
  exact ⟨rfl, Below.refl _ _⟩

theorem val_date {u v k : Int} (h : dayOf.ok u v k = true) : cal.isDate (dayOf.val u v k) u v k := by
  have h' := of_decide_eq_true h
  exact ⟨h', (show dayOf.val u v k = cal.dayN u v k from if_pos h').symm⟩
theorem of_date {n u v k : Int} (h : cal.isDate n u v k) : dayOf.val u v k = n ∧ dayOf.ok u v k = true := ⟨(show dayOf.val u v k = cal.dayN u v k from if_pos h.1).trans h.2, decide_eq_true h.1⟩
theorem of_zero : dayOf.val 0 0 0 = 0 ∧ dayOf.ok 0 0 0 = false := dayOf.no_of (by omega)

set_option maxHeartbeats 4000000 in
theorem walk_small (a : Option Addr) (len cap : Nat) (w : World) (hb : len ≤ 1048576) (hB : draw.Bytes w a len) (c : base.Mon w) (hp : dec.Pow w) (hw : 1 < w.heap.size) : Calls Tryd.prog 3 #[.slice a len cap] w fun e w' => e = .returned (.bool true) ∧ Below w.heap.size w w' := by
  have HB := Lib.hid hB
  have C := Lib.hid c
  have HP := Lib.hid hp
  clear hB c hp
  go_enter Tryd.func3, Tryd.ntmps3
  go_wp2_with fail
  refine (draw.bigF a len cap w hb).mono ?_
  rintro e w' ⟨rfl, rfl⟩
  go_wp2_with fail
  refine (draw.drawDateOf a len cap w HB.out hb C.out).mono ?_
  rintro e w1 ⟨t, wf, rfl, b1⟩
  have B1 := Lib.hid b1
  have C1 := Lib.hid (draw.mon_below C.out b1)
  have HB1 := Lib.hid (HB.out.below b1)
  have P1 := Lib.hid (HP.out.below b1 hw)
  have hw1 := Nat.lt_of_lt_of_le hw b1.size
  clear b1 wf
  by_cases ht : t < 0 ∨ 100000 < t
  · have HT := Lib.hid ht
    have DO := Lib.hid (fun (w : World) (_ : base.Mon w) => dateOf.impl_no t w ht)
    have DS := Lib.hid (fun (w : World) (c : base.Mon w) => of_zero.1 ▸ of_zero.2 ▸ dayOf.spec 0 0 0 w c)
    by_cases h1 : t < 0
    · have d1 : decide (t < 0) = true := by simp; omega
      clear ht
      go_wp2_with fail
      refine (DO.out w1 C1.out).mono ?_
      rintro e w' ⟨rfl, rfl⟩
      go_wp2_with fail
      refine (DS.out w1 C1.out).mono ?_
      rintro e w2 ⟨rfl, b2⟩
      have B2 := Lib.hid (B1.out.trans (b2.mono B1.out.size))
      have C2 := Lib.hid (draw.mon_below C1.out b2)
      have HB2 := Lib.hid (HB1.out.below b2)
      have P2 := Lib.hid (P1.out.below b2 hw1)
      have hw2 := Nat.lt_of_lt_of_le hw1 b2.size
      clear b2
      go_wp2_with fail
      refine (draw.drawDayOf a len cap w2 HB2.out hb C2.out).mono ?_
      rintro e w3 ⟨u, v, k, f1, f2, f3, rfl, b3⟩
      have B3 := Lib.hid (B2.out.trans (b3.mono B2.out.size))
      have C3 := Lib.hid (draw.mon_below C2.out b3)
      have P3 := Lib.hid (P2.out.below b3 hw2)
      have hw3 := Nat.lt_of_lt_of_le hw2 b3.size
      clear b3 f1 f2 f3
      have DI := Lib.hid (dayOf.impl u v k w3 C3.out)
      have DX := Lib.hid (dayOf.spec u v k w3 C3.out)
      have VD := Lib.hid (fun h => val_date (u := u) (v := v) (k := k) h)
      generalize dayOf.val u v k = x at DI DX VD
      generalize dayOf.ok u v k = q at DI DX VD
      go_wp2_with fail
      refine DI.out.mono ?_
      rintro e w' ⟨rfl, rfl⟩
      go_wp2_with fail
      refine DX.out.mono ?_
      rintro e w4 ⟨rfl, b4⟩
      have B4 := Lib.hid (B3.out.trans (b4.mono B3.out.size))
      have C4 := Lib.hid (draw.mon_below C3.out b4)
      have P4 := Lib.hid (P3.out.below b4 hw3)
      have hw4 := Nat.lt_of_lt_of_le hw3 b4.size
      clear b4
      cases q with
      | false =>
        go_wp2_with fail
        refine (dec.text_impl_no t w4 HT.out).mono ?_
        rintro e w' ⟨rfl, rfl⟩
        go_wp2
        go_ret
        exact ⟨rfl, B4.out⟩
      | true =>
        have VX := Lib.hid (VD.out rfl)
        go_wp2_with fail
        refine (dateOf.impl x u v k w4 C4.out VX.out).mono ?_
        rintro e w' ⟨rfl, rfl⟩
        go_wp2_with fail
        refine (dec.text_impl_no t w4 HT.out).mono ?_
        rintro e w' ⟨rfl, rfl⟩
        go_wp2
        go_ret
        exact ⟨rfl, B4.out⟩
    · have d1 : decide (t < 0) = false := by simp; omega
      have d2 : decide (100000 < t) = true := by simp; omega
      clear ht
      go_wp2_with fail
      refine (DO.out w1 C1.out).mono ?_
      rintro e w' ⟨rfl, rfl⟩
      go_wp2_with fail
      refine (DS.out w1 C1.out).mono ?_
      rintro e w2 ⟨rfl, b2⟩
      have B2 := Lib.hid (B1.out.trans (b2.mono B1.out.size))
      have C2 := Lib.hid (draw.mon_below C1.out b2)
      have HB2 := Lib.hid (HB1.out.below b2)
      have P2 := Lib.hid (P1.out.below b2 hw1)
      have hw2 := Nat.lt_of_lt_of_le hw1 b2.size
      clear b2
      go_wp2_with fail
      refine (draw.drawDayOf a len cap w2 HB2.out hb C2.out).mono ?_
      rintro e w3 ⟨u, v, k, f1, f2, f3, rfl, b3⟩
      have B3 := Lib.hid (B2.out.trans (b3.mono B2.out.size))
      have C3 := Lib.hid (draw.mon_below C2.out b3)
      have P3 := Lib.hid (P2.out.below b3 hw2)
      have hw3 := Nat.lt_of_lt_of_le hw2 b3.size
      clear b3 f1 f2 f3
      have DI := Lib.hid (dayOf.impl u v k w3 C3.out)
      have DX := Lib.hid (dayOf.spec u v k w3 C3.out)
      have VD := Lib.hid (fun h => val_date (u := u) (v := v) (k := k) h)
      generalize dayOf.val u v k = x at DI DX VD
      generalize dayOf.ok u v k = q at DI DX VD
      go_wp2_with fail
      refine DI.out.mono ?_
      rintro e w' ⟨rfl, rfl⟩
      go_wp2_with fail
      refine DX.out.mono ?_
      rintro e w4 ⟨rfl, b4⟩
      have B4 := Lib.hid (B3.out.trans (b4.mono B3.out.size))
      have C4 := Lib.hid (draw.mon_below C3.out b4)
      have P4 := Lib.hid (P3.out.below b4 hw3)
      have hw4 := Nat.lt_of_lt_of_le hw3 b4.size
      clear b4
      cases q with
      | false =>
        go_wp2_with fail
        refine (dec.text_impl_no t w4 HT.out).mono ?_
        rintro e w' ⟨rfl, rfl⟩
        go_wp2
        go_ret
        exact ⟨rfl, B4.out⟩
      | true =>
        have VX := Lib.hid (VD.out rfl)
        go_wp2_with fail
        refine (dateOf.impl x u v k w4 C4.out VX.out).mono ?_
        rintro e w' ⟨rfl, rfl⟩
        go_wp2_with fail
        refine (dec.text_impl_no t w4 HT.out).mono ?_
        rintro e w' ⟨rfl, rfl⟩
        go_wp2
        go_ret
        exact ⟨rfl, B4.out⟩
  · obtain ⟨y, m, d, hd⟩ := cal.date_exists t (by omega) (by omega)
    have HD := Lib.hid hd
    have DO := Lib.hid (fun (w : World) (c : base.Mon w) => dateOf.impl t y m d w c hd)
    have DS := Lib.hid (fun (w : World) (c : base.Mon w) => (of_date hd).1 ▸ (of_date hd).2 ▸ dayOf.spec y m d w c)
    have DI2 := Lib.hid (fun (w : World) (c : base.Mon w) => (of_date hd).1 ▸ (of_date hd).2 ▸ dayOf.impl y m d w c)
    have d1 : decide (t < 0) = false := by simp; omega
    have d2 : decide (100000 < t) = false := by simp; omega
    clear hd ht
    go_wp2_with fail
    refine (DO.out w1 C1.out).mono ?_
    rintro e w' ⟨rfl, rfl⟩
    go_wp2_with fail
    refine (DS.out w1 C1.out).mono ?_
    rintro e w2 ⟨rfl, b2⟩
    have B2 := Lib.hid (B1.out.trans (b2.mono B1.out.size))
    have C2 := Lib.hid (draw.mon_below C1.out b2)
    have HB2 := Lib.hid (HB1.out.below b2)
    have P2 := Lib.hid (P1.out.below b2 hw1)
    have hw2 := Nat.lt_of_lt_of_le hw1 b2.size
    clear b2
    go_wp2_with fail
    refine (draw.drawDayOf a len cap w2 HB2.out hb C2.out).mono ?_
    rintro e w3 ⟨u, v, k, f1, f2, f3, rfl, b3⟩
    have B3 := Lib.hid (B2.out.trans (b3.mono B2.out.size))
    have C3 := Lib.hid (draw.mon_below C2.out b3)
    have P3 := Lib.hid (P2.out.below b3 hw2)
    have hw3 := Nat.lt_of_lt_of_le hw2 b3.size
    clear b3 f1 f2 f3
    have DI := Lib.hid (dayOf.impl u v k w3 C3.out)
    have DX := Lib.hid (dayOf.spec u v k w3 C3.out)
    have VD := Lib.hid (fun h => val_date (u := u) (v := v) (k := k) h)
    generalize dayOf.val u v k = x at DI DX VD
    generalize dayOf.ok u v k = q at DI DX VD
    go_wp2_with fail
    refine DI.out.mono ?_
    rintro e w' ⟨rfl, rfl⟩
    go_wp2_with fail
    refine DX.out.mono ?_
    rintro e w4 ⟨rfl, b4⟩
    have B4 := Lib.hid (B3.out.trans (b4.mono B3.out.size))
    have C4 := Lib.hid (draw.mon_below C3.out b4)
    have P4 := Lib.hid (P3.out.below b4 hw3)
    have hw4 := Nat.lt_of_lt_of_le hw3 b4.size
    clear b4
    cases q with
    | false =>
      go_wp2_with fail
      refine (DI2.out w4 C4.out).mono ?_
      rintro e w' ⟨rfl, rfl⟩
      go_wp2_with fail
      refine (dec.text_impl t y m d w4 C4.out P4.out hw4 HD.out).mono ?_
      rintro e w5 ⟨rfl, b5⟩
      have B5 := Lib.hid (B4.out.trans (b5.mono B4.out.size))
      have C5 := Lib.hid (draw.mon_below C4.out b5)
      clear b5
      go_wp2_with fail
      refine (read.impl_text HD.out w5 C5.out).mono ?_
      rintro e w' ⟨rfl, rfl⟩
      go_wp2
      go_ret
      exact ⟨rfl, B5.out⟩
    | true =>
      have VX := Lib.hid (VD.out rfl)
      go_wp2_with fail
      refine (dateOf.impl x u v k w4 C4.out VX.out).mono ?_
      rintro e w' ⟨rfl, rfl⟩
      go_wp2_with fail
      refine (DI2.out w4 C4.out).mono ?_
      rintro e w' ⟨rfl, rfl⟩
      go_wp2_with fail
      refine (dec.text_impl t y m d w4 C4.out P4.out hw4 HD.out).mono ?_
      rintro e w5 ⟨rfl, b5⟩
      have B5 := Lib.hid (B4.out.trans (b5.mono B4.out.size))
      have C5 := Lib.hid (draw.mon_below C4.out b5)
      clear b5
      go_wp2_with fail
      refine (read.impl_text HD.out w5 C5.out).mono ?_
      rintro e w' ⟨rfl, rfl⟩
      go_wp2
      go_ret
      exact ⟨rfl, B5.out⟩

theorem walk (a : Option Addr) (len cap : Nat) (w : World) (hl : len ≤ maxLen) (hB : draw.Bytes w a len) (c : base.Mon w) (hp : dec.Pow w) (hw : 1 < w.heap.size) : Calls Tryd.prog 3 #[.slice a len cap] w fun e w' => e = .returned (.bool true) ∧ Below w.heap.size w w' := by
  by_cases hb : 1048576 < len
  · exact walk_big a len cap w hl hb
  · exact walk_small a len cap w (by omega) hB c hp hw

theorem isLaw : lift.IsLaw Rows.fnDatesSpec 1 1 := fun _ ds gs h1 h2 => match ds, h1 with | [_], _ => match gs, h2 with | [_], _ => rfl

theorem laid_met (os : Os) : laidMetH Tryd.prog Rows.fnDatesRow.laid ((World.doorLaid Tryd.prog 400 os).forCall (fun _ _ => 0) ⟨#[], #[.slice none 0 0], []⟩).memory :=
  laidMetH_of_parts3 (fuel := 8) (laidMet_of_run' 8 (by kernel_rfl) (by kernel_rfl)) (by kernel_rfl) (by kernel_rfl)

theorem reads (os : Os) {H : Type} (enc : TypeId × Value → H) : ∃ gs places, DataW.whole enc Tryd.prog ((World.doorLaid Tryd.prog 400 os).forCall (fun _ _ => 0) ⟨#[], #[.slice none 0 0], []⟩).memory Tryd.f3.params.toList Rows.fnDatesSpec.vars false (#[.slice none 0 0] : Array Value).toList 8 = some ([.nil], gs, places) :=
  ⟨[Rows.laid_loop_example_g00714_impl_monthLengths], MemPlace.row ⟨0, 0, none⟩ 12, by kernel_rfl⟩

set_option maxRecDepth 100000 in
theorem lifted (os : Os) (started : os.Started) (H : Type) (enc : TypeId × Value → H) (F : Stop.Interp) :
    ReturnsInHanded {} Tryd.checked os 3 .any ((OpenSpec.ofChange Rows.fnDatesSpec).preRow enc Tryd.prog Tryd.f3 [] false Rows.fnDatesRow.laid) (((OpenSpec.ofChange Rows.fnDatesSpec).at F).post enc Tryd.prog Tryd.f3 false true false false) := by
  obtain ⟨gs, places, hx⟩ := reads os enc
  refine lift.law_lift (C := Tryd.checked) (tb := 4) base.own started (by kernel_rfl) Tryd.func3 base.laidOut (by kernel_rfl) (by kernel_rfl) (by kernel_rfl) Tryd.underlying4 (by rw [Tryd.params3]; exact isLaw)
    (witness_row_at (enc := enc) (C := Tryd.checked) false (World.doorLaid Tryd.prog 400 os) #[.slice none 0 0] rfl (by kernel_rfl) (by kernel_rfl) (by kernel_rfl)
      (OpenSpec.preRow_of_cond 8 hx (by kernel_rfl) (fun k hk => by cases hk) (by kernel_rfl) (laid_met os))) ?_
  intro W b0 args ds p hval hA hL
  rw [Tryd.params3] at hA hval
  obtain ⟨v0, d0, rfl, rfl, h0⟩ := trodAll_one hA
  obtain ⟨a, len, cap, rfl, hlen, hB⟩ := draw.open_code Tryd.underlying22 Tryd.underlying5 (by kernel_rfl) (hval 0 22 v0 rfl rfl) h0
  exact walk a len cap W hlen hB (dec.mon_four hL) (dec.pow_four hL) (dec.two_four hL)

theorem said : Rows.FnDatesSaid :=
  OpenClaim.holds_of_cond 3 Tryd.f3 rfl rfl rfl rfl rfl rfl rfl ⟨rfl, rfl, rfl, rfl, rfl⟩ rfl rfl rfl rfl rfl (by kernel_rfl) Tryd.func3 (by kernel_rfl)
    (of_decide_eq_true (by kernel_rfl)) (by unfold Func.isWrapper; first | (rw [if_pos (by decide +kernel)]; kernel_rfl) | (rw [if_neg (by decide +kernel)]; exact ⟨rfl, rfl⟩))
    (fun os started H enc _ F => by rw [OpenClaim.pre_eq_preRow]; exact lifted os started H enc F)

theorem plain (f : FuncId) (fn : Func) (hf : Tryd.pinned.checked.prog.funcNamed "loop.example/g00714/laws.FnDates" = some f) (hfn : Tryd.pinned.checked.prog.funcs[f]? = some fn) :
    false = Tryd.pinned.checked.prog.looks [] ∧ ∀ (j : Nat) t, fn.params[j]? = some t → Tryd.pinned.checked.prog.wantsStandIn t = false := by
  obtain rfl : f = 3 := Option.some.inj ((show Tryd.prog.funcNamed "loop.example/g00714/laws.FnDates" = some 3 by kernel_rfl).symm.trans hf) |>.symm
  obtain rfl : fn = Tryd.f3 := (Option.some.inj (Tryd.func3.symm.trans hfn)).symm
  refine ⟨by kernel_rfl, fun j t ht => ?_⟩
  rw [Tryd.params3] at ht
  have hm : t ∈ [22] := by simpa using Array.mem_of_getElem? ht
  have hall : ([22].all fun u => !Tryd.prog.wantsStandIn u) = true := by kernel_rfl
  exact (show Tryd.prog.wantsStandIn t = false by simpa using List.all_eq_true.1 hall t hm)

theorem card : Rows.FnDatesCardSaid :=
  Claim7.holds_tied_plain_at .later [] _ _ _ _ said (fun _ h => by cases h) (by kernel_rfl) (fun _ h => by cases h) fnDates_row_tie rfl ⟨rfl, rfl⟩ (by kernel_rfl) rfl plain (by kernel_rfl)
#print axioms card
end Go.Proofs.YtlpeadkkkmpccabDoor.fnDates
