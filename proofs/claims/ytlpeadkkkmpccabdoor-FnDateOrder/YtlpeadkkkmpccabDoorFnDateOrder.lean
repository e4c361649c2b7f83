/-
  Proved: for every pair of codes, the law of the order of dates holds of the drawn days; the law laws.FnDateOrder returns true and its arguments read as before. Conditions: none beyond the given row (the listed tables are as the program's text lays them).
-/
import Derived.Test.YtlpeadkkkmpccabDoorOrderMath
namespace Go.Proofs.YtlpeadkkkmpccabDoor.fnDateOrder
open Go.ChangeShapes Go.WideShapes Go.ChangeAt Go.RowKit
open Go.ChangeMaps (open_string shut_string)

/-- The text of a day, of the landed function and of the model's. -/
def Txt (t : Int) (s : List UInt8) : Prop :=
  (∀ w, base.Mon w → dec.Pow w → 1 < w.heap.size → Calls Tryd.prog 20 #[.int .i64 t] w fun e w' => e = .returned (.string ⟨s.toArray⟩) ∧ Below w.heap.size w w') ∧
  (∀ w, base.Mon w → Calls Tryd.prog 23 #[.int .i64 t] w fun e w' => e = .returned (.string ⟨s.toArray⟩) ∧ Below w.heap.size w w')
theorem txt_no {t : Int} (h : t < 0 ∨ 100000 < t) : Txt t [] :=
  ⟨fun w _ _ _ => (dec.text_impl_no t w h).mono fun _ _ q => ⟨q.1, q.2 ▸ Below.refl _ _⟩, fun w _ => (dec.text_spec_no t w h).mono fun _ _ q => ⟨q.1, q.2 ▸ Below.refl _ _⟩⟩
theorem txt_yes {t y m d : Int} (h : cal.isDate t y m d) : Txt t (dec.dateL y m d) :=
  ⟨fun w c p q => dec.text_impl t y m d w c p q h, fun w c => dec.text_spec t y m d w c h⟩

theorem walk_big (a1 a2 : Option Addr) (len1 cap1 len2 cap2 : Nat) (w : World) (hl1 : len1 ≤ maxLen) (hl2 : len2 ≤ maxLen) (hb : 1048576 < len1 ∨ 1048576 < len2) : Calls Tryd.prog 4 #[.slice a1 len1 cap1, .slice a2 len2 cap2] w fun e w' => e = .returned (.bool true) ∧ Below w.heap.size w w' := by
  by_cases h1 : 1048576 < len1
  · clear hb
    go_enter Tryd.func4, Tryd.ntmps4
    go_wp2_with fail
    refine (draw.bigT a1 len1 cap1 w h1 hl1).mono ?_
    rintro e w' ⟨rfl, rfl⟩
    go_wp2
    go_ret
    exact ⟨rfl, Below.refl _ _⟩
  · go_enter Tryd.func4, Tryd.ntmps4
    go_wp2_with fail
    refine (draw.bigF a1 len1 cap1 w (by omega)).mono ?_
    rintro e w' ⟨rfl, rfl⟩
    go_wp2_with fail
    refine (draw.bigT a2 len2 cap2 w (by omega) hl2).mono ?_
    rintro e w' ⟨rfl, rfl⟩
    go_wp2
    go_ret
    exact ⟨rfl, Below.refl _ _⟩

set_option maxRecDepth 100000 in
set_option maxHeartbeats 4000000 in
theorem walk_small (a1 a2 : Option Addr) (len1 cap1 len2 cap2 : Nat) (w : World) (hb1 : len1 ≤ 1048576) (hb2 : len2 ≤ 1048576) (hB1 : draw.Bytes w a1 len1) (hB2 : draw.Bytes w a2 len2) (c : base.Mon w) (hp : dec.Pow w) (hw : 1 < w.heap.size) : Calls Tryd.prog 4 #[.slice a1 len1 cap1, .slice a2 len2 cap2] w fun e w' => e = .returned (.bool true) ∧ Below w.heap.size w w' := by
  have HB1 := Lib.hid hB1
  have HB2 := Lib.hid hB2
  have C0 := Lib.hid c
  have P0 := Lib.hid hp
  clear hB1 hB2 c hp
  go_enter Tryd.func4, Tryd.ntmps4
  go_wp2_with fail
  refine (draw.bigF a1 len1 cap1 w hb1).mono ?_
  rintro e w' ⟨rfl, rfl⟩
  go_wp2_with fail
  refine (draw.bigF a2 len2 cap2 w hb2).mono ?_
  rintro e w' ⟨rfl, rfl⟩
  go_wp2_with fail
  refine (draw.drawDateText a1 len1 cap1 w HB1.out hb1 C0.out).mono ?_
  rintro e w1 ⟨x, wf, rfl, b1⟩
  have B1 := Lib.hid b1
  have C1 := Lib.hid (draw.mon_below C0.out b1)
  have HB3 := Lib.hid (HB2.out.below b1)
  have P1 := Lib.hid (P0.out.below b1 hw)
  have hw1 := Nat.lt_of_lt_of_le hw b1.size
  clear b1 wf
  go_wp2_with fail
  refine (draw.drawDateText a2 len2 cap2 w1 HB3.out hb2 C1.out).mono ?_
  rintro e w2 ⟨z, wf, rfl, b2⟩
  have B2 := Lib.hid (B1.out.trans (b2.mono B1.out.size))
  have C2 := Lib.hid (draw.mon_below C1.out b2)
  have P2 := Lib.hid (P1.out.below b2 hw1)
  have hw2 := Nat.lt_of_lt_of_le hw1 b2.size
  clear b2 wf
  by_cases hx : x < 0 ∨ 100000 < x
  · obtain ⟨t, tz⟩ : ∃ t, Txt z t := by
      by_cases hz : z < 0 ∨ 100000 < z
      · exact ⟨_, txt_no hz⟩
      · obtain ⟨y', m', d', hd'⟩ := cal.date_exists z (by omega) (by omega)
        exact ⟨_, txt_yes hd'⟩
    have TX := Lib.hid (txt_no hx)
    have TZ := Lib.hid tz
    clear tz hx
    go_wp2_with fail
    refine (TX.out.1 w2 C2.out P2.out hw2).mono ?_
    rintro e w3 ⟨rfl, b3⟩
    have B3 := Lib.hid (B2.out.trans (b3.mono B2.out.size))
    have C3 := Lib.hid (draw.mon_below C2.out b3)
    have P3 := Lib.hid (P2.out.below b3 hw2)
    have hw3 := Nat.lt_of_lt_of_le hw2 b3.size
    clear b3
    go_wp2_with fail
    refine (TZ.out.1 w3 C3.out P3.out hw3).mono ?_
    rintro e w4 ⟨rfl, b4⟩
    have B4 := Lib.hid (B3.out.trans (b4.mono B3.out.size))
    have C4 := Lib.hid (draw.mon_below C3.out b4)
    have P4 := Lib.hid (P3.out.below b4 hw3)
    have hw4 := Nat.lt_of_lt_of_le hw3 b4.size
    clear b4
    go_wp2_with fail
    refine (TX.out.2 w4 C4.out).mono ?_
    rintro e w5 ⟨rfl, b5⟩
    have B5 := Lib.hid (B4.out.trans (b5.mono B4.out.size))
    have C5 := Lib.hid (draw.mon_below C4.out b5)
    have P5 := Lib.hid (P4.out.below b5 hw4)
    have hw5 := Nat.lt_of_lt_of_le hw4 b5.size
    clear b5
    go_wp2_with fail
    refine (TZ.out.2 w5 C5.out).mono ?_
    rintro e w6 ⟨rfl, b6⟩
    have B6 := Lib.hid (B5.out.trans (b6.mono B5.out.size))
    have C6 := Lib.hid (draw.mon_below C5.out b6)
    have P6 := Lib.hid (P5.out.below b6 hw5)
    have hw6 := Nat.lt_of_lt_of_le hw5 b6.size
    clear b6
    go_wp2_with fail
    refine (TX.out.2 w6 C6.out).mono ?_
    rintro e w7 ⟨rfl, b7⟩
    have B7 := Lib.hid (B6.out.trans (b7.mono B6.out.size))
    have C7 := Lib.hid (draw.mon_below C6.out b7)
    have P7 := Lib.hid (P6.out.below b7 hw6)
    have hw7 := Nat.lt_of_lt_of_le hw6 b7.size
    clear b7
    go_wp2_with fail
    refine (TZ.out.2 w7 C7.out).mono ?_
    rintro e w8 ⟨rfl, b8⟩
    have B8 := Lib.hid (B7.out.trans (b8.mono B7.out.size))
    have C8 := Lib.hid (draw.mon_below C7.out b8)
    have P8 := Lib.hid (P7.out.below b8 hw7)
    have hw8 := Nat.lt_of_lt_of_le hw7 b8.size
    clear b8
    go_wp2
    go_ret
    exact ⟨rfl, B8.out⟩
  · by_cases hz : z < 0 ∨ 100000 < z
    · obtain ⟨y, m, d, hd⟩ := cal.date_exists x (by omega) (by omega)
      have TX := Lib.hid (txt_yes hd)
      have TZ := Lib.hid (txt_no hz)
      have n1 := ordM.not_nil hd
      generalize dec.dateL y m d = s at TX n1
      clear hd hx hz
      go_wp2_with fail
      refine (TX.out.1 w2 C2.out P2.out hw2).mono ?_
      rintro e w3 ⟨rfl, b3⟩
      have B3 := Lib.hid (B2.out.trans (b3.mono B2.out.size))
      have C3 := Lib.hid (draw.mon_below C2.out b3)
      have P3 := Lib.hid (P2.out.below b3 hw2)
      have hw3 := Nat.lt_of_lt_of_le hw2 b3.size
      clear b3
      go_wp2_with fail
      refine (TZ.out.1 w3 C3.out P3.out hw3).mono ?_
      rintro e w4 ⟨rfl, b4⟩
      have B4 := Lib.hid (B3.out.trans (b4.mono B3.out.size))
      have C4 := Lib.hid (draw.mon_below C3.out b4)
      have P4 := Lib.hid (P3.out.below b4 hw3)
      have hw4 := Nat.lt_of_lt_of_le hw3 b4.size
      clear b4
      go_wp2_with fail
      refine (TX.out.2 w4 C4.out).mono ?_
      rintro e w5 ⟨rfl, b5⟩
      have B5 := Lib.hid (B4.out.trans (b5.mono B4.out.size))
      have C5 := Lib.hid (draw.mon_below C4.out b5)
      have P5 := Lib.hid (P4.out.below b5 hw4)
      have hw5 := Nat.lt_of_lt_of_le hw4 b5.size
      clear b5
      go_wp2_with fail
      refine (TZ.out.2 w5 C5.out).mono ?_
      rintro e w6 ⟨rfl, b6⟩
      have B6 := Lib.hid (B5.out.trans (b6.mono B5.out.size))
      have C6 := Lib.hid (draw.mon_below C5.out b6)
      have P6 := Lib.hid (P5.out.below b6 hw5)
      have hw6 := Nat.lt_of_lt_of_le hw5 b6.size
      clear b6
      go_wp2_with fail
      refine (TX.out.2 w6 C6.out).mono ?_
      rintro e w7 ⟨rfl, b7⟩
      have B7 := Lib.hid (B6.out.trans (b7.mono B6.out.size))
      have C7 := Lib.hid (draw.mon_below C6.out b7)
      have P7 := Lib.hid (P6.out.below b7 hw6)
      have hw7 := Nat.lt_of_lt_of_le hw6 b7.size
      clear b7
      go_wp2_with fail
      refine (TZ.out.2 w7 C7.out).mono ?_
      rintro e w8 ⟨rfl, b8⟩
      have B8 := Lib.hid (B7.out.trans (b8.mono B7.out.size))
      have C8 := Lib.hid (draw.mon_below C7.out b8)
      have P8 := Lib.hid (P7.out.below b8 hw7)
      have hw8 := Nat.lt_of_lt_of_le hw7 b8.size
      clear b8
      go_wp2
      go_ret
      exact ⟨rfl, B8.out⟩
    · obtain ⟨y, m, d, hd⟩ := cal.date_exists x (by omega) (by omega)
      obtain ⟨y', m', d', hd'⟩ := cal.date_exists z (by omega) (by omega)
      have HD := Lib.hid hd
      have TX := Lib.hid (txt_yes hd)
      have TZ := Lib.hid (txt_yes hd')
      have n1 := ordM.not_nil hd
      have n2 := ordM.not_nil hd'
      obtain ⟨o1, o2⟩ := ordM.order hd hd'
      have lo := hd.1.2.2.2.2.1
      have yl := hd.1.1
      have yh := hd.1.2.1
      have m1 := hd.1.2.2.1
      have m2 := hd.1.2.2.2.1
      have ml := cal.mlen_bd y m
      have hp := hd.1.2.2.2.2.2.1
      have NX := Lib.hid (cal.date_next hd)
      generalize dec.dateL y m d = s at TX n1 o1 o2
      generalize dec.dateL y' m' d' = t at TZ n2 o1 o2
      clear hd hd'
      go_wp2_with fail
      refine (TX.out.1 w2 C2.out P2.out hw2).mono ?_
      rintro e w3 ⟨rfl, b3⟩
      have B3 := Lib.hid (B2.out.trans (b3.mono B2.out.size))
      have C3 := Lib.hid (draw.mon_below C2.out b3)
      have P3 := Lib.hid (P2.out.below b3 hw2)
      have hw3 := Nat.lt_of_lt_of_le hw2 b3.size
      clear b3
      go_wp2_with fail
      refine (TZ.out.1 w3 C3.out P3.out hw3).mono ?_
      rintro e w4 ⟨rfl, b4⟩
      have B4 := Lib.hid (B3.out.trans (b4.mono B3.out.size))
      have C4 := Lib.hid (draw.mon_below C3.out b4)
      have P4 := Lib.hid (P3.out.below b4 hw3)
      have hw4 := Nat.lt_of_lt_of_le hw3 b4.size
      clear b4
      go_wp2_with fail
      refine (TX.out.2 w4 C4.out).mono ?_
      rintro e w5 ⟨rfl, b5⟩
      have B5 := Lib.hid (B4.out.trans (b5.mono B4.out.size))
      have C5 := Lib.hid (draw.mon_below C4.out b5)
      have P5 := Lib.hid (P4.out.below b5 hw4)
      have hw5 := Nat.lt_of_lt_of_le hw4 b5.size
      clear b5
      go_wp2_with fail
      refine (TZ.out.2 w5 C5.out).mono ?_
      rintro e w6 ⟨rfl, b6⟩
      have B6 := Lib.hid (B5.out.trans (b6.mono B5.out.size))
      have C6 := Lib.hid (draw.mon_below C5.out b6)
      have P6 := Lib.hid (P5.out.below b6 hw5)
      have hw6 := Nat.lt_of_lt_of_le hw5 b6.size
      clear b6
      go_wp2_with fail
      refine (dateOf.impl x y m d w6 C6.out HD.out).mono ?_
      rintro e w' ⟨rfl, rfl⟩
      by_cases hx1 : x < 100000
      · have d1 : decide (x < 100000) = true := by simp; omega
        rcases NX.out hx1 with ⟨q1, nn⟩ | ⟨q1, q2, nn⟩ | ⟨q1, q2, nn⟩
        · have NN := Lib.hid nn
          clear nn q1
          go_wp2_with fail
          refine (dateOf.impl (x + 1) y m (d + 1) w6 C6.out NN.out).mono ?_
          rintro e w' ⟨rfl, rfl⟩
          go_wp2
          go_ret
          exact ⟨rfl, B6.out⟩
        · have e1 : 28 ≤ d := by omega
          obtain ⟨M, hM⟩ : ∃ M, M = m + 1 := ⟨_, rfl⟩
          have e2 : (M == m) = false := by simp; omega
          have e3 : (M == m + 1) = true := by simp; omega
          rw [← hM] at nn
          have NN := Lib.hid nn
          clear nn q1 q2 hp ml lo hM
          go_wp2_with fail
          refine (dateOf.impl (x + 1) y M 1 w6 C6.out NN.out).mono ?_
          rintro e w' ⟨rfl, rfl⟩
          go_wp2
          go_ret
          exact ⟨rfl, B6.out⟩
        · have e1 : 28 ≤ d := by omega
          obtain ⟨M, hM⟩ : ∃ M, M = y + 1 := ⟨_, rfl⟩
          have e2 : (M == y) = false := by simp; omega
          have e3 : (M == y + 1) = true := by simp; omega
          rw [← hM] at nn
          have NN := Lib.hid nn
          subst q2
          clear nn q1 hp ml lo hM
          go_wp2_with fail
          refine (dateOf.impl (x + 1) M 1 1 w6 C6.out NN.out).mono ?_
          rintro e w' ⟨rfl, rfl⟩
          go_wp2
          go_ret
          exact ⟨rfl, B6.out⟩
      · have d1 : decide (x < 100000) = false := by simp; omega
        go_wp2
        go_ret
        exact ⟨rfl, B6.out⟩

theorem walk (a1 a2 : Option Addr) (len1 cap1 len2 cap2 : Nat) (w : World) (hl1 : len1 ≤ maxLen) (hl2 : len2 ≤ maxLen) (hB1 : draw.Bytes w a1 len1) (hB2 : draw.Bytes w a2 len2) (c : base.Mon w) (hp : dec.Pow w) (hw : 1 < w.heap.size) : Calls Tryd.prog 4 #[.slice a1 len1 cap1, .slice a2 len2 cap2] w fun e w' => e = .returned (.bool true) ∧ Below w.heap.size w w' := by
  by_cases hb : 1048576 < len1 ∨ 1048576 < len2
  · exact walk_big a1 a2 len1 cap1 len2 cap2 w hl1 hl2 hb
  · exact walk_small a1 a2 len1 cap1 len2 cap2 w (by omega) (by omega) hB1 hB2 c hp hw

theorem isLaw : lift.IsLaw Rows.fnDateOrderSpec 2 1 := fun _ ds gs h1 h2 => match ds, h1 with | [_, _], _ => match gs, h2 with | [_], _ => rfl

theorem laid_met (os : Os) : laidMetH Tryd.prog Rows.fnDateOrderRow.laid ((World.doorLaid Tryd.prog 400 os).forCall (fun _ _ => 0) ⟨#[], #[.slice none 0 0, .slice none 0 0], []⟩).memory :=
  laidMetH_of_parts3 (fuel := 8) (laidMet_of_run' 8 (by kernel_rfl) (by kernel_rfl)) (by kernel_rfl) (by kernel_rfl)

theorem reads (os : Os) {H : Type} (enc : TypeId × Value → H) : ∃ gs places, DataW.whole enc Tryd.prog ((World.doorLaid Tryd.prog 400 os).forCall (fun _ _ => 0) ⟨#[], #[.slice none 0 0, .slice none 0 0], []⟩).memory Tryd.f4.params.toList Rows.fnDateOrderSpec.vars false (#[.slice none 0 0, .slice none 0 0] : Array Value).toList 8 = some ([.nil, .nil], gs, places) :=
  ⟨[Rows.laid_loop_example_g00714_impl_monthLengths], MemPlace.row ⟨0, 0, none⟩ 12, by kernel_rfl⟩

set_option maxRecDepth 100000 in
theorem lifted (os : Os) (started : os.Started) (H : Type) (enc : TypeId × Value → H) (F : Stop.Interp) :
    ReturnsInHanded {} Tryd.checked os 4 .any ((OpenSpec.ofChange Rows.fnDateOrderSpec).preRow enc Tryd.prog Tryd.f4 [] false Rows.fnDateOrderRow.laid) (((OpenSpec.ofChange Rows.fnDateOrderSpec).at F).post enc Tryd.prog Tryd.f4 false true false false) := by
  obtain ⟨gs, places, hx⟩ := reads os enc
  refine lift.law_lift (C := Tryd.checked) (tb := 4) base.own started (by kernel_rfl) Tryd.func4 base.laidOut (by kernel_rfl) (by kernel_rfl) (by kernel_rfl) Tryd.underlying4 (by rw [Tryd.params4]; exact isLaw)
    (witness_row_at (enc := enc) (C := Tryd.checked) false (World.doorLaid Tryd.prog 400 os) #[.slice none 0 0, .slice none 0 0] rfl (by kernel_rfl) (by kernel_rfl) (by kernel_rfl)
      (OpenSpec.preRow_of_cond 8 hx (by kernel_rfl) (fun k hk => by cases hk) (by kernel_rfl) (laid_met os))) ?_
  intro W b0 args ds p hval hA hL
  rw [Tryd.params4] at hA hval
  obtain ⟨v0, v1, d0, d1, p0, p1, rfl, rfl, rfl, h0, h1⟩ := trodAll_two hA
  obtain ⟨a, len, cap, rfl, hlen, hB⟩ := draw.open_code Tryd.underlying22 Tryd.underlying5 (by kernel_rfl) (hval 0 22 v0 rfl rfl) h0
  obtain ⟨a2, len2, cap2, rfl, hlen2, hB2⟩ := draw.open_code Tryd.underlying22 Tryd.underlying5 (by kernel_rfl) (hval 1 22 v1 rfl rfl) h1
  exact walk a a2 len cap len2 cap2 W hlen hlen2 hB hB2 (dec.mon_four hL) (dec.pow_four hL) (dec.two_four hL)

theorem said : Rows.FnDateOrderSaid :=
  OpenClaim.holds_of_cond 4 Tryd.f4 rfl rfl rfl rfl rfl rfl rfl ⟨rfl, rfl, rfl, rfl, rfl⟩ rfl rfl rfl rfl rfl (by kernel_rfl) Tryd.func4 (by kernel_rfl)
    (of_decide_eq_true (by kernel_rfl)) (by unfold Func.isWrapper; first | (rw [if_pos (by decide +kernel)]; kernel_rfl) | (rw [if_neg (by decide +kernel)]; exact ⟨rfl, rfl⟩))
    (fun os started H enc _ F => by rw [OpenClaim.pre_eq_preRow]; exact lifted os started H enc F)

theorem plain (f : FuncId) (fn : Func) (hf : Tryd.pinned.checked.prog.funcNamed "loop.example/g00714/laws.FnDateOrder" = some f) (hfn : Tryd.pinned.checked.prog.funcs[f]? = some fn) :
    false = Tryd.pinned.checked.prog.looks [] ∧ ∀ (j : Nat) t, fn.params[j]? = some t → Tryd.pinned.checked.prog.wantsStandIn t = false := by
  obtain rfl : f = 4 := Option.some.inj ((show Tryd.prog.funcNamed "loop.example/g00714/laws.FnDateOrder" = some 4 by kernel_rfl).symm.trans hf) |>.symm
  obtain rfl : fn = Tryd.f4 := (Option.some.inj (Tryd.func4.symm.trans hfn)).symm
  refine ⟨by kernel_rfl, fun j t ht => ?_⟩
  rw [Tryd.params4] at ht
  have hm : t ∈ [22, 22] := by simpa using Array.mem_of_getElem? ht
  have hall : ([22, 22].all fun u => !Tryd.prog.wantsStandIn u) = true := by kernel_rfl
  exact (show Tryd.prog.wantsStandIn t = false by simpa using List.all_eq_true.1 hall t hm)

theorem card : Rows.FnDateOrderCardSaid :=
  Claim7.holds_tied_plain_at .later [] _ _ _ _ said (fun _ h => by cases h) (by kernel_rfl) (fun _ h => by cases h) fnDateOrder_row_tie rfl ⟨rfl, rfl⟩ (by kernel_rfl) rfl plain (by kernel_rfl)
#print axioms card
end Go.Proofs.YtlpeadkkkmpccabDoor.fnDateOrder
