/-
  Proved: for every code, the law of leap years holds of the drawn year; the law laws.FnLeap returns true and its arguments read as before. Conditions: none beyond the given row (the listed tables are as the program's text lays them).
-/
import Derived.Test.YtlpeadkkkmpccabDoorDraw5
namespace Go.Proofs.YtlpeadkkkmpccabDoor.fnLeap
open Go.ChangeShapes Go.WideShapes Go.ChangeAt Go.RowKit
open Go.ChangeMaps (open_string shut_string)

theorem walk_big (a : Option Addr) (len cap : Nat) (w : World) (hl : len ≤ maxLen) (hb : 1048576 < len) : Calls Tryd.prog 5 #[.slice a len cap] w fun e w' => e = .returned (.bool true) ∧ Below w.heap.size w w' := by
  go_enter Tryd.func5, Tryd.ntmps5
  go_wp2_with fail
  refine (draw.bigT a len cap w hb hl).mono ?_
  rintro e w' ⟨rfl, rfl⟩
  go_wp2
  go_ret
  exact ⟨rfl, Below.refl _ _⟩

theorem ok_feb (y : Int) (h1 : 1971 ≤ y) (h2 : y ≤ 2243) : dayOf.ok y 2 29 = cal.lpB y := by
  have n := cal.NY_mono y 2243 (by omega) h2
  have e : cal.NY 2243 = 99711 := by decide
  have c : cal.cum y 2 = 31 := by simp [cal.cum]
  unfold dayOf.ok cal.dayN
  rw [c]
  cases hl : cal.lpB y with
  | true => rw [base.mlen_leap y hl]; simp; omega
  | false => rw [base.mlen_no y hl]; simp
theorem val_first (y : Int) (h1 : 1971 ≤ y) (h2 : y ≤ 2243) : dayOf.val y 1 1 = cal.NY y ∧ dayOf.ok y 1 1 = true := by
  have n := cal.NY_mono y 2243 (by omega) h2
  have e : cal.NY 2243 = 99711 := by decide
  have m := cal.mlen_bd y 1
  have c := cal.cum_1 y
  have d : cal.dayN y 1 1 = cal.NY y := by unfold cal.dayN; omega
  have k : 1970 ≤ y ∧ y ≤ 2243 ∧ 1 ≤ (1 : Int) ∧ (1 : Int) ≤ 12 ∧ 1 ≤ (1 : Int) ∧ 1 ≤ cal.mlen y 1 ∧ cal.dayN y 1 1 ≤ 100000 := by omega
  unfold dayOf.val dayOf.ok
  rw [if_pos k, d]
  exact ⟨rfl, by simp; omega⟩
theorem val_last (y : Int) (h1 : 1971 ≤ y) (h2 : y ≤ 2243) : dayOf.val (y - 1) 12 31 = cal.NY y - 1 ∧ dayOf.ok (y - 1) 12 31 = true := by
  have n := cal.NY_mono y 2243 (by omega) h2
  have e : cal.NY 2243 = 99711 := by decide
  have m : cal.mlen (y - 1) 12 = 31 := by simp [cal.mlen]
  have c := cal.cum_succ (y - 1) 12 (by omega) (by omega)
  have c13 := cal.cum_13 (y - 1)
  have s := cal.NY_succ (y - 1) (by omega)
  rw [show y - 1 + 1 = y from by omega] at s
  rw [show (12 : Int) + 1 = 13 from rfl] at c
  have d : cal.dayN (y - 1) 12 31 = cal.NY y - 1 := by unfold cal.dayN; omega
  have k : 1970 ≤ y - 1 ∧ y - 1 ≤ 2243 ∧ 1 ≤ (12 : Int) ∧ (12 : Int) ≤ 12 ∧ 1 ≤ (31 : Int) ∧ 31 ≤ cal.mlen (y - 1) 12 ∧ cal.dayN (y - 1) 12 31 ≤ 100000 := by omega
  unfold dayOf.val dayOf.ok
  rw [if_pos k, d]
  exact ⟨rfl, by simp; omega⟩

set_option maxHeartbeats 1000000 in
theorem walk_small (a : Option Addr) (len cap : Nat) (w : World) (hb : len ≤ 1048576) (hB : draw.Bytes w a len) (c : base.Mon w) : Calls Tryd.prog 5 #[.slice a len cap] w fun e w' => e = .returned (.bool true) ∧ Below w.heap.size w w' := by
  have HB := Lib.hid hB
  have C := Lib.hid c
  clear hB c
  go_enter Tryd.func5, Tryd.ntmps5
  go_wp2_with fail
  refine (draw.bigF a len cap w hb).mono ?_
  rintro e w' ⟨rfl, rfl⟩
  go_wp2_with fail
  refine (draw.drawLeap a len cap w HB.out hb C.out).mono ?_
  rintro e w1 ⟨y, v, rfl, b1⟩
  have B1 := Lib.hid b1
  have C1 := Lib.hid (draw.mon_below C.out b1)
  clear b1 v
  by_cases hr : 1971 ≤ y ∧ y ≤ 2243
  · obtain ⟨h1, h2⟩ := hr
    have t1 : decide (y < 1971) = false := by simp; omega
    have t2 : decide (2243 < y) = false := by simp; omega
    have K1 := dayOf.impl y 2 29 w1 C1.out
    rw [ok_feb y h1 h2] at K1
    have K2 := dayOf.impl y 1 1 w1 C1.out
    rw [(val_first y h1 h2).1, (val_first y h1 h2).2] at K2
    have K3 := dayOf.impl (y - 1) 12 31 w1 C1.out
    rw [(val_last y h1 h2).1, (val_last y h1 h2).2] at K3
    have H1 := Lib.hid K1
    have H2 := Lib.hid K2
    have H3 := Lib.hid K3
    clear K1 K2 K3
    have bd := cal.NY_bd y (by omega) (by omega)
    obtain ⟨bd1, bd2⟩ := bd
    have t3 : (cal.NY y == cal.NY y - 1 + 1) = true := by simp
    go_wp2_with fail
    refine (base.leap_impl y w1).mono ?_
    rintro e w' ⟨rfl, rfl⟩
    go_wp2_with fail
    refine (base.leap_spec y w1).mono ?_
    rintro e w' ⟨rfl, rfl⟩
    go_wp2_with fail
    refine H1.out.mono ?_
    rintro e w' ⟨rfl, rfl⟩
    go_wp2_with fail
    refine H2.out.mono ?_
    rintro e w' ⟨rfl, rfl⟩
    go_wp2_with fail
    refine H3.out.mono ?_
    rintro e w' ⟨rfl, rfl⟩
    go_wp2
    go_ret
    exact ⟨rfl, B1.out⟩
  · by_cases h1 : y < 1971
    · have t1 : decide (y < 1971) = true := by simp; omega
      clear hr
      go_wp2_with fail
      refine (base.leap_impl y w1).mono ?_
      rintro e w' ⟨rfl, rfl⟩
      go_wp2_with fail
      refine (base.leap_spec y w1).mono ?_
      rintro e w' ⟨rfl, rfl⟩
      go_wp2_with fail
      refine (base.leap_spec y w1).mono ?_
      rintro e w' ⟨rfl, rfl⟩
      go_wp2
      go_ret
      exact ⟨rfl, B1.out⟩
    · have t1 : decide (y < 1971) = false := by simp; omega
      have t2 : decide (2243 < y) = true := by simp; omega
      clear hr
      go_wp2_with fail
      refine (base.leap_impl y w1).mono ?_
      rintro e w' ⟨rfl, rfl⟩
      go_wp2_with fail
      refine (base.leap_spec y w1).mono ?_
      rintro e w' ⟨rfl, rfl⟩
      go_wp2_with fail
      refine (base.leap_spec y w1).mono ?_
      rintro e w' ⟨rfl, rfl⟩
      go_wp2
      go_ret
      exact ⟨rfl, B1.out⟩

theorem walk (a : Option Addr) (len cap : Nat) (w : World) (hl : len ≤ maxLen) (hB : draw.Bytes w a len) (c : base.Mon w) : Calls Tryd.prog 5 #[.slice a len cap] w fun e w' => e = .returned (.bool true) ∧ Below w.heap.size w w' := by
  by_cases hb : len ≤ 1048576
  · exact walk_small a len cap w hb hB c
  · exact walk_big a len cap w hl (by omega)

theorem isLaw : lift.IsLaw Rows.fnLeapSpec 1 1 := fun _ ds gs h1 h2 => match ds, h1 with | [_], _ => match gs, h2 with | [_], _ => rfl

theorem laid_met (os : Os) : laidMetH Tryd.prog Rows.fnLeapRow.laid ((World.doorLaid Tryd.prog 400 os).forCall (fun _ _ => 0) ⟨#[], #[.slice none 0 0], []⟩).memory :=
  laidMetH_of_parts3 (fuel := 8) (laidMet_of_run' 8 (by kernel_rfl) (by kernel_rfl)) (by kernel_rfl) (by kernel_rfl)

theorem reads (os : Os) {H : Type} (enc : TypeId × Value → H) : ∃ gs places, DataW.whole enc Tryd.prog ((World.doorLaid Tryd.prog 400 os).forCall (fun _ _ => 0) ⟨#[], #[.slice none 0 0], []⟩).memory Tryd.f5.params.toList Rows.fnLeapSpec.vars false (#[.slice none 0 0] : Array Value).toList 8 = some ([.nil], gs, places) :=
  ⟨[Rows.laid_loop_example_g00714_impl_monthLengths], MemPlace.row ⟨0, 0, none⟩ 12, by kernel_rfl⟩

set_option maxRecDepth 100000 in
theorem lifted (os : Os) (started : os.Started) (H : Type) (enc : TypeId × Value → H) (F : Stop.Interp) :
    ReturnsInHanded {} Tryd.checked os 5 .any ((OpenSpec.ofChange Rows.fnLeapSpec).preRow enc Tryd.prog Tryd.f5 [] false Rows.fnLeapRow.laid) (((OpenSpec.ofChange Rows.fnLeapSpec).at F).post enc Tryd.prog Tryd.f5 false true false false) := by
  obtain ⟨gs, places, hx⟩ := reads os enc
  refine lift.law_lift (C := Tryd.checked) (tb := 4) base.own started (by kernel_rfl) Tryd.func5 base.laidOut (by kernel_rfl) (by kernel_rfl) (by kernel_rfl) Tryd.underlying4 (by rw [Tryd.params5]; exact isLaw)
    (witness_row_at (enc := enc) (C := Tryd.checked) false (World.doorLaid Tryd.prog 400 os) #[.slice none 0 0] rfl (by kernel_rfl) (by kernel_rfl) (by kernel_rfl)
      (OpenSpec.preRow_of_cond 8 hx (by kernel_rfl) (fun k hk => by cases hk) (by kernel_rfl) (laid_met os))) ?_
  intro W b0 args ds p hval hA hL
  rw [Tryd.params5] at hA hval
  obtain ⟨v0, d0, rfl, rfl, h0⟩ := trodAll_one hA
  obtain ⟨a, len, cap, rfl, hlen, hB⟩ := draw.open_code Tryd.underlying22 Tryd.underlying5 (by kernel_rfl) (hval 0 22 v0 rfl rfl) h0
  exact walk a len cap W hlen hB (base.mon_one hL)

theorem said : Rows.FnLeapSaid :=
  OpenClaim.holds_of_cond 5 Tryd.f5 rfl rfl rfl rfl rfl rfl rfl ⟨rfl, rfl, rfl, rfl, rfl⟩ rfl rfl rfl rfl rfl (by kernel_rfl) Tryd.func5 (by kernel_rfl)
    (of_decide_eq_true (by kernel_rfl)) (by unfold Func.isWrapper; first | (rw [if_pos (by decide +kernel)]; kernel_rfl) | (rw [if_neg (by decide +kernel)]; exact ⟨rfl, rfl⟩))
    (fun os started H enc _ F => by rw [OpenClaim.pre_eq_preRow]; exact lifted os started H enc F)

theorem plain (f : FuncId) (fn : Func) (hf : Tryd.pinned.checked.prog.funcNamed "loop.example/g00714/laws.FnLeap" = some f) (hfn : Tryd.pinned.checked.prog.funcs[f]? = some fn) :
    false = Tryd.pinned.checked.prog.looks [] ∧ ∀ (j : Nat) t, fn.params[j]? = some t → Tryd.pinned.checked.prog.wantsStandIn t = false := by
  obtain rfl : f = 5 := Option.some.inj ((show Tryd.prog.funcNamed "loop.example/g00714/laws.FnLeap" = some 5 by kernel_rfl).symm.trans hf) |>.symm
  obtain rfl : fn = Tryd.f5 := (Option.some.inj (Tryd.func5.symm.trans hfn)).symm
  refine ⟨by kernel_rfl, fun j t ht => ?_⟩
  rw [Tryd.params5] at ht
  have hm : t ∈ [22] := by simpa using Array.mem_of_getElem? ht
  have hall : ([22].all fun u => !Tryd.prog.wantsStandIn u) = true := by kernel_rfl
  exact (show Tryd.prog.wantsStandIn t = false by simpa using List.all_eq_true.1 hall t hm)

theorem card : Rows.FnLeapCardSaid :=
  Claim7.holds_tied_plain_at .later [] _ _ _ _ said (fun _ h => by cases h) (by kernel_rfl) (fun _ h => by cases h) fnLeap_row_tie rfl ⟨rfl, rfl⟩ (by kernel_rfl) rfl plain (by kernel_rfl)
#print axioms card
end Go.Proofs.YtlpeadkkkmpccabDoor.fnLeap
