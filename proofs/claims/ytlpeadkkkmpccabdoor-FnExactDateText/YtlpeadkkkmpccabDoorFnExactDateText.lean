/-
  Proved: for every number, the landed DateText answers as its model does; the law laws.FnExactDateText returns true and its arguments read as before. Conditions: none beyond the given row (the listed tables are as the program's text lays them).
-/
import Derived.Test.YtlpeadkkkmpccabDoorTabs
namespace Go.Proofs.YtlpeadkkkmpccabDoor.fnExactDateText
open Go.ChangeShapes Go.WideShapes Go.ChangeAt Go.RowKit
open Go.ChangeMaps (open_string shut_string)

theorem walk (n : Int) (w : World) (c : base.Mon w) (hp : dec.Pow w) (hw : 1 < w.heap.size) : Calls Tryd.prog 10 #[.int .i64 n] w fun e w' => e = .returned (.bool true) ∧ Below w.heap.size w w' := by
  have lt := c.lt
  have C := Lib.hid c
  have HP := Lib.hid hp
  clear c hp
  by_cases h : n < 0 ∨ 100000 < n
  · have H := Lib.hid h
    clear h
    go_enter Tryd.func10, Tryd.ntmps10
    go_wp2_with fail
    refine (dec.text_spec_no n w H.out).mono ?_
    rintro e w1 ⟨rfl, rfl⟩
    go_wp2_with fail
    refine (dec.text_impl_no n w H.out).mono ?_
    rintro e w2 ⟨rfl, rfl⟩
    go_wp2
    go_ret
    exact ⟨rfl, Below.refl _ _⟩
  · obtain ⟨y, m, d, hd⟩ := cal.date_exists n (by omega) (by omega)
    have HD := Lib.hid hd
    clear hd h
    go_enter Tryd.func10, Tryd.ntmps10
    go_wp2_with fail
    refine (dec.text_spec n y m d w C.out HD.out).mono ?_
    rintro e w1 ⟨rfl, hb⟩
    have HS := hb.size
    have BB := Lib.hid hb
    clear hb
    go_wp2_with fail
    refine (dec.text_impl n y m d w1 (C.out.below BB.out lt) (HP.out.below BB.out hw) (Nat.lt_of_lt_of_le hw HS) HD.out).mono ?_
    rintro e w2 ⟨rfl, hb2⟩
    have BB2 := Lib.hid (BB.out.trans (hb2.mono HS))
    clear hb2 BB
    go_wp2
    go_ret
    exact ⟨rfl, BB2.out⟩

theorem isLaw : lift.IsLaw Rows.fnExactDateTextSpec 1 1 := fun _ ds gs h1 h2 => match ds, h1 with | [_], _ => match gs, h2 with | [_], _ => rfl

theorem laid_met (os : Os) : laidMetH Tryd.prog Rows.fnExactDateTextRow.laid ((World.doorLaid Tryd.prog 400 os).forCall (fun _ _ => 0) ⟨#[], #[.int .i64 0], []⟩).memory :=
  laidMetH_of_parts3 (fuel := 8) (laidMet_of_run' 8 (by kernel_rfl) (by kernel_rfl)) (by kernel_rfl) (by kernel_rfl)

theorem reads (os : Os) {H : Type} (enc : TypeId × Value → H) : ∃ gs places, DataW.whole enc Tryd.prog ((World.doorLaid Tryd.prog 400 os).forCall (fun _ _ => 0) ⟨#[], #[.int .i64 0], []⟩).memory Tryd.f10.params.toList Rows.fnExactDateTextSpec.vars false (#[.int .i64 0] : Array Value).toList 8 = some ([.lit (.int .i64 0)], gs, places) :=
  ⟨[Rows.laid_loop_example_g00714_impl_monthLengths], MemPlace.row ⟨0, 0, none⟩ 12, by kernel_rfl⟩

set_option maxRecDepth 100000 in
theorem lifted (os : Os) (started : os.Started) (H : Type) (enc : TypeId × Value → H) (F : Stop.Interp) :
    ReturnsInHanded {} Tryd.checked os 10 .any ((OpenSpec.ofChange Rows.fnExactDateTextSpec).preRow enc Tryd.prog Tryd.f10 [] false Rows.fnExactDateTextRow.laid) (((OpenSpec.ofChange Rows.fnExactDateTextSpec).at F).post enc Tryd.prog Tryd.f10 false true false false) := by
  obtain ⟨gs, places, hx⟩ := reads os enc
  refine lift.law_lift (C := Tryd.checked) (tb := 4) base.own started (by kernel_rfl) Tryd.func10 base.laidOut (by kernel_rfl) (by kernel_rfl) (by kernel_rfl) Tryd.underlying4 (by rw [Tryd.params10]; exact isLaw)
    (witness_row_at (enc := enc) (C := Tryd.checked) false (World.doorLaid Tryd.prog 400 os) #[.int .i64 0] rfl (by kernel_rfl) (by kernel_rfl) (by kernel_rfl)
      (OpenSpec.preRow_of_cond 8 hx (by kernel_rfl) (fun k hk => by cases hk) (by kernel_rfl) (laid_met os))) ?_
  intro W b0 args ds p hval hA hL
  rw [Tryd.params10] at hA hval
  obtain ⟨v0, d0, rfl, rfl, h0⟩ := trodAll_one hA
  obtain ⟨a0, rfl, rfl, rfl, w0⟩ := open_int Tryd.underlying2 (hval 0 2 v0 rfl rfl) h0
  exact walk a0 W (dec.mon_four hL) (dec.pow_four hL) (dec.two_four hL)

theorem said : Rows.FnExactDateTextSaid :=
  OpenClaim.holds_of_cond 10 Tryd.f10 rfl rfl rfl rfl rfl rfl rfl ⟨rfl, rfl, rfl, rfl, rfl⟩ rfl rfl rfl rfl rfl (by kernel_rfl) Tryd.func10 (by kernel_rfl)
    (of_decide_eq_true (by kernel_rfl)) (by unfold Func.isWrapper; first | (rw [if_pos (by decide +kernel)]; kernel_rfl) | (rw [if_neg (by decide +kernel)]; exact ⟨rfl, rfl⟩))
    (fun os started H enc _ F => by rw [OpenClaim.pre_eq_preRow]; exact lifted os started H enc F)

theorem plain (f : FuncId) (fn : Func) (hf : Tryd.pinned.checked.prog.funcNamed "loop.example/g00714/laws.FnExactDateText" = some f) (hfn : Tryd.pinned.checked.prog.funcs[f]? = some fn) :
    false = Tryd.pinned.checked.prog.looks [] ∧ ∀ (j : Nat) t, fn.params[j]? = some t → Tryd.pinned.checked.prog.wantsStandIn t = false := by
  obtain rfl : f = 10 := Option.some.inj ((show Tryd.prog.funcNamed "loop.example/g00714/laws.FnExactDateText" = some 10 by kernel_rfl).symm.trans hf) |>.symm
  obtain rfl : fn = Tryd.f10 := (Option.some.inj (Tryd.func10.symm.trans hfn)).symm
  refine ⟨by kernel_rfl, fun j t ht => ?_⟩
  rw [Tryd.params10] at ht
  have hm : t ∈ [2] := by simpa using Array.mem_of_getElem? ht
  have hall : ([2].all fun u => !Tryd.prog.wantsStandIn u) = true := by kernel_rfl
  exact (show Tryd.prog.wantsStandIn t = false by simpa using List.all_eq_true.1 hall t hm)

theorem card : Rows.FnExactDateTextCardSaid :=
  Claim7.holds_tied_plain_at .later [] _ _ _ _ said (fun _ h => by cases h) (by kernel_rfl) (fun _ h => by cases h) fnExactDateText_row_tie rfl ⟨rfl, rfl⟩ (by kernel_rfl) rfl plain (by kernel_rfl)
#print axioms card
end Go.Proofs.YtlpeadkkkmpccabDoor.fnExactDateText
