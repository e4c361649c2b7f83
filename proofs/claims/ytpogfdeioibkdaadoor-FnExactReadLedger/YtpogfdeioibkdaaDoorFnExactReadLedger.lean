/-
  Proved: for every text, the landed ReadLedger answers as its model does, and its answer owns its memory; the law laws.FnExactReadLedger returns true and its arguments read as before. Conditions: none beyond the given row (the listed tables are as the program's text lays them).
-/
import Derived.Test.YtpogfdeioibkdaaDoorDoo
import Derived.Test.YtpogfdeioibkdaaDoorRli
import Derived.Test.YtpogfdeioibkdaaDoorEqS
import Derived.Test.YtpogfdeioibkdaaDoorHeld5
namespace Go.Proofs.YtpogfdeioibkdaaDoor.fnExactReadLedger
open Go.ChangeShapes Go.WideShapes Go.ChangeAt Go.RowKit
open Go.ChangeMaps (open_string shut_string)
open led (F5 z5)

theorem rl_small (s : List UInt8) : (ptm.rl s).1.length ≤ 400 := by
  unfold ptm.rl
  split
  · rename_i h
    exact ptm.lv_len h.2.2
  · simp
set_option maxRecDepth 100000 in
set_option maxHeartbeats 8000000 in
theorem walk (s : ByteArray) (w : World) (hs : s.size ≤ maxLen) (cu : cur.Cur w) (po : ptm.Pow w) (hw : 2 < w.heap.size) (m : Int) (hm : w.cell? ⟨1, 0, none⟩ = some (.int .i64 m)) : Calls Tryd.prog 7 #[.string s] w fun e w' => e = .returned (.bool true) ∧ Below w.heap.size w w' := by
  unfold maxLen at hs
  by_cases hl : 1048576 < s.size
  · go_enter Tryd.func7, Tryd.ntmps7
    go_wp2
    go_ret
    exact ⟨rfl, Below.refl _ _⟩
  · have lt := cu.lt
    obtain ⟨l, rfl⟩ : ∃ l : List UInt8, s = ⟨l.toArray⟩ := ⟨s.data.toList, by cases s; simp⟩
    have hz : l.length ≤ 1048576 := by
      have : l.length = (⟨l.toArray⟩ : ByteArray).size := rfl
      omega
    have tl : decide ((1048576 : Int) < (l.length : Int)) = false := by simp; omega
    have tl' : decide (1048576 < l.length) = false := by simp; omega
    have TS := Lib.hid (fun W => ptm.rlS l W hz)
    have TI := Lib.hid (fun W (hb : Below w.heap.size w W) => ptm.rlI l W hz (cu.below hb lt) (ptm.Pow.below po hb hw) (Nat.lt_of_lt_of_le hw hb.size) m ((hb.cell (p := ⟨1, 0, none⟩) (by show 1 < _; omega)).trans hm))
    have sm := rl_small l
    unfold ptm.GotR at TS TI
    generalize (ptm.rl l).1 = P at TS TI sm
    generalize (ptm.rl l).2 = t at TS TI
    clear cu po hw lt hz hm hl hs
    go_enter Tryd.func7, Tryd.ntmps7
    go_wp2_with fail
    refine (TS.out w).mono ?_
    rintro e w1 ⟨a3, c3, g3, rfl, r0, G0, bb⟩
    have BB := Lib.hid bb
    have R3 := Lib.hid r0
    have GR3 := Lib.hid G0
    have z1 := bb.size
    clear r0 G0 bb
    go_wp2_with fail
    refine (TI.out w1 BB.out).mono ?_
    rintro e w2 ⟨ag, cg, gg, rfl, r0, G0, bb⟩
    replace BB := Lib.hid (BB.out.trans (bb.mono BB.out.size))
    have z2 := bb.size
    replace R3 := Lib.hid (R3.out.keep (w' := w2) fun h => bb.block g3 (by have := (GR3.out h).2; omega))
    have RG := Lib.hid r0
    have GRG := Lib.hid G0
    clear r0 G0 bb
    have ht : (t != t) = false := by cases t <;> rfl
    go_wp2_with fail
    refine (five.eqT w2 ag a3 cg c3 gg g3 P RG.out R3.out (by omega)).mono ?_
    rintro e w3 ⟨rfl, bb⟩
    replace BB := Lib.hid (BB.out.trans (bb.mono BB.out.size))
    have z3 := bb.size
    replace R3 := Lib.hid (R3.out.keep (w' := w3) fun h => bb.block g3 (by have := (GR3.out h).2; omega))
    replace RG := Lib.hid (RG.out.keep (w' := w3) fun h => bb.block gg (by have := (GRG.out h).2; omega))
    clear bb
    cases t
    all_goals
      go_wp2_with fail
      refine (five.mark w3 ag cg gg P RG.out (by omega)).mono ?_
      rintro e w4 ⟨rfl, hk⟩
      have z4 : w4.heap.size = w3.heap.size := hk.size
      have MK := Lib.hid (show five.Mks w4 ag cg gg P.length from ⟨RG.out.addr, RG.out.room, hk.done⟩)
      replace R3 := Lib.hid (R3.out.keep (w' := w4) fun h => hk.other g3 (fun e => by have := (GR3.out h).2; have := (GRG.out h).1; omega))
      replace BB := Lib.hid (BB.out.trans (hk.below (B := w.heap.size) (fun hp => by have := (GRG.out (by omega)).1; omega)))
      clear hk RG
      go_wp2_with fail
      refine (five.held w4 ag cg gg P.length MK.out (by omega)).mono ?_
      rintro e w' ⟨rfl, rfl⟩
      have p2 : decide (1 + (P.length : Int) * 5 < 0) = false := by simp; omega
      have p2' : decide (1 + ((P.length * 5 : Nat) : Int) < 0) = false := by simp; omega
      have p3 : (1 + (P.length : Int) * 5 != 1 + (P.length : Int) * 5) = false := by simp
      have p3' : (1 + ((P.length * 5 : Nat) : Int) != 1 + ((P.length * 5 : Nat) : Int)) = false := by simp
      go_wp2_with fail
      refine (TI.out w4 BB.out).mono ?_
      rintro e w5 ⟨ah, ch, gh, rfl, r0, G0, bb⟩
      replace BB := Lib.hid (BB.out.trans (bb.mono BB.out.size))
      have z5 := bb.size
      replace R3 := Lib.hid (R3.out.keep (w' := w5) fun h => bb.block g3 (by have := (GR3.out h).2; omega))
      replace MK := Lib.hid (MK.out.keep (w' := w5) fun h => bb.block gg (by have := (GRG.out h).2; omega))
      have RH := Lib.hid r0
      have GRH := Lib.hid G0
      clear r0 G0 bb
      go_wp2_with fail
      refine (five.eqT w5 ah a3 ch c3 gh g3 P RH.out R3.out (by omega)).mono ?_
      rintro e w6 ⟨rfl, bb⟩
      replace BB := Lib.hid (BB.out.trans (bb.mono BB.out.size))
      have z6 := bb.size
      replace MK := Lib.hid (MK.out.keep (w' := w6) fun h => bb.block gg (by have := (GRG.out h).2; omega))
      clear bb
      go_wp2_with fail
      refine (five.held w6 ag cg gg P.length MK.out (by omega)).mono ?_
      rintro e w' ⟨rfl, rfl⟩
      go_wp2
      go_ret
      exact ⟨rfl, BB.out⟩

theorem isLaw : lift.IsLaw Rows.fnExactReadLedgerSpec 1 1 := fun _ ds gs h1 h2 => match ds, h1 with | [_], _ => match gs, h2 with | [_], _ => rfl

theorem laid_met (os : Os) : laidMetH Tryd.prog Rows.fnExactReadLedgerRow.laid ((World.doorLaid Tryd.prog 400 os).forCall (fun _ _ => 0) ⟨#[], #[.string ⟨#[]⟩], []⟩).memory :=
  laidMetH_of_parts3 (fuel := 8) (laidMet_of_run' 8 (by kernel_rfl) (by kernel_rfl)) (by kernel_rfl) (by kernel_rfl)

theorem reads (os : Os) {H : Type} (enc : TypeId × Value → H) : ∃ gs places, DataW.whole enc Tryd.prog ((World.doorLaid Tryd.prog 400 os).forCall (fun _ _ => 0) ⟨#[], #[.string ⟨#[]⟩], []⟩).memory Tryd.f7.params.toList Rows.fnExactReadLedgerSpec.vars false (#[.string ⟨#[]⟩] : Array Value).toList 8 = some ([.lit (.string [])], gs, places) :=
  ⟨[Rows.laid_loop_example_g00714_impl_currencies], MemPlace.row ⟨0, 0, none⟩ 12, by kernel_rfl⟩

set_option maxRecDepth 100000 in
theorem lifted (os : Os) (started : os.Started) (H : Type) (enc : TypeId × Value → H) (F : Stop.Interp) :
    ReturnsInHanded {} Tryd.checked os 7 .any ((OpenSpec.ofChange Rows.fnExactReadLedgerSpec).preRow enc Tryd.prog Tryd.f7 [] false Rows.fnExactReadLedgerRow.laid) (((OpenSpec.ofChange Rows.fnExactReadLedgerSpec).at F).post enc Tryd.prog Tryd.f7 false true false false) := by
  obtain ⟨gs, places, hx⟩ := reads os enc
  refine lift.law_lift2 (C := Tryd.checked) (tb := 4) doo.own started (by kernel_rfl) Tryd.func7 doo.laidOut (by kernel_rfl) (by kernel_rfl) (by kernel_rfl) Tryd.underlying4 (by rw [Tryd.params7]; exact isLaw)
    (witness_row_at (enc := enc) (C := Tryd.checked) false (World.doorLaid Tryd.prog 400 os) #[.string ⟨#[]⟩] rfl (by kernel_rfl) (by kernel_rfl) (by kernel_rfl)
      (OpenSpec.preRow_of_cond 8 hx (by kernel_rfl) (fun k hk => by cases hk) (by kernel_rfl) (laid_met os))) ?_
  intro W b0 args ds p hval hA hL hS
  rw [Tryd.params7] at hA hval
  obtain ⟨v0, d0, rfl, rfl, h0⟩ := trodAll_one hA
  obtain ⟨s, rfl, rfl, rfl, hs⟩ := open_string Tryd.underlying9 (hval 0 9 v0 rfl rfl) h0
  obtain ⟨m, hm⟩ := Tryd.laysM219.s1_3 W hS
  exact walk s W hs (doo.cur_four hL) (doo.pow_four hL) (doo.pow_lt (doo.pow_four hL)) m hm

theorem said : Rows.FnExactReadLedgerSaid :=
  OpenClaim.holds_of_cond 7 Tryd.f7 rfl rfl rfl rfl rfl rfl rfl ⟨rfl, rfl, rfl, rfl, rfl⟩ rfl rfl rfl rfl rfl (by kernel_rfl) Tryd.func7 (by kernel_rfl)
    (of_decide_eq_true (by kernel_rfl)) (by unfold Func.isWrapper; first | (rw [if_pos (by decide +kernel)]; kernel_rfl) | (rw [if_neg (by decide +kernel)]; exact ⟨rfl, rfl⟩))
    (fun os started H enc _ F => by rw [OpenClaim.pre_eq_preRow]; exact lifted os started H enc F)

theorem plain (f : FuncId) (fn : Func) (hf : Tryd.pinned.checked.prog.funcNamed "loop.example/g00714/laws.FnExactReadLedger" = some f) (hfn : Tryd.pinned.checked.prog.funcs[f]? = some fn) :
    false = Tryd.pinned.checked.prog.looks [] ∧ ∀ (j : Nat) t, fn.params[j]? = some t → Tryd.pinned.checked.prog.wantsStandIn t = false := by
  obtain rfl : f = 7 := Option.some.inj ((show Tryd.prog.funcNamed "loop.example/g00714/laws.FnExactReadLedger" = some 7 by kernel_rfl).symm.trans hf) |>.symm
  obtain rfl : fn = Tryd.f7 := (Option.some.inj (Tryd.func7.symm.trans hfn)).symm
  refine ⟨by kernel_rfl, fun j t ht => ?_⟩
  rw [Tryd.params7] at ht
  have hm : t ∈ [9] := by simpa using Array.mem_of_getElem? ht
  have hall : ([9].all fun u => !Tryd.prog.wantsStandIn u) = true := by kernel_rfl
  exact (show Tryd.prog.wantsStandIn t = false by simpa using List.all_eq_true.1 hall t hm)

theorem card : Rows.FnExactReadLedgerCardSaid :=
  Claim7.holds_tied_plain_at .later [] _ _ _ _ said (fun _ h => by cases h) (by kernel_rfl) (fun _ h => by cases h) fnExactReadLedger_row_tie rfl ⟨rfl, rfl⟩ (by kernel_rfl) rfl plain (by kernel_rfl)
#print axioms card
end Go.Proofs.YtpogfdeioibkdaaDoor.fnExactReadLedger
