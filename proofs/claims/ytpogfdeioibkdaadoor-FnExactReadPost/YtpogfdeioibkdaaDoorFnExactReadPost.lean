/-
  Proved: for every text, the landed ReadPost answers as its model does; the law laws.FnExactReadPost returns true and its arguments read as before. Conditions: none beyond the given row (the listed tables are as the program's text lays them).
-/
import Derived.Test.YtpogfdeioibkdaaDoorDoo
import Derived.Test.YtpogfdeioibkdaaDoorRpi
import Derived.Test.YtpogfdeioibkdaaDoorEqA
namespace Go.Proofs.YtpogfdeioibkdaaDoor.fnExactReadPost
open Go.ChangeShapes Go.WideShapes Go.ChangeAt Go.RowKit
open Go.ChangeMaps (open_string shut_string)
open led (F5 z5)

set_option maxRecDepth 20000 in
set_option maxHeartbeats 4000000 in
theorem walk (s : ByteArray) (w : World) (hs : s.size ≤ maxLen) (cu : cur.Cur w) (po : ptm.Pow w) (hw : 2 < w.heap.size) (m : Int) (hm : w.cell? ⟨1, 0, none⟩ = some (.int .i64 m)) : Calls Tryd.prog 5 #[.string s] w fun e w' => e = .returned (.bool true) ∧ Below w.heap.size w w' := by
  unfold maxLen at hs
  by_cases hl : 1048576 < s.size
  · go_enter Tryd.func5, Tryd.ntmps5
    go_wp2
    go_ret
    exact ⟨rfl, Below.refl _ _⟩
  · have lt := cu.lt
    obtain ⟨l, rfl⟩ : ∃ l : List UInt8, s = ⟨l.toArray⟩ := ⟨s.data.toList, by cases s; simp⟩
    have hz : l.length ≤ 1048576 := by
      have : l.length = (⟨l.toArray⟩ : ByteArray).size := rfl
      omega
    have tl : decide ((1048576 : Int) < (l.length : Int)) = false := by simp; omega
    have tl' : decide (1048576 < l.length) = false := by simp; omega
    have TS := Lib.hid (fun W => ptm.readS l W hz)
    rw [ptm.rd_same] at TS
    have TI := Lib.hid (fun W (hb : Below w.heap.size w W) => ptm.readI l W hz (cu.below hb lt) (ptm.Pow.below po hb hw) (Nat.lt_of_lt_of_le hw hb.size) m ((hb.cell (p := ⟨1, 0, none⟩) (by show 1 < _; omega)).trans hm))
    have TE := Lib.hid (fun W => five.eqElT (ptm.rd l).1 W)
    unfold ptm.pv at TS TI
    generalize (ptm.rd l).1 = x at TS TI TE
    generalize (ptm.rd l).2 = t at TS TI
    clear cu po hw lt hz hm hl hs
    go_enter Tryd.func5, Tryd.ntmps5
    go_wp2_with fail
    refine (TS.out w).mono ?_
    rintro e w1 ⟨rfl, b1⟩
    have B1 := Lib.hid b1
    have A1 := Lib.hid (ptm.PF.new w1 x 27)
    have B2 := Lib.hid (b1.alloc b1.size (.cells #[.int .i64 x.1, .int .i64 x.2.1, .int .i64 x.2.2.1, .int .i64 x.2.2.2.1, .int .i64 x.2.2.2.2] 27))
    clear b1
    go_wp2_with fail
    generalize w1.alloc (.cells #[.int .i64 x.1, .int .i64 x.2.1, .int .i64 x.2.2.1, .int .i64 x.2.2.2.1, .int .i64 x.2.2.2.2] 27) = W1 at A1 B2 ⊢
    refine (TI.out W1 B2.out).mono ?_
    rintro e w2 ⟨rfl, b2⟩
    have B3 := Lib.hid (B2.out.trans (b2.mono B2.out.size))
    have A2 := Lib.hid (A1.out.stay b2)
    have A3 := Lib.hid (ptm.PF.new w2 x 27)
    have A4 := Lib.hid (A2.out.stay ((Below.refl w2.heap.size w2).alloc (Nat.le_refl _) (.cells #[.int .i64 x.1, .int .i64 x.2.1, .int .i64 x.2.2.1, .int .i64 x.2.2.2.1, .int .i64 x.2.2.2.2] 27)))
    have B4 := Lib.hid (B3.out.alloc B3.out.size (.cells #[.int .i64 x.1, .int .i64 x.2.1, .int .i64 x.2.2.1, .int .i64 x.2.2.2.1, .int .i64 x.2.2.2.2] 27))
    clear b2 A1 A2 B2 B3
    obtain ⟨y0, y1, y2, y3, y4⟩ := A3.out.pb
    obtain ⟨v0, v1, v2, v3, v4⟩ := A4.out.pb
    go_wp2_with fail
    refine (TE.out _).mono ?_
    rintro e w3 ⟨rfl, b3⟩
    have B5 := Lib.hid (B4.out.trans (b3.mono B4.out.size))
    clear b3 B4 y0 y1 y2 y3 y4 v0 v1 v2 v3 v4
    have ht : (t != t) = false := by cases t <;> rfl
    cases t
    all_goals
      go_wp2
      go_ret
      exact ⟨rfl, B5.out⟩

theorem isLaw : lift.IsLaw Rows.fnExactReadPostSpec 1 1 := fun _ ds gs h1 h2 => match ds, h1 with | [_], _ => match gs, h2 with | [_], _ => rfl

theorem laid_met (os : Os) : laidMetH Tryd.prog Rows.fnExactReadPostRow.laid ((World.doorLaid Tryd.prog 400 os).forCall (fun _ _ => 0) ⟨#[], #[.string ⟨#[]⟩], []⟩).memory :=
  laidMetH_of_parts3 (fuel := 8) (laidMet_of_run' 8 (by kernel_rfl) (by kernel_rfl)) (by kernel_rfl) (by kernel_rfl)

theorem reads (os : Os) {H : Type} (enc : TypeId × Value → H) : ∃ gs places, DataW.whole enc Tryd.prog ((World.doorLaid Tryd.prog 400 os).forCall (fun _ _ => 0) ⟨#[], #[.string ⟨#[]⟩], []⟩).memory Tryd.f5.params.toList Rows.fnExactReadPostSpec.vars false (#[.string ⟨#[]⟩] : Array Value).toList 8 = some ([.lit (.string [])], gs, places) :=
  ⟨[Rows.laid_loop_example_g00714_impl_currencies], MemPlace.row ⟨0, 0, none⟩ 12, by kernel_rfl⟩

set_option maxRecDepth 100000 in
theorem lifted (os : Os) (started : os.Started) (H : Type) (enc : TypeId × Value → H) (F : Stop.Interp) :
    ReturnsInHanded {} Tryd.checked os 5 .any ((OpenSpec.ofChange Rows.fnExactReadPostSpec).preRow enc Tryd.prog Tryd.f5 [] false Rows.fnExactReadPostRow.laid) (((OpenSpec.ofChange Rows.fnExactReadPostSpec).at F).post enc Tryd.prog Tryd.f5 false true false false) := by
  obtain ⟨gs, places, hx⟩ := reads os enc
  refine lift.law_lift2 (C := Tryd.checked) (tb := 4) doo.own started (by kernel_rfl) Tryd.func5 doo.laidOut (by kernel_rfl) (by kernel_rfl) (by kernel_rfl) Tryd.underlying4 (by rw [Tryd.params5]; exact isLaw)
    (witness_row_at (enc := enc) (C := Tryd.checked) false (World.doorLaid Tryd.prog 400 os) #[.string ⟨#[]⟩] rfl (by kernel_rfl) (by kernel_rfl) (by kernel_rfl)
      (OpenSpec.preRow_of_cond 8 hx (by kernel_rfl) (fun k hk => by cases hk) (by kernel_rfl) (laid_met os))) ?_
  intro W b0 args ds p hval hA hL hS
  rw [Tryd.params5] at hA hval
  obtain ⟨v0, d0, rfl, rfl, h0⟩ := trodAll_one hA
  obtain ⟨s, rfl, rfl, rfl, hs⟩ := open_string Tryd.underlying9 (hval 0 9 v0 rfl rfl) h0
  obtain ⟨m, hm⟩ := Tryd.laysM219.s1_3 W hS
  exact walk s W hs (doo.cur_four hL) (doo.pow_four hL) (doo.pow_lt (doo.pow_four hL)) m hm

theorem said : Rows.FnExactReadPostSaid :=
  OpenClaim.holds_of_cond 5 Tryd.f5 rfl rfl rfl rfl rfl rfl rfl ⟨rfl, rfl, rfl, rfl, rfl⟩ rfl rfl rfl rfl rfl (by kernel_rfl) Tryd.func5 (by kernel_rfl)
    (of_decide_eq_true (by kernel_rfl)) (by unfold Func.isWrapper; first | (rw [if_pos (by decide +kernel)]; kernel_rfl) | (rw [if_neg (by decide +kernel)]; exact ⟨rfl, rfl⟩))
    (fun os started H enc _ F => by rw [OpenClaim.pre_eq_preRow]; exact lifted os started H enc F)

theorem plain (f : FuncId) (fn : Func) (hf : Tryd.pinned.checked.prog.funcNamed "loop.example/g00714/laws.FnExactReadPost" = some f) (hfn : Tryd.pinned.checked.prog.funcs[f]? = some fn) :
    false = Tryd.pinned.checked.prog.looks [] ∧ ∀ (j : Nat) t, fn.params[j]? = some t → Tryd.pinned.checked.prog.wantsStandIn t = false := by
  obtain rfl : f = 5 := Option.some.inj ((show Tryd.prog.funcNamed "loop.example/g00714/laws.FnExactReadPost" = some 5 by kernel_rfl).symm.trans hf) |>.symm
  obtain rfl : fn = Tryd.f5 := (Option.some.inj (Tryd.func5.symm.trans hfn)).symm
  refine ⟨by kernel_rfl, fun j t ht => ?_⟩
  rw [Tryd.params5] at ht
  have hm : t ∈ [9] := by simpa using Array.mem_of_getElem? ht
  have hall : ([9].all fun u => !Tryd.prog.wantsStandIn u) = true := by kernel_rfl
  exact (show Tryd.prog.wantsStandIn t = false by simpa using List.all_eq_true.1 hall t hm)

theorem card : Rows.FnExactReadPostCardSaid :=
  Claim7.holds_tied_plain_at .later [] _ _ _ _ said (fun _ h => by cases h) (by kernel_rfl) (fun _ h => by cases h) fnExactReadPost_row_tie rfl ⟨rfl, rfl⟩ (by kernel_rfl) rfl plain (by kernel_rfl)
#print axioms card
end Go.Proofs.YtpogfdeioibkdaaDoor.fnExactReadPost
