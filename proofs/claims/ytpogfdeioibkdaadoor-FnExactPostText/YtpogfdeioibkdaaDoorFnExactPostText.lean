/-
  Proved: for every post, the landed PostText answers as its model does; the law laws.FnExactPostText returns true and its arguments read as before. Conditions: none beyond the given row (the listed tables are as the program's text lays them).
-/
import Derived.Test.YtpogfdeioibkdaaDoorDoo
import Derived.Test.YtpogfdeioibkdaaDoorToA
namespace Go.Proofs.YtpogfdeioibkdaaDoor.fnExactPostText
open Go.ChangeShapes Go.WideShapes Go.ChangeAt Go.RowKit
open Go.ChangeMaps (open_string shut_string)
open led (F5 z5)

set_option maxRecDepth 20000 in
set_option maxHeartbeats 4000000 in
theorem walk (x : F5) (w : World) (cu : cur.Cur w) (po : ptm.Pow w) (hw : 2 < w.heap.size) : Calls Tryd.prog 4 #[.agg #[.int .i64 x.1, .int .i64 x.2.1, .int .i64 x.2.2.1, .int .i64 x.2.2.2.1, .int .i64 x.2.2.2.2]] w fun e w' => e = .returned (.bool true) ∧ Below w.heap.size w w' := by
  have lt := cu.lt
  have TS := Lib.hid (fun W => ptm.textS x W)
  have TI := Lib.hid (fun W (hb : Below w.heap.size w W) => ptm.textI x W (cu.below hb lt) (ptm.Pow.below po hb hw) (Nat.lt_of_lt_of_le hw hb.size))
  have TO := Lib.hid (fun W => five.toEl x W)
  generalize ptm.txt x = tx at TS TI
  obtain ⟨a, b, c, d, f⟩ := x
  dsimp only at TS TI TO ⊢
  have m1 := fun W h => ptm.PB.new w (a, b, c, d, f) 35 (W := W) h
  have B0 := Lib.hid (show Below w.heap.size w (w.alloc (.cells #[.int .i64 a, .int .i64 b, .int .i64 c, .int .i64 d, .int .i64 f] 35)) from five.bAl (Below.refl _ _) (Nat.le_refl _) _)
  have K0 := Lib.hid (five.box_refl w (.cells #[.int .i64 a, .int .i64 b, .int .i64 c, .int .i64 d, .int .i64 f] 35))
  have z0 : (w.alloc (.cells #[.int .i64 a, .int .i64 b, .int .i64 c, .int .i64 d, .int .i64 f] 35)).heap.size = w.heap.size + 1 := World.size_alloc _ _
  clear cu po hw lt
  go_enter Tryd.func4, Tryd.ntmps4
  go_wp2_with fail
  generalize w.alloc (.cells #[.int .i64 a, .int .i64 b, .int .i64 c, .int .i64 d, .int .i64 f] 35) = W0 at B0 K0 m1 z0 ⊢
  refine (TO.out W0).mono ?_
  rintro e w1 ⟨rfl, b1⟩
  have B1 := Lib.hid (B0.out.trans (b1.mono B0.out.size))
  have K1 := Lib.hid (K0.out.trans (b1.mono (by omega)))
  clear b1
  go_wp2_with fail
  refine (TS.out w1).mono ?_
  rintro e w2 ⟨rfl, b2⟩
  have B2 := Lib.hid (B1.out.trans (b2.mono B1.out.size))
  have K2 := Lib.hid (K1.out.trans (b2.mono (by have := K1.out.size; omega)))
  obtain ⟨y0, y1, y2, y3, y4⟩ := m1 w2 K2.out
  dsimp only at y0 y1 y2 y3 y4
  clear b2 B0 B1 K0 K1 m1
  go_wp2_with fail
  refine (TO.out w2).mono ?_
  rintro e w3 ⟨rfl, b3⟩
  have B3 := Lib.hid (B2.out.trans (b3.mono B2.out.size))
  clear b3 B2 K2 y0 y1 y2 y3 y4
  go_wp2_with fail
  refine (TI.out w3 B3.out).mono ?_
  rintro e w4 ⟨rfl, b4⟩
  have B4 := Lib.hid (B3.out.trans (b4.mono B3.out.size))
  have hb : (tx != tx) = false := by simp
  have hb' : (tx == tx) = true := by simp
  clear b4 B3
  go_wp2
  go_ret
  exact ⟨rfl, B4.out⟩

theorem isLaw : lift.IsLaw Rows.fnExactPostTextSpec 1 1 := fun _ ds gs h1 h2 => match ds, h1 with | [_], _ => match gs, h2 with | [_], _ => rfl

theorem laid_met (os : Os) : laidMetH Tryd.prog Rows.fnExactPostTextRow.laid ((World.doorLaid Tryd.prog 400 os).forCall (fun _ _ => 0) ⟨#[], #[.agg #[.int .i64 0, .int .i64 0, .int .i64 0, .int .i64 0, .int .i64 0]], []⟩).memory :=
  laidMetH_of_parts3 (fuel := 8) (laidMet_of_run' 8 (by kernel_rfl) (by kernel_rfl)) (by kernel_rfl) (by kernel_rfl)

theorem reads (os : Os) {H : Type} (enc : TypeId × Value → H) : ∃ gs places, DataW.whole enc Tryd.prog ((World.doorLaid Tryd.prog 400 os).forCall (fun _ _ => 0) ⟨#[], #[.agg #[.int .i64 0, .int .i64 0, .int .i64 0, .int .i64 0, .int .i64 0]], []⟩).memory Tryd.f4.params.toList Rows.fnExactPostTextSpec.vars false (#[.agg #[.int .i64 0, .int .i64 0, .int .i64 0, .int .i64 0, .int .i64 0]] : Array Value).toList 8 = some ([.agg [.agg [.lit (.int .i64 0), .lit (.int .i64 0), .lit (.int .i64 0)], .lit (.int .i64 0), .lit (.int .i64 0)]], gs, places) :=
  ⟨[Rows.laid_loop_example_g00714_impl_currencies], MemPlace.row ⟨0, 0, none⟩ 12, by kernel_rfl⟩

set_option maxRecDepth 100000 in
theorem lifted (os : Os) (started : os.Started) (H : Type) (enc : TypeId × Value → H) (F : Stop.Interp) :
    ReturnsInHanded {} Tryd.checked os 4 .any ((OpenSpec.ofChange Rows.fnExactPostTextSpec).preRow enc Tryd.prog Tryd.f4 [] false Rows.fnExactPostTextRow.laid) (((OpenSpec.ofChange Rows.fnExactPostTextSpec).at F).post enc Tryd.prog Tryd.f4 false true false false) := by
  obtain ⟨gs, places, hx⟩ := reads os enc
  refine lift.law_lift (C := Tryd.checked) (tb := 4) doo.own started (by kernel_rfl) Tryd.func4 doo.laidOut (by kernel_rfl) (by kernel_rfl) (by kernel_rfl) Tryd.underlying4 (by rw [Tryd.params4]; exact isLaw)
    (witness_row_at (enc := enc) (C := Tryd.checked) false (World.doorLaid Tryd.prog 400 os) #[.agg #[.int .i64 0, .int .i64 0, .int .i64 0, .int .i64 0, .int .i64 0]] rfl (by kernel_rfl) (by kernel_rfl) (by kernel_rfl)
      (OpenSpec.preRow_of_cond 8 hx (by kernel_rfl) (fun k hk => by cases hk) (by kernel_rfl) (laid_met os))) ?_
  intro W b0 args ds p hval hA hL
  rw [Tryd.params4] at hA hval
  obtain ⟨v0, d0, rfl, rfl, h0⟩ := trodAll_one hA
  obtain ⟨x, rfl⟩ := doo.open_post (hval 0 35 v0 rfl rfl) h0
  exact walk x W (doo.cur_four hL) (doo.pow_four hL) (doo.pow_lt (doo.pow_four hL))

theorem said : Rows.FnExactPostTextSaid :=
  OpenClaim.holds_of_cond 4 Tryd.f4 rfl rfl rfl rfl rfl rfl rfl ⟨rfl, rfl, rfl, rfl, rfl⟩ rfl rfl rfl rfl rfl (by kernel_rfl) Tryd.func4 (by kernel_rfl)
    (of_decide_eq_true (by kernel_rfl)) (by unfold Func.isWrapper; first | (rw [if_pos (by decide +kernel)]; kernel_rfl) | (rw [if_neg (by decide +kernel)]; exact ⟨rfl, rfl⟩))
    (fun os started H enc _ F => by rw [OpenClaim.pre_eq_preRow]; exact lifted os started H enc F)

theorem plain (f : FuncId) (fn : Func) (hf : Tryd.pinned.checked.prog.funcNamed "loop.example/g00714/laws.FnExactPostText" = some f) (hfn : Tryd.pinned.checked.prog.funcs[f]? = some fn) :
    false = Tryd.pinned.checked.prog.looks [] ∧ ∀ (j : Nat) t, fn.params[j]? = some t → Tryd.pinned.checked.prog.wantsStandIn t = false := by
  obtain rfl : f = 4 := Option.some.inj ((show Tryd.prog.funcNamed "loop.example/g00714/laws.FnExactPostText" = some 4 by kernel_rfl).symm.trans hf) |>.symm
  obtain rfl : fn = Tryd.f4 := (Option.some.inj (Tryd.func4.symm.trans hfn)).symm
  refine ⟨by kernel_rfl, fun j t ht => ?_⟩
  rw [Tryd.params4] at ht
  have hm : t ∈ [35] := by simpa using Array.mem_of_getElem? ht
  have hall : ([35].all fun u => !Tryd.prog.wantsStandIn u) = true := by kernel_rfl
  exact (show Tryd.prog.wantsStandIn t = false by simpa using List.all_eq_true.1 hall t hm)

theorem card : Rows.FnExactPostTextCardSaid :=
  Claim7.holds_tied_plain_at .later [] _ _ _ _ said (fun _ h => by cases h) (by kernel_rfl) (fun _ h => by cases h) fnExactPostText_row_tie rfl ⟨rfl, rfl⟩ (by kernel_rfl) rfl plain (by kernel_rfl)
#print axioms card
end Go.Proofs.YtpogfdeioibkdaaDoor.fnExactPostText
