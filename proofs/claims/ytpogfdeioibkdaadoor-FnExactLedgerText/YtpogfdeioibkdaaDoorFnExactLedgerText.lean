/-
  Proved: for every list of posts, the landed LedgerText answers as its model does; the law laws.FnExactLedgerText returns true and its arguments read as before. Conditions: none beyond the given row (the listed tables are as the program's text lays them).
-/
import Derived.Test.YtpogfdeioibkdaaDoorDoo
import Derived.Test.YtpogfdeioibkdaaDoorLti
import Derived.Test.YtpogfdeioibkdaaDoorCopy
import Derived.Test.YtpogfdeioibkdaaDoorEqS
namespace Go.Proofs.YtpogfdeioibkdaaDoor.fnExactLedgerText
open Go.ChangeShapes Go.WideShapes Go.ChangeAt Go.RowKit
open Go.ChangeMaps (open_string shut_string)
open led (F5 z5)

theorem walk_big (a : Option Addr) (len cap : Nat) (w : World) (hl : len ≤ maxLen) (hb : 1048576 < len) : Calls Tryd.prog 6 #[.slice a len cap] w fun e w' => e = .returned (.bool true) ∧ Below w.heap.size w w' := by
  unfold maxLen at hl
  have t1 : decide ((1048576 : Int) < (len : Int)) = true := by simp; omega
  go_enter Tryd.func6, Tryd.ntmps6
  go_wp2
  go_ret
  exact ⟨rfl, Below.refl _ _⟩
set_option maxRecDepth 100000 in
set_option maxHeartbeats 4000000 in
theorem walk_small (a : Option Addr) (cap : Nat) (l0 : List led.F5) (w : World) (hI : five.Inp w a l0) (hn : l0.length ≤ 1048576) (cu : cur.Cur w) (po : ptm.Pow w) (hw : 2 < w.heap.size) : Calls Tryd.prog 6 #[.slice a l0.length cap] w fun e w' => e = .returned (.bool true) ∧ Below w.heap.size w w' := by
  have HI := Lib.hid hI
  clear hI
  have lt := cu.lt
  have t1 : decide ((1048576 : Int) < (l0.length : Int)) = false := by simp; omega
  have CS := Lib.hid (fun W c g r => ptm.ltS W (some ⟨g, 0, none⟩) c g l0 r (by omega))
  have CI := Lib.hid (fun W (hb : Below w.heap.size w W) c g r => ptm.ltI W (some ⟨g, 0, none⟩) c g l0 r (by omega) (cu.below hb lt) (ptm.Pow.below po hb hw) (Nat.lt_of_lt_of_le hw hb.size))
  generalize ptm.ltxt l0 = tx at CS CI
  clear cu po hw lt
  go_enter Tryd.func6, Tryd.ntmps6
  go_wp2_with fail
  refine (five.szOk a l0.length cap 1048576 w hn (Nat.le_refl _)).mono ?_
  rintro e w' ⟨rfl, rfl⟩
  go_wp2_with fail
  refine (five.copy a cap l0 w HI.out hn).mono ?_
  rintro e w1 ⟨g1, rfl, r1, l1, k1, b1⟩
  have R1 := Lib.hid r1
  have B1 := Lib.hid b1
  clear r1 b1
  go_wp2_with fail
  refine (CS.out w1 _ g1 R1.out).mono ?_
  rintro e w2 ⟨rfl, b2⟩
  have B2 := Lib.hid (B1.out.trans (b2.mono B1.out.size))
  clear b2 R1 B1
  go_wp2_with fail
  refine (five.copy a cap l0 w2 (HI.out.below B2.out) hn).mono ?_
  rintro e w3 ⟨gx, rfl, rx, lx, kx, b3⟩
  have RX := Lib.hid rx
  have B3 := Lib.hid (B2.out.trans (b3.mono B2.out.size))
  clear rx b3 B2
  go_wp2_with fail
  refine (CI.out w3 B3.out _ gx RX.out).mono ?_
  rintro e w4 ⟨rfl, b4⟩
  have RX4 := Lib.hid (RX.out.keep (w' := w4) fun h => b4.block gx kx)
  have B4 := Lib.hid (B3.out.trans (b4.mono B3.out.size))
  have z4 := b4.size
  have hb : (tx != tx) = false := by simp
  have hb' : (tx == tx) = true := by simp
  clear b4 RX B3
  go_wp2_with fail
  refine (five.copy a cap l0 w4 (HI.out.below B4.out) hn).mono ?_
  rintro e w5 ⟨gy, rfl, ry, ly, ky, b5⟩
  have RY := Lib.hid ry
  have RX5 := Lib.hid (RX4.out.keep (w' := w5) fun h => b5.block gx (by omega))
  have B5 := Lib.hid (B4.out.trans (b5.mono B4.out.size))
  clear ry b5 RX4 B4
  go_wp2_with fail
  refine (five.eqT w5 _ _ _ _ gx gy l0 RX5.out RY.out hn).mono ?_
  rintro e w6 ⟨rfl, b6⟩
  have B6 := Lib.hid (B5.out.trans (b6.mono B5.out.size))
  clear b6 B5
  go_wp2
  go_ret
  exact ⟨rfl, B6.out⟩

theorem isLaw : lift.IsLaw Rows.fnExactLedgerTextSpec 1 1 := fun _ ds gs h1 h2 => match ds, h1 with | [_], _ => match gs, h2 with | [_], _ => rfl

theorem laid_met (os : Os) : laidMetH Tryd.prog Rows.fnExactLedgerTextRow.laid ((World.doorLaid Tryd.prog 400 os).forCall (fun _ _ => 0) ⟨#[], #[.slice none 0 0], []⟩).memory :=
  laidMetH_of_parts3 (fuel := 8) (laidMet_of_run' 8 (by kernel_rfl) (by kernel_rfl)) (by kernel_rfl) (by kernel_rfl)

theorem reads (os : Os) {H : Type} (enc : TypeId × Value → H) : ∃ gs places, DataW.whole enc Tryd.prog ((World.doorLaid Tryd.prog 400 os).forCall (fun _ _ => 0) ⟨#[], #[.slice none 0 0], []⟩).memory Tryd.f6.params.toList Rows.fnExactLedgerTextSpec.vars false (#[.slice none 0 0] : Array Value).toList 8 = some ([.nil], gs, places) :=
  ⟨[Rows.laid_loop_example_g00714_impl_currencies], MemPlace.row ⟨0, 0, none⟩ 12, by kernel_rfl⟩

set_option maxRecDepth 100000 in
theorem lifted (os : Os) (started : os.Started) (H : Type) (enc : TypeId × Value → H) (F : Stop.Interp) :
    ReturnsInHanded {} Tryd.checked os 6 .any ((OpenSpec.ofChange Rows.fnExactLedgerTextSpec).preRow enc Tryd.prog Tryd.f6 [] false Rows.fnExactLedgerTextRow.laid) (((OpenSpec.ofChange Rows.fnExactLedgerTextSpec).at F).post enc Tryd.prog Tryd.f6 false true false false) := by
  obtain ⟨gs, places, hx⟩ := reads os enc
  refine lift.law_lift (C := Tryd.checked) (tb := 4) doo.own started (by kernel_rfl) Tryd.func6 doo.laidOut (by kernel_rfl) (by kernel_rfl) (by kernel_rfl) Tryd.underlying4 (by rw [Tryd.params6]; exact isLaw)
    (witness_row_at (enc := enc) (C := Tryd.checked) false (World.doorLaid Tryd.prog 400 os) #[.slice none 0 0] rfl (by kernel_rfl) (by kernel_rfl) (by kernel_rfl)
      (OpenSpec.preRow_of_cond 8 hx (by kernel_rfl) (fun k hk => by cases hk) (by kernel_rfl) (laid_met os))) ?_
  intro W b0 args ds p hval hA hL
  rw [Tryd.params6] at hA hval
  obtain ⟨v0, d0, rfl, rfl, h0⟩ := trodAll_one hA
  obtain ⟨a, cap, l, rfl, hl, hI, _⟩ := five.open_posts (hval 0 40 v0 rfl rfl) h0
  by_cases hb : 1048576 < l.length
  · exact walk_big a l.length cap W hl hb
  · exact walk_small a cap l W hI (by omega) (doo.cur_four hL) (doo.pow_four hL) (doo.pow_lt (doo.pow_four hL))

theorem said : Rows.FnExactLedgerTextSaid :=
  OpenClaim.holds_of_cond 6 Tryd.f6 rfl rfl rfl rfl rfl rfl rfl ⟨rfl, rfl, rfl, rfl, rfl⟩ rfl rfl rfl rfl rfl (by kernel_rfl) Tryd.func6 (by kernel_rfl)
    (of_decide_eq_true (by kernel_rfl)) (by unfold Func.isWrapper; first | (rw [if_pos (by decide +kernel)]; kernel_rfl) | (rw [if_neg (by decide +kernel)]; exact ⟨rfl, rfl⟩))
    (fun os started H enc _ F => by rw [OpenClaim.pre_eq_preRow]; exact lifted os started H enc F)

theorem plain (f : FuncId) (fn : Func) (hf : Tryd.pinned.checked.prog.funcNamed "loop.example/g00714/laws.FnExactLedgerText" = some f) (hfn : Tryd.pinned.checked.prog.funcs[f]? = some fn) :
    false = Tryd.pinned.checked.prog.looks [] ∧ ∀ (j : Nat) t, fn.params[j]? = some t → Tryd.pinned.checked.prog.wantsStandIn t = false := by
  obtain rfl : f = 6 := Option.some.inj ((show Tryd.prog.funcNamed "loop.example/g00714/laws.FnExactLedgerText" = some 6 by kernel_rfl).symm.trans hf) |>.symm
  obtain rfl : fn = Tryd.f6 := (Option.some.inj (Tryd.func6.symm.trans hfn)).symm
  refine ⟨by kernel_rfl, fun j t ht => ?_⟩
  rw [Tryd.params6] at ht
  have hm : t ∈ [40] := by simpa using Array.mem_of_getElem? ht
  have hall : ([40].all fun u => !Tryd.prog.wantsStandIn u) = true := by kernel_rfl
  exact (show Tryd.prog.wantsStandIn t = false by simpa using List.all_eq_true.1 hall t hm)

theorem card : Rows.FnExactLedgerTextCardSaid :=
  Claim7.holds_tied_plain_at .later [] _ _ _ _ said (fun _ h => by cases h) (by kernel_rfl) (fun _ h => by cases h) fnExactLedgerText_row_tie rfl ⟨rfl, rfl⟩ (by kernel_rfl) rfl plain (by kernel_rfl)
#print axioms card
end Go.Proofs.YtpogfdeioibkdaaDoor.fnExactLedgerText
