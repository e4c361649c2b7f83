/-
  Proved: for every code, the law of amounts and their texts holds of what is drawn; the law laws.FnAmounts returns true and its argument reads as before. Conditions: none beyond the given row (the listed tables are as the program's text lays them).
-/
import Derived.Test.YtlpeadkkkmpccaaDoorDrawR
import Derived.Test.YtlpeadkkkmpccaaDoorLift2
namespace Go.Proofs.YtlpeadkkkmpccaaDoor.fnAmounts
open Go.ChangeShapes Go.WideShapes Go.ChangeAt Go.RowKit
open Go.ChangeMaps (open_string shut_string)

theorem walk_big (a : Option Addr) (len cap : Nat) (w : World) (hl : len ≤ maxLen) (hb : 1048576 < len) : Calls Tryd.prog 4 #[.slice a len cap] w fun e w' => e = .returned (.bool true) ∧ Below w.heap.size w w' := by
  go_enter Tryd.func4, Tryd.ntmps4
  go_wp2_with fail
  refine (draw.bigT a len cap w hb hl).mono ?_
  rintro e w' ⟨rfl, rfl⟩
  go_wp2
  go_ret
  exact ⟨rfl, Below.refl _ _⟩

/-- What the tables say, in a later world. -/
structure Good (m : Int) (w : World) : Prop where
  cur : base.Cur w
  pow : dec.Pow w
  len : w.cell? ⟨1, 0, none⟩ = some (.int .i64 m)
theorem Good.below {m : Int} {w w' : World} (g : Good m w) (h : Below w.heap.size w w') : Good m w' := by
  have lt2 := amt.pow_lt g.pow
  exact ⟨g.cur.below h g.cur.lt, g.pow.below h lt2, (h.cell (show 1 < w.heap.size by omega)).trans g.len⟩

/-- Reading back what was written. -/
theorem back (c n : Int) : ∃ z o, ram.Same c (amt.atx c n) z o ∧ ((o = true ∧ z = n ∧ (amt.atx c n == []) = false) ∨ (o = false ∧ amt.atx c n = [])) := by
  obtain ⟨z, o, h1, h2, h3⟩ := ram.same2 c (amt.atx c n) (by have := draw.atx_len c n; omega)
  refine ⟨z, o, h1, ?_⟩
  by_cases h : amt.okA c n
  · obtain ⟨e1, e2⟩ := h3 n h rfl
    exact .inl ⟨e2, e1, beq_eq_false_iff_ne.2 (ram.spec_sgn h).1⟩
  · have hn : amt.atx c n = [] := if_neg h
    refine .inr ⟨?_, hn⟩
    cases o with
    | false => rfl
    | true =>
      obtain ⟨q1, q2⟩ := h2 rfl
      exact absurd (q2.trans hn) (ram.spec_sgn q1).1

set_option maxRecDepth 100000 in
set_option maxHeartbeats 4000000 in
theorem walk_small (a : Option Addr) (len cap : Nat) (m : Int) (w : World) (hb : len ≤ 1048576) (hB : draw.Bytes w a len) (g : Good m w) : Calls Tryd.prog 4 #[.slice a len cap] w fun e w' => e = .returned (.bool true) ∧ Below w.heap.size w w' := by
  have HB := Lib.hid hB
  have G := Lib.hid (fun (w' : World) (h : Below w.heap.size w w') => g.below h)
  clear hB g
  go_enter Tryd.func4, Tryd.ntmps4
  go_wp2_with fail
  refine (draw.bigF a len cap w hb).mono ?_
  rintro e w' ⟨rfl, rfl⟩
  go_wp2_with fail
  refine (draw.drawAmountText a len cap w HB.out hb).mono ?_
  rintro e w1 ⟨c, n, rfl, b1⟩
  have B1 := Lib.hid b1
  have W1 := Lib.hid (G.out w1 b1)
  clear b1
  obtain ⟨z, o, sz, hzo⟩ := back c n
  have sl := draw.atx_len c n
  have IA := Lib.hid (fun (w : World) (g : Good m w) => amt.impl c n w g.cur g.pow)
  have SA := Lib.hid (fun (w : World) => amt.spec c n w)
  have RZ := Lib.hid (fun (w : World) (g : Good m w) => sz.2 w m g.cur g.pow g.len)
  clear sz
  generalize amt.atx c n = s at IA SA RZ hzo sl
  go_wp2_with fail
  refine (IA.out w1 W1.out).mono ?_
  rintro e w2 ⟨rfl, b2⟩
  have B2 := Lib.hid (B1.out.trans (b2.mono B1.out.size))
  have W2 := Lib.hid (G.out w2 B2.out)
  clear b2
  have HB2 := Lib.hid (HB.out.below B2.out)
  go_wp2_with fail
  refine (draw.drawReadAmount a len cap w2 HB2.out hb).mono ?_
  rintro e w3 ⟨d, t, t1, rfl, b3⟩
  have B3 := Lib.hid (B2.out.trans (b3.mono B2.out.size))
  have W3 := Lib.hid (G.out w3 B3.out)
  clear b3
  obtain ⟨v, q, sv, hq, _⟩ := ram.same2 d t (by omega)
  have RI := Lib.hid (fun (w : World) (g : Good m w) => sv.2 w m g.cur g.pow g.len)
  have RS := Lib.hid sv.1
  have IV := Lib.hid (fun (w : World) (g : Good m w) => amt.impl d v w g.cur g.pow)
  clear sv
  go_wp2_with fail
  refine (RI.out w3 W3.out).mono ?_
  rintro e w4 ⟨rfl, b4⟩
  have B4 := Lib.hid (B3.out.trans (b4.mono B3.out.size))
  have W4 := Lib.hid (G.out w4 B4.out)
  clear b4
  go_wp2_with fail
  refine (RS.out w4).mono ?_
  rintro e w5 ⟨rfl, b5⟩
  have B5 := Lib.hid (B4.out.trans (b5.mono B4.out.size))
  have W5 := Lib.hid (G.out w5 B5.out)
  clear b5
  go_wp2_with fail
  refine (SA.out w5).mono ?_
  rintro e w6 ⟨rfl, b6⟩
  have B6 := Lib.hid (B5.out.trans (b6.mono B5.out.size))
  have W6 := Lib.hid (G.out w6 B6.out)
  clear b6
  cases q with
  | false =>
    clear hq
    rcases hzo with ⟨rfl, rfl, hs⟩ | ⟨rfl, rfl⟩
    · have RR := Lib.hid (RZ.out w6 W6.out)
      go_wp2_with fail
      refine (RR.out).mono ?_
      rintro e w7 ⟨rfl, b7⟩
      have B7 := Lib.hid (B6.out.trans (b7.mono B6.out.size))
      have W7 := Lib.hid (G.out w7 B7.out)
      clear b7
      go_wp2
      go_ret
      exact ⟨rfl, B7.out⟩
    · have RR := Lib.hid (RZ.out w6 W6.out)
      go_wp2_with fail
      refine (RR.out).mono ?_
      rintro e w7 ⟨rfl, b7⟩
      have B7 := Lib.hid (B6.out.trans (b7.mono B6.out.size))
      have W7 := Lib.hid (G.out w7 B7.out)
      clear b7
      go_wp2
      go_ret
      exact ⟨rfl, B7.out⟩
  | true =>
    have he := (hq rfl).2
    rw [he] at IV
    clear hq he
    go_wp2_with fail
    refine (IV.out w6 W6.out).mono ?_
    rintro e w7 ⟨rfl, b7⟩
    have B7 := Lib.hid (B6.out.trans (b7.mono B6.out.size))
    have W7 := Lib.hid (G.out w7 B7.out)
    clear b7
    rcases hzo with ⟨rfl, rfl, hs⟩ | ⟨rfl, rfl⟩
    · have RR := Lib.hid (RZ.out w7 W7.out)
      go_wp2_with fail
      refine (RR.out).mono ?_
      rintro e w8 ⟨rfl, b8⟩
      have B8 := Lib.hid (B7.out.trans (b8.mono B7.out.size))
      have W8 := Lib.hid (G.out w8 B8.out)
      clear b8
      go_wp2
      go_ret
      exact ⟨rfl, B8.out⟩
    · have RR := Lib.hid (RZ.out w7 W7.out)
      go_wp2_with fail
      refine (RR.out).mono ?_
      rintro e w8 ⟨rfl, b8⟩
      have B8 := Lib.hid (B7.out.trans (b8.mono B7.out.size))
      have W8 := Lib.hid (G.out w8 B8.out)
      clear b8
      go_wp2
      go_ret
      exact ⟨rfl, B8.out⟩

theorem walk (a : Option Addr) (len cap : Nat) (m : Int) (w : World) (hl : len ≤ maxLen) (hB : draw.Bytes w a len) (g : Good m w) : Calls Tryd.prog 4 #[.slice a len cap] w fun e w' => e = .returned (.bool true) ∧ Below w.heap.size w w' := by
  by_cases hb : 1048576 < len
  · exact walk_big a len cap w hl hb
  · exact walk_small a len cap m w (by omega) hB g

theorem isLaw : lift.IsLaw Rows.fnAmountsSpec 1 1 := fun _ ds gs h1 h2 => match ds, h1 with | [_], _ => match gs, h2 with | [_], _ => rfl

theorem laid_met (os : Os) : laidMetH Tryd.prog Rows.fnAmountsRow.laid ((World.doorLaid Tryd.prog 400 os).forCall (fun _ _ => 0) ⟨#[], #[.slice none 0 0], []⟩).memory :=
  laidMetH_of_parts3 (fuel := 8) (laidMet_of_run' 8 (by kernel_rfl) (by kernel_rfl)) (by kernel_rfl) (by kernel_rfl)

theorem reads (os : Os) {H : Type} (enc : TypeId × Value → H) : ∃ gs places, DataW.whole enc Tryd.prog ((World.doorLaid Tryd.prog 400 os).forCall (fun _ _ => 0) ⟨#[], #[.slice none 0 0], []⟩).memory Tryd.f4.params.toList Rows.fnAmountsSpec.vars false (#[.slice none 0 0] : Array Value).toList 8 = some ([.nil], gs, places) :=
  ⟨[Rows.laid_loop_example_g00714_impl_currencies], MemPlace.row ⟨0, 0, none⟩ 12, by kernel_rfl⟩

set_option maxRecDepth 100000 in
theorem lifted (os : Os) (started : os.Started) (H : Type) (enc : TypeId × Value → H) (F : Stop.Interp) :
    ReturnsInHanded {} Tryd.checked os 4 .any ((OpenSpec.ofChange Rows.fnAmountsSpec).preRow enc Tryd.prog Tryd.f4 [] false Rows.fnAmountsRow.laid) (((OpenSpec.ofChange Rows.fnAmountsSpec).at F).post enc Tryd.prog Tryd.f4 false true false false) := by
  obtain ⟨gs, places, hx⟩ := reads os enc
  refine lift.law_lift2 (C := Tryd.checked) (tb := 4) base.own started (by kernel_rfl) Tryd.func4 base.laidOut (by kernel_rfl) (by kernel_rfl) (by kernel_rfl) Tryd.underlying4 (by rw [Tryd.params4]; exact isLaw)
    (witness_row_at (enc := enc) (C := Tryd.checked) false (World.doorLaid Tryd.prog 400 os) #[.slice none 0 0] rfl (by kernel_rfl) (by kernel_rfl) (by kernel_rfl)
      (OpenSpec.preRow_of_cond 8 hx (by kernel_rfl) (fun k hk => by cases hk) (by kernel_rfl) (laid_met os))) ?_
  intro W b0 args ds p hval hA hL hS
  rw [Tryd.params4] at hA hval
  obtain ⟨v0, d0, rfl, rfl, h0⟩ := trodAll_one hA
  obtain ⟨a, len, cap, rfl, hlen, hB⟩ := draw.open_code Tryd.underlying22 Tryd.underlying5 (by kernel_rfl) (hval 0 22 v0 rfl rfl) h0
  obtain ⟨m, hm⟩ := Tryd.laysM219.s1_3 W hS
  exact walk a len cap m W hlen hB ⟨amt.cur_four hL, amt.pow_four hL, hm⟩

theorem said : Rows.FnAmountsSaid :=
  OpenClaim.holds_of_cond 4 Tryd.f4 rfl rfl rfl rfl rfl rfl rfl ⟨rfl, rfl, rfl, rfl, rfl⟩ rfl rfl rfl rfl rfl (by kernel_rfl) Tryd.func4 (by kernel_rfl)
    (of_decide_eq_true (by kernel_rfl)) (by unfold Func.isWrapper; first | (rw [if_pos (by decide +kernel)]; kernel_rfl) | (rw [if_neg (by decide +kernel)]; exact ⟨rfl, rfl⟩))
    (fun os started H enc _ F => by rw [OpenClaim.pre_eq_preRow]; exact lifted os started H enc F)

theorem plain (f : FuncId) (fn : Func) (hf : Tryd.pinned.checked.prog.funcNamed "loop.example/g00714/laws.FnAmounts" = some f) (hfn : Tryd.pinned.checked.prog.funcs[f]? = some fn) :
    false = Tryd.pinned.checked.prog.looks [] ∧ ∀ (j : Nat) t, fn.params[j]? = some t → Tryd.pinned.checked.prog.wantsStandIn t = false := by
  obtain rfl : f = 4 := Option.some.inj ((show Tryd.prog.funcNamed "loop.example/g00714/laws.FnAmounts" = some 4 by kernel_rfl).symm.trans hf) |>.symm
  obtain rfl : fn = Tryd.f4 := (Option.some.inj (Tryd.func4.symm.trans hfn)).symm
  refine ⟨by kernel_rfl, fun j t ht => ?_⟩
  rw [Tryd.params4] at ht
  have hm : t ∈ [22] := by simpa using Array.mem_of_getElem? ht
  have hall : ([22].all fun u => !Tryd.prog.wantsStandIn u) = true := by kernel_rfl
  exact (show Tryd.prog.wantsStandIn t = false by simpa using List.all_eq_true.1 hall t hm)

theorem card : Rows.FnAmountsCardSaid :=
  Claim7.holds_tied_plain_at .later [] _ _ _ _ said (fun _ h => by cases h) (by kernel_rfl) (fun _ h => by cases h) fnAmounts_row_tie rfl ⟨rfl, rfl⟩ (by kernel_rfl) rfl plain (by kernel_rfl)
#print axioms card
end Go.Proofs.YtlpeadkkkmpccaaDoor.fnAmounts
