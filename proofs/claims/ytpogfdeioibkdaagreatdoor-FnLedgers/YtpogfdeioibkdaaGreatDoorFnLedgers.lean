/-
  Proved: a ledger is recovered from its text; what is read, written again, is that text (drawn ledgers and texts); the law laws.FnLedgers returns true and its arguments read as before. Conditions: none beyond the given row (the listed tables are as the program's text lays them).
-/
import Derived.Test.YtpogfdeioibkdaaGreatDoorDoz
import Derived.Test.YtpogfdeioibkdaaGreatDoorRli
import Derived.Test.YtpogfdeioibkdaaGreatDoorJdq
import Derived.Test.YtpogfdeioibkdaaGreatDoorSam
namespace Go.Proofs.YtpogfdeioibkdaaGreatDoor.fnLedgers
open Go.ChangeShapes Go.WideShapes Go.ChangeAt Go.RowKit
open Go.ChangeMaps (open_string shut_string)
open led (F5 z5)

theorem rl_small (s : List UInt8) : (ptm.rl s).1.length ≤ 400 := by
  unfold ptm.rl
  split
  · rename_i h
    exact ptm.lv_len h.2.2
  · simp
/-- A ledger is recovered from its text. -/
theorem rl_ltx {l : List F5} (h : led.lv l = true) : ptm.rl (ptm.ltxt l) = (l, true) := by
  have e : ptm.ltxt l = ptm.ltx l := by unfold ptm.ltxt; rw [if_pos h]
  have pk : ∀ x ∈ l, ptm.pok x = true := fun x hx => by
    obtain ⟨k, hk, rfl⟩ := List.getElem_of_mem hx
    have := ptm.fine_pok h hk
    rwa [List.getD_eq_getElem?_getD, List.getElem?_eq_getElem hk] at this
  have e1 : (ptm.ln (ptm.ltx l)).1 = l.map ptm.ptx := by rw [ptm.ln_ltx]
  have e2 : (ptm.ln (ptm.ltx l)).2 = true := by rw [ptm.ln_ltx]
  have ep : ptm.ps (l.map ptm.ptx) = l := by
    unfold ptm.ps
    rw [List.map_map]
    have : ∀ x ∈ l, ((fun x => (ptm.rd x).1) ∘ ptm.ptx) x = x := fun x hx => by
      show (ptm.rd (ptm.ptx x)).1 = x
      rw [ptm.rd_ptx (pk x hx)]
    rw [List.map_congr_left this]
    simp
  have eo : ptm.okl (l.map ptm.ptx) = true := ptm.okl_iff.2 fun y hy => by
    obtain ⟨x, hx, rfl⟩ := List.mem_map.1 hy
    rw [ptm.rd_ptx (pk x hx)]
  rw [e]
  have := ptm.rl_yes (s := ptm.ltx l) (by rw [e1]; exact eo) e2 (by rw [e1, ep]; exact h)
  rw [this, e1, ep]
/-- What is read, written again, is the text. -/
theorem rl_back {s : List UInt8} (h : (ptm.rl s).2 = true) : ptm.ltxt (ptm.rl s).1 = s := by
  unfold ptm.rl at h ⊢
  split at h
  · rename_i q
    rw [if_pos q]
    exact (ptm.ltxt_eq q.1).2 ⟨q.2.1, q.2.2⟩
  · cases h
set_option maxRecDepth 100000 in
theorem walk_big (a : Option Addr) (len cap : Nat) (w : World) (hl : len ≤ maxLen) (hb : 1048576 < len) : Calls Tryz.prog 3 #[.slice a len cap] w fun e w' => e = .returned (.bool true) ∧ Below w.heap.size w w' := by
  go_enter Tryz.func3, Tryz.ntmps3
  go_wp2_with fail
  refine (draw.bigT a len cap w hb hl).mono ?_
  rintro e w' ⟨rfl, rfl⟩
  go_wp2
  go_ret
  exact ⟨rfl, Below.refl _ _⟩
set_option maxRecDepth 100000 in
set_option maxHeartbeats 8000000 in
theorem walk_small (a : Option Addr) (len cap : Nat) (w : World) (hB : draw.Bytes w a len) (hlen : len ≤ 1048576) (cu : cur.Cur w) (po : ptm.Pow w) (hw : 2 < w.heap.size) (m : Int) (hm : w.cell? ⟨1, 0, none⟩ = some (.int .i64 m)) : Calls Tryz.prog 3 #[.slice a len cap] w fun e w' => e = .returned (.bool true) ∧ Below w.heap.size w w' := by
  have lt := cu.lt
  have HB := Lib.hid hB
  have TI := Lib.hid (fun W (hb : Below w.heap.size w W) a c g l r (hn : l.length ≤ 1048577) => ptm.ltI W a c g l r hn (cu.below hb lt) (ptm.Pow.below po hb hw) (Nat.lt_of_lt_of_le hw hb.size))
  have RI := Lib.hid (fun l W (hl : l.length ≤ 1048576) (hb : Below w.heap.size w W) => ptm.rlI l W hl (cu.below hb lt) (ptm.Pow.below po hb hw) (Nat.lt_of_lt_of_le hw hb.size) m ((hb.cell (p := ⟨1, 0, none⟩) (by show 1 < _; omega)).trans hm))
  clear cu po hw lt hm hB
  go_enter Tryz.func3, Tryz.ntmps3
  go_wp2_with fail
  refine (draw.bigF a len cap w hlen).mono ?_
  rintro e w' ⟨rfl, rfl⟩
  go_wp2_with fail
  refine (draw.drawLedger a len cap w HB.out hlen).mono ?_
  rintro e w1 ⟨cl, gl, l, rfl, r0, lg1, lg2, ll, bb⟩
  have BB := Lib.hid bb
  have RL := Lib.hid r0
  have z1 := bb.size
  clear r0 bb
  go_wp2_with fail
  refine (TI.out w1 BB.out (some ⟨gl, 0, none⟩) cl gl l RL.out (by omega)).mono ?_
  rintro e w2 ⟨rfl, bb⟩
  replace BB := Lib.hid (BB.out.trans (bb.mono BB.out.size))
  have z2 := bb.size
  replace RL := Lib.hid (RL.out.keep (w' := w2) fun _ => bb.block gl (by omega))
  clear bb
  go_wp2_with fail
  refine (draw.drawLines a len cap w2 (HB.out.below BB.out) hlen).mono ?_
  rintro e w3 ⟨s, hs, rfl, bb⟩
  replace BB := Lib.hid (BB.out.trans (bb.mono BB.out.size))
  have z3 := bb.size
  replace RL := Lib.hid (RL.out.keep (w' := w3) fun _ => bb.block gl (by omega))
  clear bb
  have RIs := Lib.hid (fun W hb => RI.out s W (by omega) hb)
  have RSs := Lib.hid (fun W => ptm.rlS s W (by omega))
  have RB := Lib.hid (fun h => rl_back (s := s) h)
  have sm := rl_small s
  have LL := Lib.hid (draw.ltxt_len l)
  unfold ptm.GotR at RIs RSs
  obtain ⟨P, hP⟩ : ∃ P, P = (ptm.rl s).1 := ⟨_, rfl⟩
  obtain ⟨t, ht⟩ : ∃ t, t = (ptm.rl s).2 := ⟨_, rfl⟩
  rw [← hP, ← ht] at RIs RSs RB
  rw [← hP] at sm
  clear hP ht
  go_wp2_with fail
  refine (RIs.out w3 BB.out).mono ?_
  rintro e w4 ⟨ax, cx, gx, rfl, r0, G0, bb⟩
  replace BB := Lib.hid (BB.out.trans (bb.mono BB.out.size))
  have z4 := bb.size
  replace RL := Lib.hid (RL.out.keep (w' := w4) fun _ => bb.block gl (by omega))
  have RX := Lib.hid r0
  have GX := Lib.hid G0
  clear r0 G0 bb
  go_wp2_with fail
  refine (RSs.out w4).mono ?_
  rintro e w5 ⟨ay, cy, gy, rfl, r0, G0, bb⟩
  replace BB := Lib.hid (BB.out.trans (bb.mono BB.out.size))
  have z5 := bb.size
  replace RL := Lib.hid (RL.out.keep (w' := w5) fun _ => bb.block gl (by omega))
  replace RX := Lib.hid (RX.out.keep (w' := w5) fun h => bb.block gx (by have := (GX.out h).2; omega))
  have RY := Lib.hid r0
  have GY := Lib.hid G0
  clear r0 G0 bb RSs
  go_wp2_with fail
  refine (ptm.ltS w5 (some ⟨gl, 0, none⟩) cl gl l RL.out (by omega)).mono ?_
  rintro e w6 ⟨rfl, bb⟩
  replace BB := Lib.hid (BB.out.trans (bb.mono BB.out.size))
  have z6 := bb.size
  replace RL := Lib.hid (RL.out.keep (w' := w6) fun _ => bb.block gl (by omega))
  replace RX := Lib.hid (RX.out.keep (w' := w6) fun h => bb.block gx (by have := (GX.out h).2; omega))
  replace RY := Lib.hid (RY.out.keep (w' := w6) fun h => bb.block gy (by have := (GY.out h).2; omega))
  clear bb
  have RT := Lib.hid (fun h => rl_ltx (l := l) h)
  have RIx := Lib.hid (fun W hb => RI.out (ptm.ltxt l) W (by have := LL.out; omega) hb)
  have smx := rl_small (ptm.ltxt l)
  unfold ptm.GotR at RIx
  obtain ⟨tx, htx⟩ : ∃ tx, tx = ptm.ltxt l := ⟨_, rfl⟩
  rw [← htx] at RT RIx smx ⊢
  obtain ⟨P2, hP2⟩ : ∃ P, P = (ptm.rl tx).1 := ⟨_, rfl⟩
  obtain ⟨t2, ht2⟩ : ∃ t, t = (ptm.rl tx).2 := ⟨_, rfl⟩
  rw [← hP2, ← ht2] at RIx
  rw [← hP2] at smx
  have HP2 := Lib.hid hP2
  have HT2 := Lib.hid ht2
  clear htx LL hP2 ht2
  have e1 : (tx != tx) = false := by simp
  have e2 : (tx == tx) = true := by simp
  have e3 : (t != t) = false := by cases t <;> rfl
  cases t with
  | true =>
    go_wp2_with fail
    refine (five.samT w6 ax ay cx cy gx gy P RX.out RY.out (by omega)).mono ?_
    rintro e w7 ⟨rfl, bb⟩
    replace BB := Lib.hid (BB.out.trans (bb.mono BB.out.size))
    have z7 := bb.size
    replace RL := Lib.hid (RL.out.keep (w' := w7) fun _ => bb.block gl (by omega))
    replace RX := Lib.hid (RX.out.keep (w' := w7) fun h => bb.block gx (by have := (GX.out h).2; omega))
    clear bb RY
    have TR := Lib.hid (TI.out w7 BB.out ax cx gx P RX.out (by omega))
    rw [RB.out (by trivial)] at TR
    go_wp2_with fail
    refine TR.out.mono ?_
    rintro e w8 ⟨rfl, bb⟩
    replace BB := Lib.hid (BB.out.trans (bb.mono BB.out.size))
    have z8 := bb.size
    replace RL := Lib.hid (RL.out.keep (w' := w8) fun _ => bb.block gl (by omega))
    have e4 : (s != s) = false := by simp
    have e5 : (s == s) = true := by simp
    clear bb RX
    go_wp2_with fail
    refine (RIx.out w8 BB.out).mono ?_
    rintro e w9 ⟨az, cz, gz, rfl, r0, G0, bb⟩
    replace BB := Lib.hid (BB.out.trans (bb.mono BB.out.size))
    have z9 := bb.size
    replace RL := Lib.hid (RL.out.keep (w' := w9) fun _ => bb.block gl (by omega))
    have RZ := Lib.hid r0
    have GZ := Lib.hid G0
    clear r0 G0 bb
    go_wp2_with fail
    refine (base.lgS w9 (some ⟨gl, 0, none⟩) cl gl l RL.out (by omega)).mono ?_
    rintro e wa ⟨rfl, bb⟩
    replace BB := Lib.hid (BB.out.trans (bb.mono BB.out.size))
    replace RL := Lib.hid (RL.out.keep (w' := wa) fun _ => bb.block gl (by omega))
    replace RZ := Lib.hid (RZ.out.keep (w' := wa) fun h => bb.block gz (by have := (GZ.out h).2; omega))
    clear bb
    cases hv : led.lv l with
    | false =>
      go_wp2
      go_ret
      exact ⟨rfl, BB.out⟩
    | true =>
      have Q := RT.out hv
      have q1 : P2 = l := by rw [HP2.out, Q]
      have q2 : t2 = true := by rw [HT2.out, Q]
      subst q1 q2
      clear Q
      go_wp2_with fail
      refine (five.samT wa az (some ⟨gl, 0, none⟩) cz cl gz gl P2 RZ.out RL.out (by omega)).mono ?_
      rintro e wb ⟨rfl, bb⟩
      replace BB := Lib.hid (BB.out.trans (bb.mono BB.out.size))
      clear bb
      go_wp2
      go_ret
      exact ⟨rfl, BB.out⟩
  | false =>
    go_wp2_with fail
    refine (five.samT w6 ax ay cx cy gx gy P RX.out RY.out (by omega)).mono ?_
    rintro e w8 ⟨rfl, bb⟩
    replace BB := Lib.hid (BB.out.trans (bb.mono BB.out.size))
    have z8 := bb.size
    replace RL := Lib.hid (RL.out.keep (w' := w8) fun _ => bb.block gl (by omega))
    clear bb RX RY
    go_wp2_with fail
    refine (RIx.out w8 BB.out).mono ?_
    rintro e w9 ⟨az, cz, gz, rfl, r0, G0, bb⟩
    replace BB := Lib.hid (BB.out.trans (bb.mono BB.out.size))
    have z9 := bb.size
    replace RL := Lib.hid (RL.out.keep (w' := w9) fun _ => bb.block gl (by omega))
    have RZ := Lib.hid r0
    have GZ := Lib.hid G0
    clear r0 G0 bb
    go_wp2_with fail
    refine (base.lgS w9 (some ⟨gl, 0, none⟩) cl gl l RL.out (by omega)).mono ?_
    rintro e wa ⟨rfl, bb⟩
    replace BB := Lib.hid (BB.out.trans (bb.mono BB.out.size))
    replace RL := Lib.hid (RL.out.keep (w' := wa) fun _ => bb.block gl (by omega))
    replace RZ := Lib.hid (RZ.out.keep (w' := wa) fun h => bb.block gz (by have := (GZ.out h).2; omega))
    clear bb
    cases hv : led.lv l with
    | false =>
      go_wp2
      go_ret
      exact ⟨rfl, BB.out⟩
    | true =>
      have Q := RT.out hv
      have q1 : P2 = l := by rw [HP2.out, Q]
      have q2 : t2 = true := by rw [HT2.out, Q]
      subst q1 q2
      clear Q
      go_wp2_with fail
      refine (five.samT wa az (some ⟨gl, 0, none⟩) cz cl gz gl P2 RZ.out RL.out (by omega)).mono ?_
      rintro e wb ⟨rfl, bb⟩
      replace BB := Lib.hid (BB.out.trans (bb.mono BB.out.size))
      clear bb
      go_wp2
      go_ret
      exact ⟨rfl, BB.out⟩

theorem isLaw : lift.IsLaw Rows.fnLedgersSpec 1 1 := fun _ ds gs h1 h2 => match ds, h1 with | [_], _ => match gs, h2 with | [_], _ => rfl

theorem laid_met (os : Os) : laidMetH Tryz.prog Rows.fnLedgersRow.laid ((World.doorLaid Tryz.prog 400 os).forCall (fun _ _ => 0) ⟨#[], #[.slice none 0 0], []⟩).memory :=
  laidMetH_of_parts3 (fuel := 8) (laidMet_of_run' 8 (by kernel_rfl) (by kernel_rfl)) (by kernel_rfl) (by kernel_rfl)

theorem reads (os : Os) {H : Type} (enc : TypeId × Value → H) : ∃ gs places, DataW.whole enc Tryz.prog ((World.doorLaid Tryz.prog 400 os).forCall (fun _ _ => 0) ⟨#[], #[.slice none 0 0], []⟩).memory Tryz.f3.params.toList Rows.fnLedgersSpec.vars false (#[.slice none 0 0] : Array Value).toList 8 = some ([.nil], gs, places) :=
  ⟨[Rows.laid_loop_example_g00714_impl_currencies], MemPlace.row ⟨0, 0, none⟩ 12, by kernel_rfl⟩

set_option maxRecDepth 100000 in
theorem lifted (os : Os) (started : os.Started) (H : Type) (enc : TypeId × Value → H) (F : Stop.Interp) :
    ReturnsInHanded {} Tryz.checked os 3 .any ((OpenSpec.ofChange Rows.fnLedgersSpec).preRow enc Tryz.prog Tryz.f3 [] false Rows.fnLedgersRow.laid) (((OpenSpec.ofChange Rows.fnLedgersSpec).at F).post enc Tryz.prog Tryz.f3 false true false false) := by
  obtain ⟨gs, places, hx⟩ := reads os enc
  refine lift.law_lift2 (C := Tryz.checked) (tb := 4) doo.own started (by kernel_rfl) Tryz.func3 doo.laidOut (by kernel_rfl) (by kernel_rfl) (by kernel_rfl) Tryz.underlying4 (by rw [Tryz.params3]; exact isLaw)
    (witness_row_at (enc := enc) (C := Tryz.checked) false (World.doorLaid Tryz.prog 400 os) #[.slice none 0 0] rfl (by kernel_rfl) (by kernel_rfl) (by kernel_rfl)
      (OpenSpec.preRow_of_cond 8 hx (by kernel_rfl) (fun k hk => by cases hk) (by kernel_rfl) (laid_met os))) ?_
  intro W b0 args ds p hval hA hL hS
  rw [Tryz.params3] at hA hval
  obtain ⟨v0, d0, rfl, rfl, h0⟩ := trodAll_one hA
  obtain ⟨a, len, cap, rfl, hlen, hB⟩ := draw.open_code Tryz.underlying22 Tryz.underlying5 (by kernel_rfl) (hval 0 22 v0 rfl rfl) h0
  obtain ⟨m, hm⟩ := Tryz.laysM219.s1_3 W hS
  by_cases hb : len ≤ 1048576
  · exact walk_small a len cap W hB hb (doo.cur_four hL) (doo.pow_four hL) (doo.pow_lt (doo.pow_four hL)) m hm
  · exact walk_big a len cap W hlen (by omega)

theorem said : Rows.FnLedgersSaid :=
  OpenClaim.holds_of_cond 3 Tryz.f3 rfl rfl rfl rfl rfl rfl rfl ⟨rfl, rfl, rfl, rfl, rfl⟩ rfl rfl rfl rfl rfl (by kernel_rfl) Tryz.func3 (by kernel_rfl)
    (of_decide_eq_true (by kernel_rfl)) (by unfold Func.isWrapper; first | (rw [if_pos (by decide +kernel)]; kernel_rfl) | (rw [if_neg (by decide +kernel)]; exact ⟨rfl, rfl⟩))
    (fun os started H enc _ F => by rw [OpenClaim.pre_eq_preRow]; exact lifted os started H enc F)

theorem plain (f : FuncId) (fn : Func) (hf : Tryz.pinned.checked.prog.funcNamed "loop.example/g00714/laws.FnLedgers" = some f) (hfn : Tryz.pinned.checked.prog.funcs[f]? = some fn) :
    false = Tryz.pinned.checked.prog.looks [] ∧ ∀ (j : Nat) t, fn.params[j]? = some t → Tryz.pinned.checked.prog.wantsStandIn t = false := by
  obtain rfl : f = 3 := Option.some.inj ((show Tryz.prog.funcNamed "loop.example/g00714/laws.FnLedgers" = some 3 by kernel_rfl).symm.trans hf) |>.symm
  obtain rfl : fn = Tryz.f3 := (Option.some.inj (Tryz.func3.symm.trans hfn)).symm
  refine ⟨by kernel_rfl, fun j t ht => ?_⟩
  rw [Tryz.params3] at ht
  have hm : t ∈ [22] := by simpa using Array.mem_of_getElem? ht
  have hall : ([22].all fun u => !Tryz.prog.wantsStandIn u) = true := by kernel_rfl
  exact (show Tryz.prog.wantsStandIn t = false by simpa using List.all_eq_true.1 hall t hm)

theorem card : Rows.FnLedgersCardSaid :=
  Claim7.holds_tied_plain_at .later [] _ _ _ _ said (fun _ h => by cases h) (by kernel_rfl) (fun _ h => by cases h) fnLedgers_row_tie rfl ⟨rfl, rfl⟩ (by kernel_rfl) rfl plain (by kernel_rfl)
#print axioms card
end Go.Proofs.YtpogfdeioibkdaaGreatDoor.fnLedgers
