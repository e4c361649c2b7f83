/-
  Proved: a post is recovered from its text; what is read, written again, is that text (drawn posts and texts); the law laws.FnPosts returns true and its arguments read as before. Conditions: none beyond the given row (the listed tables are as the program's text lays them).
-/
import Derived.Test.YtpogfdeioibkdaaDoorDoo
import Derived.Test.YtpogfdeioibkdaaDoorRpi
import Derived.Test.YtpogfdeioibkdaaDoorJdp
namespace Go.Proofs.YtpogfdeioibkdaaDoor.fnPosts
open Go.ChangeShapes Go.WideShapes Go.ChangeAt Go.RowKit
open Go.ChangeMaps (open_string shut_string)
open led (F5 z5)

set_option maxRecDepth 100000 in
theorem walk_big (a : Option Addr) (len cap : Nat) (w : World) (hl : len ≤ maxLen) (hb : 1048576 < len) : Calls Tryd.prog 3 #[.slice a len cap] w fun e w' => e = .returned (.bool true) ∧ Below w.heap.size w w' := by
  go_enter Tryd.func3, Tryd.ntmps3
  go_wp2_with fail
  refine (draw.bigT a len cap w hb hl).mono ?_
  rintro e w' ⟨rfl, rfl⟩
  go_wp2
  go_ret
  exact ⟨rfl, Below.refl _ _⟩
set_option maxRecDepth 100000 in
set_option maxHeartbeats 8000000 in
theorem walk_small (a : Option Addr) (len cap : Nat) (w : World) (hB : draw.Bytes w a len) (hlen : len ≤ 1048576) (cu : cur.Cur w) (po : ptm.Pow w) (hw : 2 < w.heap.size) (m : Int) (hm : w.cell? ⟨1, 0, none⟩ = some (.int .i64 m)) : Calls Tryd.prog 3 #[.slice a len cap] w fun e w' => e = .returned (.bool true) ∧ Below w.heap.size w w' := by
  have lt := cu.lt
  have HB := Lib.hid hB
  have TI := Lib.hid (fun x W (hb : Below w.heap.size w W) => ptm.textI x W (cu.below hb lt) (ptm.Pow.below po hb hw) (Nat.lt_of_lt_of_le hw hb.size))
  have RI := Lib.hid (fun l W (hl : l.length ≤ 1048576) (hb : Below w.heap.size w W) => ptm.readI l W hl (cu.below hb lt) (ptm.Pow.below po hb hw) (Nat.lt_of_lt_of_le hw hb.size) m ((hb.cell (p := ⟨1, 0, none⟩) (by show 1 < _; omega)).trans hm))
  clear cu po hw lt hm hB
  go_enter Tryd.func3, Tryd.ntmps3
  go_wp2_with fail
  refine (draw.bigF a len cap w hlen).mono ?_
  rintro e w' ⟨rfl, rfl⟩
  go_wp2_with fail
  refine (draw.drawPost a len cap w HB.out hlen).mono ?_
  rintro e w1 ⟨x, rfl, bb⟩
  have XT := Lib.hid (ptm.txt_len x)
  have PX := Lib.hid (ptm.PF.new w1 x 27)
  have BB := Lib.hid (bb.alloc bb.size (.cells #[.int .i64 x.1, .int .i64 x.2.1, .int .i64 x.2.2.1, .int .i64 x.2.2.2.1, .int .i64 x.2.2.2.2] 27))
  clear bb
  unfold ptm.pv
  have q := PX.out.pb
  obtain ⟨x0, x1, x2, x3, x4⟩ := q
  go_wp2_with fail
  generalize w1.alloc (.cells #[.int .i64 x.1, .int .i64 x.2.1, .int .i64 x.2.2.1, .int .i64 x.2.2.2.1, .int .i64 x.2.2.2.2] 27) = W1 at PX BB x0 x1 x2 x3 x4 ⊢
  obtain ⟨px, hpx⟩ : ∃ px, px = w1.heap.size := ⟨_, rfl⟩
  rw [← hpx] at PX x0 x1 x2 x3 x4 ⊢
  clear hpx x0 x1 x2 x3 x4
  refine (TI.out x W1 BB.out).mono ?_
  rintro e w2 ⟨rfl, bb⟩
  replace BB := Lib.hid (BB.out.trans (bb.mono BB.out.size))
  replace PX := Lib.hid (PX.out.stay bb)
  clear bb
  go_wp2_with fail
  refine (draw.drawText a len cap w2 (HB.out.below BB.out) hlen).mono ?_
  rintro e w3 ⟨l, hl, rfl, bb⟩
  replace BB := Lib.hid (BB.out.trans (bb.mono BB.out.size))
  replace PX := Lib.hid (PX.out.stay bb)
  clear bb
  have RIl := Lib.hid (fun W hb => RI.out l W (by omega) hb)
  have RSl := Lib.hid (fun W => ptm.readS l W (by omega))
  rw [ptm.rd_same] at RSl
  have YS := Lib.hid (fun h => ptm.rd_yes (l := l) h)
  unfold ptm.pv at RIl RSl
  obtain ⟨r, hr⟩ : ∃ r, r = (ptm.rd l).1 := ⟨_, rfl⟩
  obtain ⟨t, ht⟩ : ∃ t, t = (ptm.rd l).2 := ⟨_, rfl⟩
  rw [← hr, ← ht] at RIl RSl YS
  clear hr ht
  go_wp2_with fail
  refine (RIl.out w3 BB.out).mono ?_
  rintro e w4 ⟨rfl, bb⟩
  replace PX := Lib.hid ((PX.out.stay bb).stay ((Below.refl w4.heap.size w4).alloc (Nat.le_refl _) (.cells #[.int .i64 r.1, .int .i64 r.2.1, .int .i64 r.2.2.1, .int .i64 r.2.2.2.1, .int .i64 r.2.2.2.2] 27)))
  replace BB := Lib.hid ((BB.out.trans (bb.mono BB.out.size)).alloc (BB.out.trans (bb.mono BB.out.size)).size (.cells #[.int .i64 r.1, .int .i64 r.2.1, .int .i64 r.2.2.1, .int .i64 r.2.2.2.1, .int .i64 r.2.2.2.2] 27))
  have PR := Lib.hid (ptm.PF.new w4 r 27)
  clear bb
  go_wp2_with fail
  generalize w4.alloc (.cells #[.int .i64 r.1, .int .i64 r.2.1, .int .i64 r.2.2.1, .int .i64 r.2.2.2.1, .int .i64 r.2.2.2.2] 27) = W4 at PX BB PR ⊢
  obtain ⟨pr, hpr⟩ : ∃ pr, pr = w4.heap.size := ⟨_, rfl⟩
  rw [← hpr] at PR ⊢
  clear hpr
  refine (RSl.out W4).mono ?_
  rintro e w5 ⟨rfl, bb⟩
  replace PX := Lib.hid ((PX.out.stay bb).stay ((Below.refl w5.heap.size w5).alloc (Nat.le_refl _) (.cells #[.int .i64 r.1, .int .i64 r.2.1, .int .i64 r.2.2.1, .int .i64 r.2.2.2.1, .int .i64 r.2.2.2.2] 27)))
  replace PR := Lib.hid ((PR.out.stay bb).stay ((Below.refl w5.heap.size w5).alloc (Nat.le_refl _) (.cells #[.int .i64 r.1, .int .i64 r.2.1, .int .i64 r.2.2.1, .int .i64 r.2.2.2.1, .int .i64 r.2.2.2.2] 27)))
  replace BB := Lib.hid ((BB.out.trans (bb.mono BB.out.size)).alloc (BB.out.trans (bb.mono BB.out.size)).size (.cells #[.int .i64 r.1, .int .i64 r.2.1, .int .i64 r.2.2.1, .int .i64 r.2.2.2.1, .int .i64 r.2.2.2.2] 27))
  have PS := Lib.hid (ptm.PF.new w5 r 27)
  clear bb
  obtain ⟨x0, x1, x2, x3, x4⟩ := PX.out.pb
  go_wp2_with fail
  generalize w5.alloc (.cells #[.int .i64 r.1, .int .i64 r.2.1, .int .i64 r.2.2.1, .int .i64 r.2.2.2.1, .int .i64 r.2.2.2.2] 27) = W5 at PX BB PR PS x0 x1 x2 x3 x4 ⊢
  obtain ⟨py, hpy⟩ : ∃ py, py = w5.heap.size := ⟨_, rfl⟩
  rw [← hpy] at PS ⊢
  clear hpy x0 x1 x2 x3 x4
  refine (ptm.textS x W5).mono ?_
  rintro e w6 ⟨rfl, bb⟩
  replace PX := Lib.hid (PX.out.stay bb)
  replace PR := Lib.hid (PR.out.stay bb)
  replace PS := Lib.hid (PS.out.stay bb)
  replace BB := Lib.hid (BB.out.trans (bb.mono BB.out.size))
  clear bb
  have RT := Lib.hid (ptm.rd_txt x)
  have RIx := Lib.hid (fun W hb => RI.out (ptm.txt x) W (by have := XT.out; omega) hb)
  unfold ptm.pv at RIx
  have TR := Lib.hid (fun W hb => TI.out r W hb)
  have YT := Lib.hid (show t = true → ptm.txt r = l from fun h => by obtain ⟨h1, h2⟩ := YS.out h; rw [ptm.txt_yes h1]; exact h2)
  obtain ⟨tx, htx⟩ : ∃ tx, tx = ptm.txt x := ⟨_, rfl⟩
  rw [← htx] at RT RIx ⊢
  clear htx TI RI RIl RSl YS XT
  obtain ⟨r2, hr2⟩ : ∃ r2, r2 = (ptm.rd tx).1 := ⟨_, rfl⟩
  obtain ⟨t2, ht2⟩ : ∃ t2, t2 = (ptm.rd tx).2 := ⟨_, rfl⟩
  rw [← hr2, ← ht2] at RIx RT
  clear hr2 ht2
  have e1 : (tx != tx) = false := by simp
  have e2 : (tx == tx) = true := by simp
  have e3 : (t != t) = false := by cases t <;> rfl
  obtain ⟨y0, y1, y2, y3, y4⟩ := PR.out.pb
  obtain ⟨z0, z1, z2, z3, z4⟩ := PS.out.pb
  cases t with
  | true =>
    rw [YT.out rfl] at TR
    go_wp2_with fail
    refine (TR.out w6 BB.out).mono ?_
    rintro e w7 ⟨rfl, bb⟩
    replace PX := Lib.hid (PX.out.stay bb)
    replace BB := Lib.hid (BB.out.trans (bb.mono BB.out.size))
    have e4 : (l != l) = false := by simp
    have e5 : (l == l) = true := by simp
    clear bb PR PS y0 y1 y2 y3 y4 z0 z1 z2 z3 z4
    go_wp2_with fail
    refine (RIx.out w7 BB.out).mono ?_
    rintro e w8 ⟨rfl, bb⟩
    replace PX := Lib.hid ((PX.out.stay bb).stay ((Below.refl w8.heap.size w8).alloc (Nat.le_refl _) (.cells #[.int .i64 r2.1, .int .i64 r2.2.1, .int .i64 r2.2.2.1, .int .i64 r2.2.2.2.1, .int .i64 r2.2.2.2.2] 27)))
    replace BB := Lib.hid ((BB.out.trans (bb.mono BB.out.size)).alloc (BB.out.trans (bb.mono BB.out.size)).size (.cells #[.int .i64 r2.1, .int .i64 r2.2.1, .int .i64 r2.2.2.1, .int .i64 r2.2.2.2.1, .int .i64 r2.2.2.2.2] 27))
    have PZ := Lib.hid (ptm.PF.new w8 r2 27)
    obtain ⟨x0, x1, x2, x3, x4⟩ := PX.out.pb
    obtain ⟨v0, v1, v2, v3, v4⟩ := PZ.out.pb
    clear bb
    by_cases hE : tx = []
    · have h2 : t2 = false := by cases h : t2 with | false => rfl | true => exact absurd hE (RT.out.1.1 h)
      subst h2 hE
      go_wp2
      go_ret
      exact ⟨rfl, BB.out⟩
    · have h2 : t2 = true := RT.out.1.2 hE
      have h3 : r2 = x := RT.out.2 h2
      subst h2 h3
      have e6 : (tx == ([] : List UInt8)) = false := by simp [hE]
      have e7 : (tx != ([] : List UInt8)) = true := by simp [hE]
      clear hE
      go_wp2
      go_ret
      exact ⟨rfl, BB.out⟩
  | false =>
    go_wp2_with fail
    refine (RIx.out w6 BB.out).mono ?_
    rintro e w8 ⟨rfl, bb⟩
    replace PX := Lib.hid ((PX.out.stay bb).stay ((Below.refl w8.heap.size w8).alloc (Nat.le_refl _) (.cells #[.int .i64 r2.1, .int .i64 r2.2.1, .int .i64 r2.2.2.1, .int .i64 r2.2.2.2.1, .int .i64 r2.2.2.2.2] 27)))
    replace BB := Lib.hid ((BB.out.trans (bb.mono BB.out.size)).alloc (BB.out.trans (bb.mono BB.out.size)).size (.cells #[.int .i64 r2.1, .int .i64 r2.2.1, .int .i64 r2.2.2.1, .int .i64 r2.2.2.2.1, .int .i64 r2.2.2.2.2] 27))
    have PZ := Lib.hid (ptm.PF.new w8 r2 27)
    obtain ⟨x0, x1, x2, x3, x4⟩ := PX.out.pb
    obtain ⟨v0, v1, v2, v3, v4⟩ := PZ.out.pb
    clear bb
    by_cases hE : tx = []
    · have h2 : t2 = false := by cases h : t2 with | false => rfl | true => exact absurd hE (RT.out.1.1 h)
      subst h2 hE
      go_wp2
      go_ret
      exact ⟨rfl, BB.out⟩
    · have h2 : t2 = true := RT.out.1.2 hE
      have h3 : r2 = x := RT.out.2 h2
      subst h2 h3
      have e6 : (tx == ([] : List UInt8)) = false := by simp [hE]
      have e7 : (tx != ([] : List UInt8)) = true := by simp [hE]
      clear hE
      go_wp2
      go_ret
      exact ⟨rfl, BB.out⟩

theorem isLaw : lift.IsLaw Rows.fnPostsSpec 1 1 := fun _ ds gs h1 h2 => match ds, h1 with | [_], _ => match gs, h2 with | [_], _ => rfl

theorem laid_met (os : Os) : laidMetH Tryd.prog Rows.fnPostsRow.laid ((World.doorLaid Tryd.prog 400 os).forCall (fun _ _ => 0) ⟨#[], #[.slice none 0 0], []⟩).memory :=
  laidMetH_of_parts3 (fuel := 8) (laidMet_of_run' 8 (by kernel_rfl) (by kernel_rfl)) (by kernel_rfl) (by kernel_rfl)

theorem reads (os : Os) {H : Type} (enc : TypeId × Value → H) : ∃ gs places, DataW.whole enc Tryd.prog ((World.doorLaid Tryd.prog 400 os).forCall (fun _ _ => 0) ⟨#[], #[.slice none 0 0], []⟩).memory Tryd.f3.params.toList Rows.fnPostsSpec.vars false (#[.slice none 0 0] : Array Value).toList 8 = some ([.nil], gs, places) :=
  ⟨[Rows.laid_loop_example_g00714_impl_currencies], MemPlace.row ⟨0, 0, none⟩ 12, by kernel_rfl⟩

set_option maxRecDepth 100000 in
theorem lifted (os : Os) (started : os.Started) (H : Type) (enc : TypeId × Value → H) (F : Stop.Interp) :
    ReturnsInHanded {} Tryd.checked os 3 .any ((OpenSpec.ofChange Rows.fnPostsSpec).preRow enc Tryd.prog Tryd.f3 [] false Rows.fnPostsRow.laid) (((OpenSpec.ofChange Rows.fnPostsSpec).at F).post enc Tryd.prog Tryd.f3 false true false false) := by
  obtain ⟨gs, places, hx⟩ := reads os enc
  refine lift.law_lift2 (C := Tryd.checked) (tb := 4) doo.own started (by kernel_rfl) Tryd.func3 doo.laidOut (by kernel_rfl) (by kernel_rfl) (by kernel_rfl) Tryd.underlying4 (by rw [Tryd.params3]; exact isLaw)
    (witness_row_at (enc := enc) (C := Tryd.checked) false (World.doorLaid Tryd.prog 400 os) #[.slice none 0 0] rfl (by kernel_rfl) (by kernel_rfl) (by kernel_rfl)
      (OpenSpec.preRow_of_cond 8 hx (by kernel_rfl) (fun k hk => by cases hk) (by kernel_rfl) (laid_met os))) ?_
  intro W b0 args ds p hval hA hL hS
  rw [Tryd.params3] at hA hval
  obtain ⟨v0, d0, rfl, rfl, h0⟩ := trodAll_one hA
  obtain ⟨a, len, cap, rfl, hlen, hB⟩ := draw.open_code Tryd.underlying22 Tryd.underlying5 (by kernel_rfl) (hval 0 22 v0 rfl rfl) h0
  obtain ⟨m, hm⟩ := Tryd.laysM219.s1_3 W hS
  by_cases hb : len ≤ 1048576
  · exact walk_small a len cap W hB hb (doo.cur_four hL) (doo.pow_four hL) (doo.pow_lt (doo.pow_four hL)) m hm
  · exact walk_big a len cap W hlen (by omega)

theorem said : Rows.FnPostsSaid :=
  OpenClaim.holds_of_cond 3 Tryd.f3 rfl rfl rfl rfl rfl rfl rfl ⟨rfl, rfl, rfl, rfl, rfl⟩ rfl rfl rfl rfl rfl (by kernel_rfl) Tryd.func3 (by kernel_rfl)
    (of_decide_eq_true (by kernel_rfl)) (by unfold Func.isWrapper; first | (rw [if_pos (by decide +kernel)]; kernel_rfl) | (rw [if_neg (by decide +kernel)]; exact ⟨rfl, rfl⟩))
    (fun os started H enc _ F => by rw [OpenClaim.pre_eq_preRow]; exact lifted os started H enc F)

theorem plain (f : FuncId) (fn : Func) (hf : Tryd.pinned.checked.prog.funcNamed "loop.example/g00714/laws.FnPosts" = some f) (hfn : Tryd.pinned.checked.prog.funcs[f]? = some fn) :
    false = Tryd.pinned.checked.prog.looks [] ∧ ∀ (j : Nat) t, fn.params[j]? = some t → Tryd.pinned.checked.prog.wantsStandIn t = false := by
  obtain rfl : f = 3 := Option.some.inj ((show Tryd.prog.funcNamed "loop.example/g00714/laws.FnPosts" = some 3 by kernel_rfl).symm.trans hf) |>.symm
  obtain rfl : fn = Tryd.f3 := (Option.some.inj (Tryd.func3.symm.trans hfn)).symm
  refine ⟨by kernel_rfl, fun j t ht => ?_⟩
  rw [Tryd.params3] at ht
  have hm : t ∈ [22] := by simpa using Array.mem_of_getElem? ht
  have hall : ([22].all fun u => !Tryd.prog.wantsStandIn u) = true := by kernel_rfl
  exact (show Tryd.prog.wantsStandIn t = false by simpa using List.all_eq_true.1 hall t hm)

theorem card : Rows.FnPostsCardSaid :=
  Claim7.holds_tied_plain_at .later [] _ _ _ _ said (fun _ h => by cases h) (by kernel_rfl) (fun _ h => by cases h) fnPosts_row_tie rfl ⟨rfl, rfl⟩ (by kernel_rfl) rfl plain (by kernel_rfl)
#print axioms card
end Go.Proofs.YtpogfdeioibkdaaDoor.fnPosts
