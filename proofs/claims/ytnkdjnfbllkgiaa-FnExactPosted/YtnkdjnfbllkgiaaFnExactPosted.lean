/-
  Proved: for every ledger and batch, the landed Posted answers as its model does, in memory of its own, and writes into no argument; the law laws.FnExactPosted returns true and its arguments read as before. Conditions: none beyond the given row.
-/
import Derived.Test.YtnkdjnfbllkgiaaPrLen
import Derived.Test.YtnkdjnfbllkgiaaCopy
import Derived.Test.YtnkdjnfbllkgiaaEqS
import Derived.Test.YtnkdjnfbllkgiaaHeld5
import Derived.Test.YtnkdjnfbllkgiaaMark6
import Derived.Test.YtnkdjnfbllkgiaaOpA
namespace Go.Proofs.Ytnkdjnfbllkgiaa.fnExactPosted
open Go.ChangeShapes Go.WideShapes Go.ChangeAt Go.RowKit


theorem walk_big (a a' : Option Addr) (len len' cap cap' : Nat) (w : World) (hl : len ≤ maxLen) (hb : 1048576 < len) : Calls Try.prog 8 #[.slice a len cap, .slice a' len' cap'] w fun e w' => e = .returned (.bool true) ∧ Below w.heap.size w w' := by
  unfold maxLen at hl
  have t1 : decide ((1048576 : Int) < (len : Int)) = true := by simp; omega
  go_enter Try.func8, Try.ntmps8
  go_wp2
  go_ret
  exact ⟨rfl, Below.refl _ _⟩
theorem walk_big2 (a a' : Option Addr) (len len' cap cap' : Nat) (w : World) (hl : len' ≤ maxLen) (h1 : len ≤ 1048576) (hb : 1048576 - len < len') : Calls Try.prog 8 #[.slice a len cap, .slice a' len' cap'] w fun e w' => e = .returned (.bool true) ∧ Below w.heap.size w w' := by
  unfold maxLen at hl
  obtain ⟨m, hm⟩ : ∃ m, m = 1048576 - len := ⟨_, rfl⟩
  go_enter Try.func8, Try.ntmps8
  go_wp2_with fail
  refine (five.szOk a len cap 1048576 w h1 (Nat.le_refl _)).mono ?_
  rintro e w' ⟨rfl, rfl⟩
  rw [← hm]
  have b1 : m < len' := by omega
  have b2 : m ≤ 1048576 := by omega
  have t1 : decide ((m : Int) < (len' : Int)) = true := by simp; omega
  have t1' : decide (m < len') = true := by simp; omega
  clear hm hb
  go_wp2
  go_ret
  exact ⟨rfl, Below.refl _ _⟩
set_option maxRecDepth 100000 in
set_option maxHeartbeats 8000000 in
theorem walk_small (a a' : Option Addr) (cap cap' : Nat) (l0 b0 : List led.F5) (w : World) (hI : five.Inp w a l0) (hI' : five.Inp w a' b0) (hn : l0.length + b0.length ≤ 1048576) : Calls Try.prog 8 #[.slice a l0.length cap, .slice a' b0.length cap'] w fun e w' => e = .returned (.bool true) ∧ Below w.heap.size w w' := by
  have HI := Lib.hid hI
  have HI' := Lib.hid hI'
  clear hI hI'
  have lp : (mp.pr l0 b0).length ≤ 400 := mp.pr_len l0 b0
  have CS := fun w0 g g' (r : five.Row w0 (some ⟨g, 0, none⟩) l0.length g l0) (hg : g < w0.heap.size) (r' : five.Row w0 (some ⟨g', 0, none⟩) b0.length g' b0) => mp.psS w0 (some ⟨g', 0, none⟩) l0.length b0.length g g' l0 b0 r hg r' (by omega) (by omega)
  have CI := fun w0 g g' (r : five.Row w0 (some ⟨g, 0, none⟩) l0.length g l0) (r' : five.Row w0 (some ⟨g', 0, none⟩) b0.length g' b0) => mp.psI w0 (some ⟨g, 0, none⟩) (some ⟨g', 0, none⟩) l0.length b0.length g g' l0 b0 r r' (by omega) (by omega)
  unfold mp.Psd at CS CI
  generalize mp.pr l0 b0 = P at CS CI lp
  generalize mp.pc l0 b0 = c at CS CI
  have CSh := Lib.hid CS
  have CIh := Lib.hid CI
  clear CS CI
  have tc : (c != c) = false := by simp
  obtain ⟨m, hm⟩ : ∃ m, m = 1048576 - l0.length := ⟨_, rfl⟩
  have BB := Lib.hid (Below.refl w.heap.size w)
  go_enter Try.func8, Try.ntmps8
  go_wp2_with fail
  refine (five.szOk a l0.length cap 1048576 w (by omega) (Nat.le_refl _)).mono ?_
  rintro e w' ⟨rfl, rfl⟩
  rw [← hm]
  have hml : m ≤ 1048576 := by omega
  have hmb : b0.length ≤ m := by omega
  have hmm : m + l0.length = 1048576 := by omega
  clear hm
  go_wp2_with fail
  refine (five.szOk a' b0.length cap' m w hmb hml).mono ?_
  rintro e w' ⟨rfl, rfl⟩
  go_wp2_with fail
  refine (five.copy a cap l0 w (HI.out.below BB.out) (by omega)).mono ?_
  rintro e w1 ⟨g1, rfl, r0, lg1, kg1, bb⟩
  replace BB := Lib.hid (BB.out.trans (bb.mono BB.out.size))
  have z1 := bb.size
  clear bb
  have R1 := Lib.hid r0
  clear r0
  go_wp2_with fail
  refine (five.copy a' cap' b0 w1 (HI'.out.below BB.out) (by omega)).mono ?_
  rintro e w2 ⟨g2, rfl, r0, lg2, kg2, bb⟩
  replace BB := Lib.hid (BB.out.trans (bb.mono BB.out.size))
  have z2 := bb.size
  replace R1 := Lib.hid (R1.out.keep (w' := w2) fun h => bb.block g1 (by omega))
  clear bb
  have R2 := Lib.hid r0
  clear r0
  go_wp2_with fail
  refine (CSh.out w2 g1 g2 R1.out (by omega) R2.out).mono ?_
  rintro e w3 ⟨a3, c3, g3, rfl, r0, G0, bb⟩
  replace BB := Lib.hid (BB.out.trans (bb.mono BB.out.size))
  have z3 := bb.size
  replace R1 := Lib.hid (R1.out.keep (w' := w3) fun h => bb.block g1 (by omega))
  replace R2 := Lib.hid (R2.out.keep (w' := w3) fun h => bb.block g2 (by omega))
  clear bb
  have R3 := Lib.hid r0
  have GR3 := Lib.hid G0
  clear r0 G0 R1 R2
  go_wp2_with fail
  refine (five.copy a cap l0 w3 (HI.out.below BB.out) (by omega)).mono ?_
  rintro e w4 ⟨gx, rfl, r0, lgx, kgx, bb⟩
  replace BB := Lib.hid (BB.out.trans (bb.mono BB.out.size))
  have z4 := bb.size
  replace R3 := Lib.hid (R3.out.keep (w' := w4) fun h => bb.block g3 (by have := (GR3.out h).2; omega))
  clear bb
  have RX := Lib.hid r0
  clear r0
  go_wp2_with fail
  refine (five.copy a' cap' b0 w4 (HI'.out.below BB.out) (by omega)).mono ?_
  rintro e w5 ⟨gy, rfl, r0, lgy, kgy, bb⟩
  replace BB := Lib.hid (BB.out.trans (bb.mono BB.out.size))
  have z5 := bb.size
  replace R3 := Lib.hid (R3.out.keep (w' := w5) fun h => bb.block g3 (by have := (GR3.out h).2; omega))
  replace RX := Lib.hid (RX.out.keep (w' := w5) fun h => bb.block gx (by omega))
  clear bb
  have RY := Lib.hid r0
  clear r0
  go_wp2_with fail
  refine (CIh.out w5 gx gy RX.out RY.out).mono ?_
  rintro e w6 ⟨ag, cg, gg, rfl, r0, G0, bb⟩
  replace BB := Lib.hid (BB.out.trans (bb.mono BB.out.size))
  have z6 := bb.size
  replace R3 := Lib.hid (R3.out.keep (w' := w6) fun h => bb.block g3 (by have := (GR3.out h).2; omega))
  replace RX := Lib.hid (RX.out.keep (w' := w6) fun h => bb.block gx (by omega))
  replace RY := Lib.hid (RY.out.keep (w' := w6) fun h => bb.block gy (by omega))
  clear bb
  have RG := Lib.hid r0
  have GRG := Lib.hid G0
  clear r0 G0
  go_wp2_with fail
  refine (five.eqT w6 ag a3 cg c3 gg g3 P RG.out R3.out (by omega)).mono ?_
  rintro e w7 ⟨rfl, bb⟩
  replace BB := Lib.hid (BB.out.trans (bb.mono BB.out.size))
  have z7 := bb.size
  replace R3 := Lib.hid (R3.out.keep (w' := w7) fun h => bb.block g3 (by have := (GR3.out h).2; omega))
  replace RX := Lib.hid (RX.out.keep (w' := w7) fun h => bb.block gx (by omega))
  replace RY := Lib.hid (RY.out.keep (w' := w7) fun h => bb.block gy (by omega))
  replace RG := Lib.hid (RG.out.keep (w' := w7) fun h => bb.block gg (by have := (GRG.out h).2; omega))
  clear bb
  go_wp2_with fail
  refine (five.copy a cap l0 w7 (HI.out.below BB.out) (by omega)).mono ?_
  rintro e w8 ⟨gz, rfl, r0, lgz, kgz, bb⟩
  replace BB := Lib.hid (BB.out.trans (bb.mono BB.out.size))
  have z8 := bb.size
  replace R3 := Lib.hid (R3.out.keep (w' := w8) fun h => bb.block g3 (by have := (GR3.out h).2; omega))
  replace RX := Lib.hid (RX.out.keep (w' := w8) fun h => bb.block gx (by omega))
  replace RY := Lib.hid (RY.out.keep (w' := w8) fun h => bb.block gy (by omega))
  replace RG := Lib.hid (RG.out.keep (w' := w8) fun h => bb.block gg (by have := (GRG.out h).2; omega))
  clear bb
  have RZ := Lib.hid r0
  clear r0
  go_wp2_with fail
  refine (five.eqT w8 _ _ _ _ gx gz l0 RX.out RZ.out (by omega)).mono ?_
  rintro e w9 ⟨rfl, bb⟩
  replace BB := Lib.hid (BB.out.trans (bb.mono BB.out.size))
  have z9 := bb.size
  replace R3 := Lib.hid (R3.out.keep (w' := w9) fun h => bb.block g3 (by have := (GR3.out h).2; omega))
  replace RX := Lib.hid (RX.out.keep (w' := w9) fun h => bb.block gx (by omega))
  replace RY := Lib.hid (RY.out.keep (w' := w9) fun h => bb.block gy (by omega))
  replace RG := Lib.hid (RG.out.keep (w' := w9) fun h => bb.block gg (by have := (GRG.out h).2; omega))
  replace RZ := Lib.hid (RZ.out.keep (w' := w9) fun h => bb.block gz (by omega))
  clear bb
  clear RZ
  go_wp2_with fail
  refine (five.copy a' cap' b0 w9 (HI'.out.below BB.out) (by omega)).mono ?_
  rintro e w10 ⟨gu, rfl, r0, lgu, kgu, bb⟩
  replace BB := Lib.hid (BB.out.trans (bb.mono BB.out.size))
  have z10 := bb.size
  replace R3 := Lib.hid (R3.out.keep (w' := w10) fun h => bb.block g3 (by have := (GR3.out h).2; omega))
  replace RX := Lib.hid (RX.out.keep (w' := w10) fun h => bb.block gx (by omega))
  replace RY := Lib.hid (RY.out.keep (w' := w10) fun h => bb.block gy (by omega))
  replace RG := Lib.hid (RG.out.keep (w' := w10) fun h => bb.block gg (by have := (GRG.out h).2; omega))
  clear bb
  have RU := Lib.hid r0
  clear r0
  go_wp2_with fail
  refine (five.eqT w10 _ _ _ _ gy gu b0 RY.out RU.out (by omega)).mono ?_
  rintro e w11 ⟨rfl, bb⟩
  replace BB := Lib.hid (BB.out.trans (bb.mono BB.out.size))
  have z11 := bb.size
  replace R3 := Lib.hid (R3.out.keep (w' := w11) fun h => bb.block g3 (by have := (GR3.out h).2; omega))
  replace RX := Lib.hid (RX.out.keep (w' := w11) fun h => bb.block gx (by omega))
  replace RY := Lib.hid (RY.out.keep (w' := w11) fun h => bb.block gy (by omega))
  replace RG := Lib.hid (RG.out.keep (w' := w11) fun h => bb.block gg (by have := (GRG.out h).2; omega))
  replace RU := Lib.hid (RU.out.keep (w' := w11) fun h => bb.block gu (by omega))
  clear bb
  clear RU
  go_wp2_with fail
  refine (five.mark w11 _ _ gx l0 RX.out (by omega)).mono ?_
  rintro e w12 ⟨rfl, hk⟩
  have z12 : w12.heap.size = w11.heap.size := hk.size
  replace RY := Lib.hid (RY.out.keep (w' := w12) fun h => hk.other gy (fun e => by omega))
  replace R3 := Lib.hid (R3.out.keep (w' := w12) fun h => hk.other g3 (fun e => by have := (GR3.out h).2; omega))
  replace RG := Lib.hid (RG.out.keep (w' := w12) fun h => hk.other gg (fun e => by have := (GRG.out h).1; omega))
  replace BB := Lib.hid (BB.out.trans (hk.below (B := w.heap.size) (fun _ => by omega)))
  clear hk RX
  obtain ⟨s, hs⟩ : ∃ s : Int, s = 1 + ((l0.length * 5 : Nat) : Int) := ⟨_, rfl⟩
  have s1 : 0 ≤ s := by omega
  have s2 : s ≤ 6000000 := by omega
  try rw [← hs]
  try rw [show (1 : Int) + (l0.length : Int) * 5 = s from by rw [hs]; simp]
  clear hs
  go_wp2_with fail
  refine (five.mark2 w12 _ _ gy b0 s RY.out (by omega) s1 (by omega)).mono ?_
  rintro e w13 ⟨rfl, hz, ho, hb⟩
  have z13 : w13.heap.size = w12.heap.size := hz
  replace R3 := Lib.hid (R3.out.keep (w' := w13) fun h => ho g3 (fun _ => by have := (GR3.out h).2; omega))
  replace RG := Lib.hid (RG.out.keep (w' := w13) fun h => ho gg (fun _ => by have := (GRG.out h).1; omega))
  replace BB := Lib.hid (BB.out.trans (hb w.heap.size (fun _ => by omega)))
  clear hz ho hb RY
  have p1 : decide (s + (b0.length : Int) * 5 < 0) = false := by simp; omega
  have p1' : decide (s + ((b0.length * 5 : Nat) : Int) < 0) = false := by simp; omega
  go_wp2_with fail
  refine (five.eqT w13 ag a3 cg c3 gg g3 P RG.out R3.out (by omega)).mono ?_
  rintro e w14 ⟨rfl, bb⟩
  replace BB := Lib.hid (BB.out.trans (bb.mono BB.out.size))
  have z14 := bb.size
  replace R3 := Lib.hid (R3.out.keep (w' := w14) fun h => bb.block g3 (by have := (GR3.out h).2; omega))
  replace RG := Lib.hid (RG.out.keep (w' := w14) fun h => bb.block gg (by have := (GRG.out h).2; omega))
  clear bb
  go_wp2_with fail
  refine (five.mark w14 ag cg gg P RG.out (by omega)).mono ?_
  rintro e w15 ⟨rfl, hk⟩
  have z15 : w15.heap.size = w14.heap.size := hk.size
  have MK := Lib.hid (show five.Mks w15 ag cg gg P.length from ⟨RG.out.addr, RG.out.room, hk.done⟩)
  replace R3 := Lib.hid (R3.out.keep (w' := w15) fun h => hk.other g3 (fun e => by have := (GR3.out h).2; have := (GRG.out h).1; omega))
  replace BB := Lib.hid (BB.out.trans (hk.below (B := w.heap.size) (fun hp => by have := (GRG.out (by omega)).1; omega)))
  clear hk RG
  go_wp2_with fail
  refine (five.held w15 ag cg gg P.length MK.out (by omega)).mono ?_
  rintro e w' ⟨rfl, rfl⟩
  have p2 : decide (1 + (P.length : Int) * 5 < 0) = false := by simp; omega
  have p2' : decide (1 + ((P.length * 5 : Nat) : Int) < 0) = false := by simp; omega
  have p3 : (1 + (P.length : Int) * 5 != 1 + (P.length : Int) * 5) = false := by simp
  have p3' : (1 + ((P.length * 5 : Nat) : Int) != 1 + ((P.length * 5 : Nat) : Int)) = false := by simp
  have GMK := Lib.hid GRG.out
  go_wp2_with fail
  refine (five.copy a cap l0 w15 (HI.out.below BB.out) (by omega)).mono ?_
  rintro e w16 ⟨ga, rfl, r0, lga, kga, bb⟩
  replace BB := Lib.hid (BB.out.trans (bb.mono BB.out.size))
  have z16 := bb.size
  replace R3 := Lib.hid (R3.out.keep (w' := w16) fun h => bb.block g3 (by have := (GR3.out h).2; omega))
  replace MK := Lib.hid (MK.out.keep (w' := w16) fun h => bb.block gg (by have := (GMK.out h).2; omega))
  clear bb
  have RA := Lib.hid r0
  clear r0
  go_wp2_with fail
  refine (five.copy a' cap' b0 w16 (HI'.out.below BB.out) (by omega)).mono ?_
  rintro e w17 ⟨gb, rfl, r0, lgb, kgb, bb⟩
  replace BB := Lib.hid (BB.out.trans (bb.mono BB.out.size))
  have z17 := bb.size
  replace R3 := Lib.hid (R3.out.keep (w' := w17) fun h => bb.block g3 (by have := (GR3.out h).2; omega))
  replace MK := Lib.hid (MK.out.keep (w' := w17) fun h => bb.block gg (by have := (GMK.out h).2; omega))
  replace RA := Lib.hid (RA.out.keep (w' := w17) fun h => bb.block ga (by omega))
  clear bb
  have RB := Lib.hid r0
  clear r0
  go_wp2_with fail
  refine (CIh.out w17 ga gb RA.out RB.out).mono ?_
  rintro e w18 ⟨ah, ch, gh, rfl, r0, G0, bb⟩
  replace BB := Lib.hid (BB.out.trans (bb.mono BB.out.size))
  have z18 := bb.size
  replace R3 := Lib.hid (R3.out.keep (w' := w18) fun h => bb.block g3 (by have := (GR3.out h).2; omega))
  replace MK := Lib.hid (MK.out.keep (w' := w18) fun h => bb.block gg (by have := (GMK.out h).2; omega))
  replace RA := Lib.hid (RA.out.keep (w' := w18) fun h => bb.block ga (by omega))
  replace RB := Lib.hid (RB.out.keep (w' := w18) fun h => bb.block gb (by omega))
  clear bb
  have RH := Lib.hid r0
  have GRH := Lib.hid G0
  clear r0 G0 RA RB
  go_wp2_with fail
  refine (five.eqT w18 ah a3 ch c3 gh g3 P RH.out R3.out (by omega)).mono ?_
  rintro e w19 ⟨rfl, bb⟩
  replace BB := Lib.hid (BB.out.trans (bb.mono BB.out.size))
  have z19 := bb.size
  replace R3 := Lib.hid (R3.out.keep (w' := w19) fun h => bb.block g3 (by have := (GR3.out h).2; omega))
  replace MK := Lib.hid (MK.out.keep (w' := w19) fun h => bb.block gg (by have := (GMK.out h).2; omega))
  replace RH := Lib.hid (RH.out.keep (w' := w19) fun h => bb.block gh (by have := (GRH.out h).2; omega))
  clear bb
  go_wp2_with fail
  refine (five.held w19 ag cg gg P.length MK.out (by omega)).mono ?_
  rintro e w' ⟨rfl, rfl⟩
  go_wp2
  go_ret
  exact ⟨rfl, BB.out⟩

theorem own : ownKnob Try.prog.godebug = none := by kernel_rfl
theorem laidOut : laidOutB Try.prog = true := by kernel_rfl
theorem isLaw : lift.IsLaw Rows.fnExactPostedSpec 2 0 := fun _ ds gs h1 h2 => match ds, h1 with | [_, _], _ => match gs, h2 with | [], _ => rfl

set_option maxRecDepth 100000 in
theorem lifted (os : Os) (started : os.Started) (H : Type) (enc : TypeId × Value → H) :
    ReturnsInHanded {} Try.checked os 8 .any (Rows.fnExactPostedSpec.pre6 enc Try.prog Try.f8 Rows.fnExactPostedRow.domain false) (Rows.fnExactPostedSpec.post enc Try.prog Try.f8 false true false false) := by
  refine returnsInHanded_of_change (C := Try.checked) own started (by kernel_rfl) Try.func8
    (ChangeSpec.witness6 (enc := enc) (C := Try.checked) false ⟨#[], #[.slice none 0 0, .slice none 0 0], []⟩ 8 (by kernel_rfl) (by kernel_rfl) (by kernel_rfl) (by kernel_rfl)) ?_
  intro W base args ds gs before hval0 hW _ _
  have hval : ∀ (j : Nat) t v, Try.f8.params[j]? = some t → args[j]? = some v → Value.okWide Try.prog W .any base t v := hval0
  have hW' := hW
  obtain ⟨p, q, hA0, hV, hrest⟩ := hW
  have hA : DataW.TrodAll enc Try.prog W 0 (fun _ => true) true Try.f8.params.toList args.toList ds p := hA0
  clear hA0 hval0 hV hrest
  rw [Try.params8] at hA hval
  obtain ⟨v0, v1, d0, d1, p0, p1, rfl, rfl, rfl, h0, h1⟩ := trodAll_two hA
  obtain ⟨a, cap, l, rfl, hlen, hI, wfl⟩ := five.open_posts (hval 0 28 v0 rfl rfl) h0
  obtain ⟨a', cap', l', rfl, hlen', hI', wfl'⟩ := five.open_posts (hval 1 28 v1 rfl rfl) h1
  have wk : Calls Try.prog 8 #[.slice a l.length cap, .slice a' l'.length cap'] W fun e w' => e = .returned (.bool true) ∧ Below W.heap.size W w' := by
    by_cases hb : l.length ≤ 1048576
    · by_cases hb' : l.length + l'.length ≤ 1048576
      · exact walk_small a a' cap cap' l l' W hI hI' hb'
      · exact walk_big2 a a' l.length l'.length cap cap' W hlen' hb (by omega)
    · exact walk_big a a' l.length l'.length cap cap' W hlen (by omega)
  refine (wk).mono fun e W' ⟨he, hb⟩ => ?_
  subst he
  exact ⟨_, rfl, lift.law_post laidOut (by kernel_rfl) (by kernel_rfl) (by kernel_rfl) Try.underlying4 (by rw [Try.params8]; exact isLaw) hW' hb⟩

theorem over : Rows.fnExactPostedRow.holds Try.pinned (OpenSpec.ofChange Rows.fnExactPostedSpec) :=
  OpenClaim.holds_of_wide 8 Try.f8 rfl rfl rfl rfl rfl rfl rfl ⟨rfl, rfl, rfl, rfl, rfl⟩ rfl rfl rfl rfl rfl (by kernel_rfl) Try.func8 (by kernel_rfl)
    (of_decide_eq_true (by kernel_rfl)) (by unfold Func.isWrapper; first | (rw [if_pos (by decide +kernel)]; kernel_rfl) | (rw [if_neg (by decide +kernel)]; exact ⟨rfl, rfl⟩))
    (fun os started H enc _ => lifted os started H enc)

theorem proved : Rows.FnExactPostedSaid := over
#print axioms proved
end Go.Proofs.Ytnkdjnfbllkgiaa.fnExactPosted
