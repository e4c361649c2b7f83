/-
  Proved: for every list of posts, the landed Trial answers as its model does, in memory of its own, and writes into no argument; the law laws.FnExactTrial returns true and its arguments read as before. Conditions: none beyond the given row.
-/
import Derived.Test.YtnkdjnfbllkgiaaTrI
import Derived.Test.YtnkdjnfbllkgiaaCopy
import Derived.Test.YtnkdjnfbllkgiaaEqS
import Derived.Test.YtnkdjnfbllkgiaaOpA
import Derived.Test.YtnkdjnfbllkgiaaHeld5
namespace Go.Proofs.Ytnkdjnfbllkgiaa.fnExactTrial
open Go.ChangeShapes Go.WideShapes Go.ChangeAt Go.RowKit


theorem walk_big (a : Option Addr) (len cap : Nat) (w : World) (hl : len ≤ maxLen) (hb : 1048576 < len) : Calls Try.prog 6 #[.slice a len cap] w fun e w' => e = .returned (.bool true) ∧ Below w.heap.size w w' := by
  unfold maxLen at hl
  have t1 : decide ((1048576 : Int) < (len : Int)) = true := by simp; omega
  go_enter Try.func6, Try.ntmps6
  go_wp2
  go_ret
  exact ⟨rfl, Below.refl _ _⟩
set_option maxRecDepth 100000 in
set_option maxHeartbeats 4000000 in
theorem walk_small (a : Option Addr) (cap : Nat) (l0 : List led.F5) (w : World) (hI : five.Inp w a l0) (hn : l0.length ≤ 1048576) : Calls Try.prog 6 #[.slice a l0.length cap] w fun e w' => e = .returned (.bool true) ∧ Below w.heap.size w w' := by
  have HI := Lib.hid hI
  clear hI
  have t1 : decide ((1048576 : Int) < (l0.length : Int)) = false := by simp; omega
  have small : (led.trl l0).length ≤ 6 := by cases hv : led.lv l0; rw [led.trl_f hv]; simp; rw [led.trl_t hv, led.six_len]; omega
  have CS := fun w0 c g r => base.trS w0 (some ⟨g, 0, none⟩) c g l0 r (by omega)
  have CI := fun w0 c g r => base.trI w0 (some ⟨g, 0, none⟩) c g l0 r (by omega)
  generalize led.trl l0 = l at CS CI small
  have CSh := Lib.hid CS
  have CIh := Lib.hid CI
  clear CS CI
  go_enter Try.func6, Try.ntmps6
  go_wp2_with fail
  refine (five.szOk a l0.length cap 1048576 w hn (Nat.le_refl _)).mono ?_
  rintro e w' ⟨rfl, rfl⟩
  go_wp2_with fail
  refine (five.copy a cap l0 w HI.out hn).mono ?_
  rintro e w1 ⟨g1, rfl, r1, l1, k1, b1⟩
  have R1 := Lib.hid r1
  have B1 := Lib.hid b1
  clear r1 b1
  go_wp2_with fail
  refine (CSh.out w1 _ g1 R1.out).mono ?_
  rintro e w2 ⟨a0, c0, g0, rfl, r0, G, b2⟩
  have R0 := Lib.hid r0
  have G0 := Lib.hid G
  have B2 := Lib.hid (B1.out.trans (b2.mono B1.out.size))
  have z12 := b2.size
  clear r0 G b2
  go_wp2_with fail
  refine (five.copy a cap l0 w2 (HI.out.below B2.out) hn).mono ?_
  rintro e w3 ⟨gx, rfl, rx, lx, kx, b3⟩
  have RX := Lib.hid rx
  have R03 := Lib.hid (R0.out.keep (w' := w3) fun h => b3.block g0 (G0.out h).2)
  have B3 := Lib.hid (B2.out.trans (b3.mono B2.out.size))
  have z23 := b3.size
  clear rx b3
  go_wp2_with fail
  refine (CIh.out w3 _ gx RX.out).mono ?_
  rintro e w4 ⟨ag, cg, gg, rfl, rg, G, b4⟩
  have RG := Lib.hid rg
  have GG := Lib.hid G
  have R04 := Lib.hid (R03.out.keep (w' := w4) fun h => b4.block g0 (by have := (G0.out h).2; omega))
  have RX4 := Lib.hid (RX.out.keep (w' := w4) fun h => b4.block gx kx)
  have B4 := Lib.hid (B3.out.trans (b4.mono B3.out.size))
  have z34 := b4.size
  clear rg G b4 R03 RX R0
  go_wp2_with fail
  refine (rows.eqT w4 ag a0 cg c0 gg g0 l RG.out R04.out (by omega)).mono ?_
  rintro e w4' ⟨rfl, q, hq⟩
  subst hq
  have B4' := Lib.hid (below_drewN B4.out q)
  go_wp2_with fail
  refine (five.copy a cap l0 (w4.drewN q) (HI.out.below B4'.out) hn).mono ?_
  rintro e w5 ⟨gy, rfl, ry, ly, ky, b5⟩
  have sz4 : (w4.drewN q).heap.size = w4.heap.size := rfl
  rw [sz4] at ly b5
  have RY := Lib.hid ry
  have RX5 := Lib.hid ((show five.Row (w4.drewN q) _ _ gx l0 from RX4.out.keep fun _ => rfl).keep (w' := w5) fun h => b5.block gx (by omega))
  have RG5 := Lib.hid ((show rows.Row (w4.drewN q) _ _ gg l from RG.out.keep fun _ => rfl).keep (w' := w5) fun h => b5.block gg (GG.out h).2)
  have R05 := Lib.hid ((show rows.Row (w4.drewN q) _ _ g0 l from R04.out.keep fun _ => rfl).keep (w' := w5) fun h => b5.block g0 (by have := (G0.out h).2; omega))
  have B5 := Lib.hid (B4'.out.trans (b5.mono B4.out.size))
  have z45 : w4.heap.size ≤ w5.heap.size := b5.size
  clear ry b5 RX4 RG R04 B4' sz4
  go_wp2_with fail
  refine (five.eqT w5 _ _ _ _ gx gy l0 RX5.out RY.out hn).mono ?_
  rintro e w5' ⟨rfl, b55⟩
  have RX6 := Lib.hid (RX5.out.keep (w' := w5') fun h => b55.block gx (by omega))
  have RG55 := Lib.hid (RG5.out.keep (w' := w5') fun h => b55.block gg (by have := (GG.out h).2; omega))
  have R055 := Lib.hid (R05.out.keep (w' := w5') fun h => b55.block g0 (by have := (G0.out h).2; omega))
  have B55 := Lib.hid (B5.out.trans (b55.mono B5.out.size))
  have z55 : w5.heap.size ≤ w5'.heap.size := b55.size
  clear b55 RX5 RG5 R05 RY
  go_wp2_with fail
  refine (five.mark w5' _ _ gx l0 RX6.out (by omega)).mono ?_
  rintro e w6 ⟨rfl, hm⟩
  have HM := Lib.hid hm
  have s6 : w6.heap.size = w5'.heap.size := hm.size
  have S6 := Lib.hid s6
  have R06 := Lib.hid (R055.out.keep (w' := w6) fun h => hm.other g0 (fun e => by have := (G0.out h).2; omega))
  have RG6 := Lib.hid (RG55.out.keep (w' := w6) fun h => hm.other gg (fun e => by have := (GG.out h).1; omega))
  have B6 := Lib.hid (B55.out.trans (hm.below (B := w.heap.size) (fun _ => by have := B2.out.size; omega)))
  clear hm s6 RX6 R055 RG55
  have p1 : decide (1 + (l0.length : Int) * 5 < 0) = false := by simp; omega
  have p1' : decide (1 + ((l0.length * 5 : Nat) : Int) < 0) = false := by simp; omega
  go_wp2_with fail
  refine (rows.eqT w6 ag a0 cg c0 gg g0 l RG6.out R06.out (by omega)).mono ?_
  rintro e w6' ⟨rfl, q3, hq⟩
  subst hq
  have RG7 := Lib.hid (show rows.Row (w6.drewN q3) ag cg gg l from RG6.out.keep fun _ => rfl)
  go_wp2_with fail
  refine (rows.mark (w6.drewN q3) ag cg gg l RG7.out (by omega)).mono ?_
  rintro e w7 ⟨rfl, hm⟩
  have s7 : w7.heap.size = w6.heap.size := hm.size
  have S7 := Lib.hid s7
  have MK := Lib.hid (show rows.Marks w7 ag cg gg l.length from ⟨RG7.out.addr, RG7.out.room, hm.done⟩)
  have R07 := Lib.hid ((show rows.Row (w6.drewN q3) a0 c0 g0 l from R06.out.keep fun _ => rfl).keep (w' := w7) fun h => hm.other g0 (fun e => by have := (G0.out h).2; have := (GG.out h).1; omega))
  have B7 := Lib.hid ((below_drewN B6.out q3).trans (hm.below (B := w.heap.size) (fun hp => by have := (GG.out hp).1; have := B3.out.size; omega)))
  clear hm s7 RG6 RG7 R06
  go_wp2_with fail
  refine (rows.held w7 ag cg gg l.length MK.out (by omega)).mono ?_
  rintro e w' ⟨rfl, rfl⟩
  have p2 : decide (1 + (l.length : Int) < 0) = false := by simp; omega
  have p3 : (1 + (l.length : Int) != 1 + (l.length : Int)) = false := by simp
  go_wp2_with fail
  refine (five.copy a cap l0 w7 (HI.out.below B7.out) hn).mono ?_
  rintro e w8 ⟨gz, rfl, rz, lz, kz, b8⟩
  have RZ := Lib.hid rz
  have R08 := Lib.hid (R07.out.keep (w' := w8) fun h => b8.block g0 (by have := (G0.out h).2; have := S6.out; have := S7.out; omega))
  have MK8 := Lib.hid (MK.out.keep (w' := w8) fun h => b8.block gg (by have := (GG.out h).2; have := S6.out; have := S7.out; omega))
  have B8 := Lib.hid (B7.out.trans (b8.mono B7.out.size))
  have z78 := b8.size
  clear rz b8 R07 MK
  go_wp2_with fail
  refine (CIh.out w8 _ gz RZ.out).mono ?_
  rintro e w9 ⟨ah, ch, gh, rfl, rh, G, b9⟩
  have RH := Lib.hid rh
  have R09 := Lib.hid (R08.out.keep (w' := w9) fun h => b9.block g0 (by have := (G0.out h).2; have := S6.out; have := S7.out; omega))
  have MK9 := Lib.hid (MK8.out.keep (w' := w9) fun h => b9.block gg (by have := (GG.out h).2; have := S6.out; have := S7.out; omega))
  have B9 := Lib.hid (B8.out.trans (b9.mono B8.out.size))
  clear rh G b9 R08 MK8 RZ
  go_wp2_with fail
  refine (rows.eqT w9 ah a0 ch c0 gh g0 l RH.out R09.out (by omega)).mono ?_
  rintro e w9' ⟨rfl, q4, hq⟩
  subst hq
  have MKA := Lib.hid (show rows.Marks (w9.drewN q4) ag cg gg l.length from MK9.out.keep fun _ => rfl)
  go_wp2_with fail
  refine (rows.held (w9.drewN q4) ag cg gg l.length MKA.out (by omega)).mono ?_
  rintro e w' ⟨rfl, rfl⟩
  go_wp2
  go_ret
  exact ⟨rfl, below_drewN B9.out q4⟩

theorem own : ownKnob Try.prog.godebug = none := by kernel_rfl
theorem laidOut : laidOutB Try.prog = true := by kernel_rfl
theorem isLaw : lift.IsLaw Rows.fnExactTrialSpec 1 0 := fun _ ds gs h1 h2 => match ds, h1 with | [_], _ => match gs, h2 with | [], _ => rfl

set_option maxRecDepth 100000 in
theorem lifted (os : Os) (started : os.Started) (H : Type) (enc : TypeId × Value → H) :
    ReturnsInHanded {} Try.checked os 6 .any (Rows.fnExactTrialSpec.pre6 enc Try.prog Try.f6 Rows.fnExactTrialRow.domain false) (Rows.fnExactTrialSpec.post enc Try.prog Try.f6 false true false false) := by
  refine returnsInHanded_of_change (C := Try.checked) own started (by kernel_rfl) Try.func6
    (ChangeSpec.witness6 (enc := enc) (C := Try.checked) false ⟨#[], #[.slice none 0 0], []⟩ 8 (by kernel_rfl) (by kernel_rfl) (by kernel_rfl) (by kernel_rfl)) ?_
  intro W base args ds gs before hval0 hW _ _
  have hval : ∀ (j : Nat) t v, Try.f6.params[j]? = some t → args[j]? = some v → Value.okWide Try.prog W .any base t v := hval0
  have hW' := hW
  obtain ⟨p, q, hA0, hV, hrest⟩ := hW
  have hA : DataW.TrodAll enc Try.prog W 0 (fun _ => true) true Try.f6.params.toList args.toList ds p := hA0
  clear hA0 hval0 hV hrest
  rw [Try.params6] at hA hval
  obtain ⟨v0, d0, rfl, rfl, h0⟩ := trodAll_one hA
  obtain ⟨a, cap, l, rfl, hlen, hI, wfl⟩ := five.open_posts (hval 0 28 v0 rfl rfl) h0
  have wk : Calls Try.prog 6 #[.slice a l.length cap] W fun e w' => e = .returned (.bool true) ∧ Below W.heap.size W w' := by
    by_cases hb : l.length ≤ 1048576
    · exact walk_small a cap l W hI hb
    · exact walk_big a l.length cap W hlen (by omega)
  refine (wk).mono fun e W' ⟨he, hb⟩ => ?_
  subst he
  exact ⟨_, rfl, lift.law_post laidOut (by kernel_rfl) (by kernel_rfl) (by kernel_rfl) Try.underlying4 (by rw [Try.params6]; exact isLaw) hW' hb⟩

theorem over : Rows.fnExactTrialRow.holds Try.pinned (OpenSpec.ofChange Rows.fnExactTrialSpec) :=
  OpenClaim.holds_of_wide 6 Try.f6 rfl rfl rfl rfl rfl rfl rfl ⟨rfl, rfl, rfl, rfl, rfl⟩ rfl rfl rfl rfl rfl (by kernel_rfl) Try.func6 (by kernel_rfl)
    (of_decide_eq_true (by kernel_rfl)) (by unfold Func.isWrapper; first | (rw [if_pos (by decide +kernel)]; kernel_rfl) | (rw [if_neg (by decide +kernel)]; exact ⟨rfl, rfl⟩))
    (fun os started H enc _ => lifted os started H enc)

theorem proved : Rows.FnExactTrialSaid := over
#print axioms proved
end Go.Proofs.Ytnkdjnfbllkgiaa.fnExactTrial
