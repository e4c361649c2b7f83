/-
  Proved: for every text, the landed TakeFrames answers as its model does, in memory of its own; the law laws.FnExactTakeFrames returns true and its arguments read as before. Conditions: none beyond the given row.
-/
import Derived.Test.YtibkoacphfdlkaaTfI
import Derived.Test.YtibkoacphfdlkaaTfS
import Derived.Test.YtibkoacphfdlkaaSxs
namespace Go.Proofs.Ytibkoacphfdlkaa.fnExactTakeFrames
open Go.ChangeShapes Go.WideShapes Go.ChangeAt Go.RowKit
open Go.ChangeMaps (open_string shut_string)
theorem walk_big (s : ByteArray) (w : World) (hb : 1048576 < s.size) (hs : s.size ≤ maxLen) : Calls Try.prog 5 #[.string s] w fun e w' => e = .returned (.bool true) ∧ Below w.heap.size w w' := by
  unfold maxLen at hs
  go_enter Try.func5, Try.ntmps5
  go_wp2
  go_ret
  exact ⟨rfl, Below.refl _ _⟩
set_option maxRecDepth 100000 in
set_option maxHeartbeats 8000000 in
theorem walk_small (L : List UInt8) (w : World) (hL : L.length ≤ 1048576) : Calls Try.prog 5 #[.string ⟨L.toArray⟩] w fun e w' => e = .returned (.bool true) ∧ Below w.heap.size w w' := by
  obtain ⟨k, hk⟩ := frm.fr_ex L
  have rp := frm.run_pos hk.1
  have CS : ∀ w0, Calls Try.prog 9 #[.string ⟨L.toArray⟩] w0 fun e w' => ∃ a cap g, e = .returned (.tuple #[.slice a k cap, .int .i64 (frm.pos L k : Int)]) ∧ sxs.Row w' a cap g k (fun i => (frm.outs L k).getD i []) ∧ (0 < k → w0.heap.size ≤ g ∧ g < w'.heap.size) ∧ Below w0.heap.size w0 w' := fun w0 => by
    refine (frm.tfS L w0 hL).mono ?_
    rintro e w1 ⟨j, v, hj, rfl, ho, hb⟩
    obtain rfl := frm.fr_one hj hk
    have e1 : (frm.outs L j).length = j := frm.outs_len L j
    have q := sxs.of_owns (zs := frm.outs L j) (by rw [e1]; exact ho)
    rw [e1] at q
    obtain ⟨a, cap, g, rfl, hr, hg⟩ := q
    exact ⟨a, cap, g, rfl, hr, hg, hb⟩
  have CI : ∀ w0, Calls Try.prog 8 #[.string ⟨L.toArray⟩] w0 fun e w' => ∃ a cap g, e = .returned (.tuple #[.slice a k cap, .int .i64 (frm.pos L k : Int)]) ∧ sxs.Row w' a cap g k (fun i => (frm.outs L k).getD i []) ∧ (0 < k → w0.heap.size ≤ g ∧ g < w'.heap.size) ∧ Below w0.heap.size w0 w' := fun w0 => by
    refine (frm.tfI L w0 hL).mono ?_
    rintro e w1 ⟨j, v, hj, rfl, ho, hb⟩
    obtain rfl := frm.fr_one hj hk
    have e1 : (frm.outs L j).length = j := frm.outs_len L j
    have q := sxs.of_owns (zs := frm.outs L j) (by rw [e1]; exact ho)
    rw [e1] at q
    obtain ⟨a, cap, g, rfl, hr, hg⟩ := q
    exact ⟨a, cap, g, rfl, hr, hg, hb⟩
  have kb : k ≤ 131072 := by omega
  generalize (fun i => (frm.outs L k).getD i []) = A at CS CI
  obtain ⟨p, hp⟩ : ∃ p, p = frm.pos L k := ⟨_, rfl⟩
  rw [← hp] at CS CI rp
  have CSh := Lib.hid CS
  have CIh := Lib.hid CI
  have t1 : decide ((1048576 : Int) < ((⟨L.toArray⟩ : ByteArray).size : Int)) = false := by
    have : (⟨L.toArray⟩ : ByteArray).size = L.length := rfl
    rw [this]; simp; omega
  have t1' : decide (1048576 < (⟨L.toArray⟩ : ByteArray).size) = false := by
    have : (⟨L.toArray⟩ : ByteArray).size = L.length := rfl
    rw [this]; simp; omega
  have t1'' : decide (1048576 < L.length) = false := by simp; omega
  have t2 : ((p : Int) != (p : Int)) = false := by simp
  clear CS CI hk hp rp
  have BB := Lib.hid (Below.refl w.heap.size w)
  go_enter Try.func5, Try.ntmps5
  go_wp2_with fail
  refine (CSh.out w).mono ?_
  rintro e w1 ⟨a3, c3, g3, rfl, r0, G0, bb⟩
  replace BB := Lib.hid (BB.out.trans (bb.mono BB.out.size))
  have z1 := bb.size
  clear bb
  have R3 := Lib.hid r0
  have GR3 := Lib.hid G0
  clear r0 G0
  go_wp2_with fail
  refine (CIh.out w1).mono ?_
  rintro e w2 ⟨ag, cg, gg, rfl, r0, G0, bb⟩
  replace BB := Lib.hid (BB.out.trans (bb.mono BB.out.size))
  have z2 := bb.size
  replace R3 := Lib.hid (R3.out.keep (w' := w2) fun h => bb.block g3 (by have := (GR3.out h).2; omega))
  clear bb
  have RG := Lib.hid r0
  have GRG := Lib.hid G0
  clear r0 G0
  go_wp2_with fail
  refine (sxs.eqT w2 ag a3 cg c3 gg g3 k A RG.out R3.out (by omega)).mono ?_
  rintro e w3 ⟨rfl, bb⟩
  replace BB := Lib.hid (BB.out.trans (bb.mono BB.out.size))
  have z3 := bb.size
  replace R3 := Lib.hid (R3.out.keep (w' := w3) fun h => bb.block g3 (by have := (GR3.out h).2; omega))
  replace RG := Lib.hid (RG.out.keep (w' := w3) fun h => bb.block gg (by have := (GRG.out h).2; omega))
  clear bb
  go_wp2_with fail
  refine (sxs.mark w3 ag cg gg k A RG.out (by omega)).mono ?_
  rintro e w4 ⟨rfl, ho, mk, mz⟩
  have z4 := ho.size
  have MK := Lib.hid mk
  replace R3 := Lib.hid (R3.out.keep (w' := w4) fun h => ho.block g3 (by have := (GR3.out h).2; omega) (by have := (GR3.out h).2; have := (GRG.out h).1; omega))
  have hbz := BB.out.size
  replace BB := Lib.hid (show Below w.heap.size w w4 from by
    rcases Nat.eq_zero_or_pos k with h0 | h0
    · rw [show w4 = w3 from mz h0]; exact BB.out
    · exact BB.out.trans (ho.below (by have := (GRG.out h0).1; omega) (by omega)))
  clear ho mk mz RG hbz
  go_wp2_with fail
  refine (sxs.held w4 ag cg gg k MK.out (by omega)).mono ?_
  rintro e w5 ⟨rfl, bb⟩
  replace BB := Lib.hid (BB.out.trans (bb.mono BB.out.size))
  have z5 := bb.size
  replace R3 := Lib.hid (R3.out.keep (w' := w5) fun h => bb.block g3 (by have := (GR3.out h).2; omega))
  replace MK := Lib.hid (MK.out.keep (w' := w5) fun h => bb.block gg (by have := (GRG.out h).2; omega))
  clear bb
  have p2 : decide (1 + (k : Int) < 0) = false := by simp; omega
  have p3 : (1 + (k : Int) != 1 + (k : Int)) = false := by simp
  have GMK := Lib.hid GRG.out
  go_wp2_with fail
  refine (CIh.out w5).mono ?_
  rintro e w6 ⟨ah, ch, gh, rfl, r0, G0, bb⟩
  replace BB := Lib.hid (BB.out.trans (bb.mono BB.out.size))
  have z6 := bb.size
  replace R3 := Lib.hid (R3.out.keep (w' := w6) fun h => bb.block g3 (by have := (GR3.out h).2; omega))
  replace MK := Lib.hid (MK.out.keep (w' := w6) fun h => bb.block gg (by have := (GMK.out h).2; omega))
  clear bb
  have RH := Lib.hid r0
  have GRH := Lib.hid G0
  clear r0 G0
  have P2 := Lib.hid (And.intro p2 p3)
  clear p2 p3
  go_wp2_with fail
  refine (sxs.eqT w6 ah a3 ch c3 gh g3 k A RH.out R3.out (by omega)).mono ?_
  rintro e w7 ⟨rfl, bb⟩
  replace BB := Lib.hid (BB.out.trans (bb.mono BB.out.size))
  have z7 := bb.size
  replace MK := Lib.hid (MK.out.keep (w' := w7) fun h => bb.block gg (by have := (GMK.out h).2; omega))
  clear bb
  obtain ⟨p2, p3⟩ := P2.out
  go_wp2_with fail
  refine (sxs.held w7 ag cg gg k MK.out (by omega)).mono ?_
  rintro e w8 ⟨rfl, bb⟩
  replace BB := Lib.hid (BB.out.trans (bb.mono BB.out.size))
  clear bb
  go_wp2
  go_ret
  exact ⟨rfl, BB.out⟩
theorem walk (s : ByteArray) (w : World) (hs : s.size ≤ maxLen) : Calls Try.prog 5 #[.string s] w fun e w' => e = .returned (.bool true) ∧ Below w.heap.size w w' := by
  by_cases hl : 1048576 < s.size
  · exact walk_big s w hl hs
  · exact walk_small s.data.toList w (by show s.size ≤ _; omega)

theorem own : ownKnob Try.prog.godebug = none := by kernel_rfl
theorem laidOut : laidOutB Try.prog = true := by kernel_rfl
theorem isLaw : lift.IsLaw Rows.fnExactTakeFramesSpec 1 0 := fun _ ds gs h1 h2 => match ds, h1 with | [_], _ => match gs, h2 with | [], _ => rfl

set_option maxRecDepth 100000 in
theorem lifted (os : Os) (started : os.Started) (H : Type) (enc : TypeId × Value → H) :
    ReturnsInHanded {} Try.checked os 5 .any (Rows.fnExactTakeFramesSpec.pre6 enc Try.prog Try.f5 Rows.fnExactTakeFramesRow.domain false) (Rows.fnExactTakeFramesSpec.post enc Try.prog Try.f5 false true false false) := by
  refine returnsInHanded_of_change (C := Try.checked) own started (by kernel_rfl) Try.func5
    (ChangeSpec.witness6 (enc := enc) (C := Try.checked) false ⟨#[], #[.string ⟨#[]⟩], []⟩ 8 (by kernel_rfl) (by kernel_rfl) (by kernel_rfl) (by kernel_rfl)) ?_
  intro W base args ds gs before hval0 hW _ _
  have hval : ∀ (j : Nat) t v, Try.f5.params[j]? = some t → args[j]? = some v → Value.okWide Try.prog W .any base t v := hval0
  have hW' := hW
  obtain ⟨p, q, hA0, hV, hrest⟩ := hW
  have hA : DataW.TrodAll enc Try.prog W 0 (fun _ => true) true Try.f5.params.toList args.toList ds p := hA0
  clear hA0 hval0 hV hrest
  rw [Try.params5] at hA hval
  obtain ⟨v0, d0, rfl, rfl, h0⟩ := trodAll_one hA
  obtain ⟨s, rfl, rfl, rfl, hs⟩ := open_string Try.underlying9 (hval 0 9 v0 rfl rfl) h0
  refine (walk s W hs).mono fun e W' ⟨he, hb⟩ => ?_
  subst he
  exact ⟨_, rfl, lift.law_post laidOut (by kernel_rfl) (by kernel_rfl) (by kernel_rfl) Try.underlying4 (by rw [Try.params5]; exact isLaw) hW' hb⟩

theorem over : Rows.fnExactTakeFramesRow.holds Try.pinned (OpenSpec.ofChange Rows.fnExactTakeFramesSpec) :=
  OpenClaim.holds_of_wide 5 Try.f5 rfl rfl rfl rfl rfl rfl rfl ⟨rfl, rfl, rfl, rfl, rfl⟩ rfl rfl rfl rfl rfl (by kernel_rfl) Try.func5 (by kernel_rfl)
    (of_decide_eq_true (by kernel_rfl)) (by unfold Func.isWrapper; first | (rw [if_pos (by decide +kernel)]; kernel_rfl) | (rw [if_neg (by decide +kernel)]; exact ⟨rfl, rfl⟩))
    (fun os started H enc _ => lifted os started H enc)

theorem proved : Rows.FnExactTakeFramesSaid := over
#print axioms proved
end Go.Proofs.Ytibkoacphfdlkaa.fnExactTakeFrames
