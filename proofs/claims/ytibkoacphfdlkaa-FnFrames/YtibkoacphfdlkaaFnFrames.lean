/-
  Proved: for every code, the frames of a drawn text are read as they were written, with one more behind them, and of a part of them the first ones; the law laws.FnFrames returns true and its arguments read as before. Conditions: none beyond the given row.
-/
import Derived.Test.YtibkoacphfdlkaaTfI
import Derived.Test.YtibkoacphfdlkaaTfS
import Derived.Test.YtibkoacphfdlkaaFrd
import Derived.Test.YtibkoacphfdlkaaFrp
namespace Go.Proofs.Ytibkoacphfdlkaa.fnFrames
open Go.ChangeShapes Go.WideShapes Go.ChangeAt Go.RowKit

open frm (pos outs Fr cats dat)
open crc (frame)
/-- A list of texts that a call made, as a row. -/
def GotR (L : List UInt8) (w : World) (e : Ending) (w' : World) : Prop := ∃ k a cap g, Fr L k ∧ e = .returned (.tuple #[.slice a k cap, .int .i64 (pos L k : Int)]) ∧ sxs.Row w' a cap g k (fun i => dat L (pos L i)) ∧ ((a = none ∧ cap = 0) ∨ a = some ⟨g, 0, none⟩) ∧ (0 < k → w.heap.size ≤ g ∧ g < w'.heap.size) ∧ Below w.heap.size w w'
theorem outs_get {L : List UInt8} {k i : Nat} (h : i < k) : (outs L k).getD i [] = dat L (pos L i) := by
  unfold frm.outs
  rw [List.getD_eq_getElem?_getD, List.getElem?_map, List.getElem?_range h]; rfl
theorem gotR {L : List UInt8} {w : World} {k : Nat} {v : Value} {w' : World} (hf : Fr L k) (ho : w'.ownsRow w.heap.size 9 1 v k ((outs L k).map (fun d => .string ⟨d.toArray⟩))) (hb : Below w.heap.size w w') : GotR L w (.returned (.tuple #[v, .int .i64 (pos L k : Int)])) w' := by
  have e1 : (outs L k).length = k := frm.outs_len L k
  have q := sxs.of_owns (zs := outs L k) (by rw [e1]; exact ho)
  rw [e1] at q
  obtain ⟨a, cap, g, rfl, hr, hg⟩ := q
  have hr2 : sxs.Row w' a cap g k (fun i => dat L (pos L i)) := ⟨hr.addr, hr.room, fun i hi => by rw [hr.cells i hi, outs_get hi], hr.free⟩
  rcases ho.2 with ⟨h1, h2⟩ | ⟨g', cap', cur, hv, hg', hh, _⟩
  · injection h1 with h3 h4 h5
    exact ⟨k, a, cap, g, hf, rfl, hr2, .inl ⟨h3, h5⟩, hg, hb⟩
  · injection hv with h3 h4 h5
    by_cases hk : 0 < k
    · exact ⟨k, a, cap, g, hf, rfl, hr2, .inr (hr.addr hk), hg, hb⟩
    · exact ⟨k, a, cap, g', hf, rfl, ⟨fun h => absurd h hk, hr.room, fun i hi => by omega, fun h => absurd h hk⟩, .inr h3, fun h => absurd h hk, hb⟩
theorem rI (L : List UInt8) (w : World) (hL : L.length ≤ 1048576) : Calls Try.prog 8 #[.string ⟨L.toArray⟩] w (GotR L w) := by
  refine (frm.tfI L w hL).mono ?_
  rintro e w1 ⟨j, v, hj, rfl, ho, hb⟩
  exact gotR hj ho hb
theorem rS (L : List UInt8) (w : World) (hL : L.length ≤ 1048576) : Calls Try.prog 9 #[.string ⟨L.toArray⟩] w (GotR L w) := by
  refine (frm.tfS L w hL).mono ?_
  rintro e w1 ⟨j, v, hj, rfl, ho, hb⟩
  exact gotR hj ho hb
theorem walk_big (a : Option Addr) (len cap : Nat) (w : World) (hl : len ≤ maxLen) (hb : 1048576 < len) : Calls Try.prog 3 #[.slice a len cap] w fun e w' => e = .returned (.bool true) ∧ Below w.heap.size w w' := by
  go_enter Try.func3, Try.ntmps3
  go_wp2_with fail
  refine (draw.bigT a len cap w hb hl).mono ?_
  rintro e w' ⟨rfl, rfl⟩
  go_wp2
  go_ret
  exact ⟨rfl, Below.refl _ _⟩
set_option maxRecDepth 100000 in
set_option maxHeartbeats 8000000 in
theorem walk_small (a : Option Addr) (cap len : Nat) (w : World) (hB : draw.Bytes w a len) (hn : len ≤ 1048576) : Calls Try.prog 3 #[.slice a len cap] w fun e w' => e = .returned (.bool true) ∧ Below w.heap.size w w' := by
  have HB := Lib.hid hB
  clear hB
  go_enter Try.func3, Try.ntmps3
  go_wp2_with fail
  refine (draw.bigF a len cap w hn).mono ?_
  rintro e w' ⟨rfl, rfl⟩
  go_wp2_with fail
  refine (draw.drawFrames a len cap w HB.out hn).mono ?_
  rintro e w1 ⟨L, l100, rfl, bb⟩
  have BB := Lib.hid bb
  have z1 := bb.size
  clear bb
  go_wp2_with fail
  refine (rI L w1 (by omega)).mono ?_
  rintro e w2 ⟨k, ag, cg, gg, hf, rfl, r0, ha, G0, bb⟩
  replace BB := Lib.hid (BB.out.trans (bb.mono BB.out.size))
  have z2 := bb.size
  clear bb
  have RG := Lib.hid r0
  have GRG := Lib.hid G0
  have HA := Lib.hid ha
  have HF := Lib.hid hf
  clear r0 G0 ha
  go_wp2_with fail
  refine (rS L w2 (by omega)).mono ?_
  rintro e w3 ⟨k', a3, c3, g3, hf', rfl, r0, _, G0, bb⟩
  obtain rfl := frm.fr_one hf' hf
  replace BB := Lib.hid (BB.out.trans (bb.mono BB.out.size))
  have z3 := bb.size
  replace RG := Lib.hid (RG.out.keep (w' := w3) fun h => bb.block gg (by have := (GRG.out h).2; omega))
  clear bb
  have R3 := Lib.hid r0
  have rp := frm.run_pos hf.1
  have kb : k' ≤ 13 := by omega
  have LC := Lib.hid (frm.cats_take hf.1)
  clear r0 G0 hf hf'
  have sL : (⟨L.toArray⟩ : ByteArray).size = L.length := rfl
  obtain ⟨p, hp⟩ : ∃ p, p = pos L k' := ⟨_, rfl⟩
  rw [← hp] at rp LC ⊢
  obtain ⟨_, p1⟩ := rp
  have p1i : (p : Int) ≤ (L.length : Int) := by omega
  have t1 : decide ((L.length : Int) < (p : Int)) = false := by simp; omega
  have t1' : decide (L.length < p) = false := by simp; omega
  have t2 : ((p : Int) != (p : Int)) = false := by simp
  have HP := Lib.hid hp
  clear hp
  go_wp2_with fail
  refine (sxs.samT w3 ag a3 cg c3 gg g3 k' _ _ (fun _ _ => rfl) RG.out R3.out (by omega)).mono ?_
  rintro e w4 ⟨rfl, bb⟩
  replace BB := Lib.hid (BB.out.trans (bb.mono BB.out.size))
  have z4 := bb.size
  replace RG := Lib.hid (RG.out.keep (w' := w4) fun h => bb.block gg (by have := (GRG.out h).2; omega))
  clear bb R3
  go_wp2
  go_loopw [8, 9] (fun s i wr => Below w4.heap.size w4 wr ∧ ∃ j : Nat, j ≤ k' ∧ i = .int .i64 j ∧ s = .string ⟨(cats L j).toArray⟩) (fun _ i _ => k' - (intOf i).toNat)
  case atStart => exact ⟨Below.refl _ _, 0, by omega, rfl, rfl⟩
  case round =>
    obtain ⟨hB, j, hj, rfl, rfl⟩ := hrel
    have BJ := Lib.hid hB
    have hsz := hB.size
    by_cases hlt : j < k'
    · have u1 : decide (j < k') = true := by simp; omega
      have z0 : (j : Int) < (k' : Int) := by omega
      have e1 := RG.out.addr (by omega)
      subst e1
      have rm := RG.out.room
      have q1 := (hB.cell (p := ⟨gg, j, none⟩) (show gg < w4.heap.size by have := (GRG.out (by omega)).2; omega)).trans (RG.out.cells j hlt)
      have dl := frm.dat_len (HF.out.1 j hlt).2.2.1
      have g2 := (HF.out.1 j hlt).2.1
      have CS := Lib.hid (show cats L (j + 1) = cats L j ++ frame (dat L (pos L j)) from rfl)
      have FI := Lib.hid (fun w0 => crc.frameI (dat L (pos L j)) w0 (by omega))
      have cl : (cats L j).length ≤ 1000 := by
        rw [frm.cats_take (fun i hi => HF.out.1 i (by omega))]; simp; omega
      have fl := draw.frame_len (dat L (pos L j))
      obtain ⟨D, hD⟩ : ∃ D, D = dat L (pos L j) := ⟨_, rfl⟩
      rw [← hD] at q1 FI CS fl dl
      obtain ⟨F, hFF⟩ : ∃ F, F = frame D := ⟨_, rfl⟩
      rw [← hFF] at FI CS fl
      obtain ⟨C, hC⟩ : ∃ C, C = cats L j := ⟨_, rfl⟩
      rw [← hC] at CS cl ⊢
      clear hB hD hFF hC
      go_wp2_with fail
      refine (FI.out _).mono ?_
      rintro e w5 ⟨rfl, b5⟩
      have B5 := Lib.hid (BJ.out.trans (b5.mono hsz))
      clear b5
      go_wp2
      go_roundw
      case rel => exact ⟨B5.out, j + 1, by omega, by go_num, by rw [CS.out, crc.cat]⟩
      case measure => simp [intOf]; omega
    · have u1 : decide (j < k') = false := by simp; omega
      obtain rfl : j = k' := by omega
      have BW := Lib.hid (BB.out.trans (BJ.out.mono BB.out.size))
      replace RG := Lib.hid (RG.out.keep (w' := wr) fun h => hB.block gg (by have := (GRG.out h).2; omega))
      clear BJ hB BB
      have zw := BW.out.size
      have cl : (cats L j).length = p := by rw [LC.out]; simp; omega
      go_wp2_with fail
      refine (draw.drawFrame a len cap wr (HB.out.below BW.out) hn).mono ?_
      rintro e w5 ⟨T, t103, rfl, bb⟩
      replace BW := Lib.hid (BW.out.trans (bb.mono BW.out.size))
      have z5 := bb.size
      replace RG := Lib.hid (RG.out.keep (w' := w5) fun h => bb.block gg (by have := (GRG.out h).2; omega))
      clear bb
      have MORE := Lib.hid (frm.fr_more HF.out (t := T) (by omega))
      have FEW := Lib.hid (fun n jj hjj => frm.fr_few (n := n) (j := jj) HF.out hjj)
      have fl := draw.frame_len T
      have FI := Lib.hid (fun w0 => crc.frameI T w0 (by omega))
      obtain ⟨F, hFF⟩ : ∃ F, F = frame T := ⟨_, rfl⟩
      rw [← hFF] at FI MORE fl
      obtain ⟨C, hC⟩ : ∃ C, C = cats L j := ⟨_, rfl⟩
      rw [← hC] at MORE FEW cl LC ⊢
      have HCC := Lib.hid hC
      clear hFF hC
      have sC : (⟨C.toArray⟩ : ByteArray).size = p := cl
      obtain ⟨f, hf⟩ : ∃ f, f = F.length := ⟨_, rfl⟩
      have sF : (⟨F.toArray⟩ : ByteArray).size = f := hf.symm
      rw [← hf] at fl
      have HFL := Lib.hid hf
      have ecat : (⟨C.toArray⟩ : ByteArray) ++ ⟨F.toArray⟩ = ⟨(C ++ F).toArray⟩ := crc.cat C F
      clear hf
      go_wp2_with fail
      refine (FI.out _).mono ?_
      rintro e w6 ⟨rfl, bb⟩
      replace BW := Lib.hid (BW.out.trans (bb.mono BW.out.size))
      have z6 := bb.size
      replace RG := Lib.hid (RG.out.keep (w' := w6) fun h => bb.block gg (by have := (GRG.out h).2; omega))
      clear bb
      go_wp2_with fail
      refine (rI (C ++ F) w6 (by rw [List.length_append, cl, ← HFL.out]; omega)).mono ?_
      rintro e w7 ⟨k1, a1, c1, g1, hf1, rfl, r1, _, G1, bb⟩
      obtain rfl := frm.fr_one hf1 MORE.out.1
      replace BW := Lib.hid (BW.out.trans (bb.mono BW.out.size))
      have z7 := bb.size
      replace RG := Lib.hid (RG.out.keep (w' := w7) fun h => bb.block gg (by have := (GRG.out h).2; omega))
      have e1 := r1.addr (by omega)
      subst e1
      have R1 := Lib.hid r1
      have g17 : g1 < w7.heap.size := (G1 (by omega)).2
      clear bb r1 G1 hf1
      have rm1 := R1.out.room
      have q1 := R1.out.cells j (by omega)
      rw [MORE.out.2.2.1] at q1
      have Q1 := Lib.hid q1
      have e2 : pos (C ++ F) (j + 1) = p + f := by rw [MORE.out.2.1, ← HP.out, ← HFL.out]
      rw [e2]
      obtain ⟨kk, hkk⟩ : ∃ kk, kk = len % (p + 1) := ⟨_, rfl⟩
      have kkl : kk ≤ p := by rw [hkk]; have := Nat.mod_lt len (show 0 < p + 1 by omega); omega
      obtain ⟨p', hp'⟩ : ∃ p', p' = p + 1 := ⟨_, rfl⟩
      have e3 : (p : Int) + 1 = (p' : Int) := by omega
      have e4 : (len : Int) % (p' : Int) = (kk : Int) := by rw [hkk, hp', Int.natCast_emod]
      have e4' : (len : Int).tmod (p' : Int) = (kk : Int) := by rw [Int.tmod_eq_emod_of_nonneg (by omega)]; exact e4
      have e5 : ((p' : Int) == 0) = false := by simp; omega
      have kki : (kk : Int) ≤ (p : Int) := by omega
      have ex : (⟨C.toArray⟩ : ByteArray).extract 0 kk = ⟨(C.take kk).toArray⟩ := draw.ext0 C kk
      clear q1 e2 hkk hp'
      go_wp2_with fail
      refine (rI (C.take kk) w7 (by simp; omega)).mono ?_
      rintro e w8 ⟨j2, a2, c2, g2, hf2, rfl, r2, _, G2, bb⟩
      have FW := FEW.out kk j2 hf2
      replace BW := Lib.hid (BW.out.trans (bb.mono BW.out.size))
      have z8 := bb.size
      replace RG := Lib.hid (RG.out.keep (w' := w8) fun h => bb.block gg (by have := (GRG.out h).2; omega))
      have q1 := (bb.cell (p := ⟨g1, j, none⟩) g17).trans Q1.out
      have R2 := Lib.hid r2
      have GR2 := Lib.hid G2
      have j2k := FW.1
      have RS := Lib.hid (show sxs.Row w8 ag cg gg j2 (fun i => dat L (pos L i)) from ⟨fun h => RG.out.addr (by omega), Nat.le_trans j2k RG.out.room, fun i hi => RG.out.cells i (by omega), fun h => RG.out.free (by omega)⟩)
      have FD := Lib.hid FW.2
      clear bb r2 G2 FW
      have rm := RG.out.room
      have ey : (⟨L.toArray⟩ : ByteArray).extract 0 p = ⟨C.toArray⟩ := by rw [draw.ext0, LC.out]
      have tc : (C == C) = true := by simp
      have tt : (T == T) = true := by simp
      have u2 : ((j : Int) + 1 == (j : Int) + 1) = true := by simp
      have u3 : decide ((j2 : Int) ≤ (j : Int)) = true := by simp; omega
      have u3' : decide (j2 ≤ j) = true := by simp; omega
      have z9 : (j : Int) < ((j : Int) + 1) := by omega
      have jj2 : (j2 : Int) ≤ (j : Int) := by omega
      go_wp2_with fail
      refine (FI.out _).mono ?_
      rintro e w9 ⟨rfl, bb⟩
      replace BW := Lib.hid (BW.out.trans (bb.mono BW.out.size))
      have z9' := bb.size
      replace RS := Lib.hid (RS.out.keep (w' := w9) fun h => bb.block gg (by have := (GRG.out (by omega)).2; omega))
      replace R2 := Lib.hid (R2.out.keep (w' := w9) fun h => bb.block g2 (by have := (GR2.out h).2; omega))
      clear bb q1
      go_wp2_with fail
      refine (sxs.samT w9 a2 ag c2 cg g2 gg j2 _ _ (fun i hi => (FD.out i hi).symm) R2.out RS.out (by omega)).mono ?_
      rintro e w10 ⟨rfl, bb⟩
      replace BW := Lib.hid (BW.out.trans (bb.mono BW.out.size))
      clear bb
      go_wp2
      go_ret
      exact ⟨rfl, BW.out⟩

theorem own : ownKnob Try.prog.godebug = none := by kernel_rfl
theorem laidOut : laidOutB Try.prog = true := by kernel_rfl
theorem isLaw : lift.IsLaw Rows.fnFramesSpec 1 0 := fun _ ds gs h1 h2 => match ds, h1 with | [_], _ => match gs, h2 with | [], _ => rfl

set_option maxRecDepth 100000 in
theorem lifted (os : Os) (started : os.Started) (H : Type) (enc : TypeId × Value → H) :
    ReturnsInHanded {} Try.checked os 3 .any (Rows.fnFramesSpec.pre6 enc Try.prog Try.f3 Rows.fnFramesRow.domain false) (Rows.fnFramesSpec.post enc Try.prog Try.f3 false true false false) := by
  refine returnsInHanded_of_change (C := Try.checked) own started (by kernel_rfl) Try.func3
    (ChangeSpec.witness6 (enc := enc) (C := Try.checked) false ⟨#[], #[.slice none 0 0], []⟩ 8 (by kernel_rfl) (by kernel_rfl) (by kernel_rfl) (by kernel_rfl)) ?_
  intro W base args ds gs before hval0 hW _ _
  have hval : ∀ (j : Nat) t v, Try.f3.params[j]? = some t → args[j]? = some v → Value.okWide Try.prog W .any base t v := hval0
  have hW' := hW
  obtain ⟨p, q, hA0, hV, hrest⟩ := hW
  have hA : DataW.TrodAll enc Try.prog W 0 (fun _ => true) true Try.f3.params.toList args.toList ds p := hA0
  clear hA0 hval0 hV hrest
  rw [Try.params3] at hA hval
  obtain ⟨v0, d0, rfl, rfl, h0⟩ := trodAll_one hA
  obtain ⟨a, len, cap, rfl, hlen, hB⟩ := draw.open_code Try.underlying22 Try.underlying5 (by kernel_rfl) (hval 0 22 v0 rfl rfl) h0
  have wk : Calls Try.prog 3 #[.slice a len cap] W fun e w' => e = .returned (.bool true) ∧ Below W.heap.size W w' := by
    by_cases hb : len ≤ 1048576
    · exact walk_small a cap len W hB hb
    · exact walk_big a len cap W hlen (by omega)
  refine (wk).mono fun e W' ⟨he, hb⟩ => ?_
  subst he
  exact ⟨_, rfl, lift.law_post laidOut (by kernel_rfl) (by kernel_rfl) (by kernel_rfl) Try.underlying4 (by rw [Try.params3]; exact isLaw) hW' hb⟩

theorem over : Rows.fnFramesRow.holds Try.pinned (OpenSpec.ofChange Rows.fnFramesSpec) :=
  OpenClaim.holds_of_wide 3 Try.f3 rfl rfl rfl rfl rfl rfl rfl ⟨rfl, rfl, rfl, rfl, rfl⟩ rfl rfl rfl rfl rfl (by kernel_rfl) Try.func3 (by kernel_rfl)
    (of_decide_eq_true (by kernel_rfl)) (by unfold Func.isWrapper; first | (rw [if_pos (by decide +kernel)]; kernel_rfl) | (rw [if_neg (by decide +kernel)]; exact ⟨rfl, rfl⟩))
    (fun os started H enc _ => lifted os started H enc)

theorem proved : Rows.FnFramesSaid := over
#print axioms proved
end Go.Proofs.Ytibkoacphfdlkaa.fnFrames
