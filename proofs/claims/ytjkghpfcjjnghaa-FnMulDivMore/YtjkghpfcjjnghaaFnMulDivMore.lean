/-
  Proved: for every code, the law of the order of MulDiv holds of the drawn numbers; the law laws.FnMulDivMore returns true and its arguments read as before. Conditions: none beyond the given row.
-/
import Derived.Test.YtjkghpfcjjnghaaDraw4
import Derived.Test.YtjkghpfcjjnghaaMdMore
import Derived.Test.YtjkghpfcjjnghaaByteOf
namespace Go.Proofs.Ytjkghpfcjjnghaa.fnMulDivMore
open Go.ChangeShapes Go.WideShapes Go.ChangeAt Go.RowKit

theorem walk_big (a : Option Addr) (len cap : Nat) (w : World) (hl : len ≤ maxLen) (hb : 1048576 < len) : Calls Try.prog 4 #[.slice a len cap] w fun e w' => e = .returned (.bool true) ∧ Below w.heap.size w w' := by
  go_enter Try.func4, Try.ntmps4
  go_wp2_with fail
  refine (draw.bigT a len cap w hb hl).mono ?_
  rintro e w' ⟨rfl, rfl⟩
  go_wp2
  go_ret
  exact ⟨rfl, Below.refl _ _⟩

set_option maxRecDepth 100000 in
set_option maxHeartbeats 4000000 in
theorem walk_small (a : Option Addr) (len cap : Nat) (w : World) (hb : len ≤ 1048576) (hB : draw.Bytes w a len) : Calls Try.prog 4 #[.slice a len cap] w fun e w' => e = .returned (.bool true) ∧ Below w.heap.size w w' := by
  have HB := Lib.hid hB
  clear hB
  go_enter Try.func4, Try.ntmps4
  go_wp2_with fail
  refine (draw.bigF a len cap w hb).mono ?_
  rintro e w' ⟨rfl, rfl⟩
  go_wp2_with fail
  refine (draw.drawMulDiv a len cap w HB.out hb).mono ?_
  rintro e w1 ⟨x, y, z, rfl, b1⟩
  have B1 := Lib.hid b1
  clear b1
  go_wp2_with fail
  refine (md.impl x y z w1).mono ?_
  rintro e w2 ⟨rfl, b2⟩
  have B2 := Lib.hid (B1.out.trans (b2.mono B1.out.size))
  clear b2
  go_wp2_with fail
  refine (md.spec x y z w2).mono ?_
  rintro e w3 ⟨rfl, b3⟩
  have B3 := Lib.hid (B2.out.trans (b3.mono B2.out.size))
  clear b3
  have HB3 := Lib.hid (HB.out.below B3.out)
  cases hk : md.ok x y z with
  | false =>
    clear hk
    generalize md.val x y z = v
    have t1 : (v != v) = false := by simp
    have t2 : (v == v) = true := by simp
    go_wp2_with fail
    refine (draw.byteOf a len cap w3 3 (by omega) HB3.out hb).mono ?_
    rintro e w' ⟨⟨t, ht, rfl⟩, rfl⟩
    go_wp2_with fail
    refine (md.impl _ y z w3).mono ?_
    rintro e w4 ⟨rfl, b4⟩
    have B4 := Lib.hid (B3.out.trans (b4.mono B3.out.size))
    clear b4
    go_wp2
    go_ret
    exact ⟨rfl, B4.out⟩
  | true =>
    obtain ⟨x1, x2, y1, y2, z1, z2, kk⟩ := md.ok_iff.1 hk
    obtain ⟨C, rfl⟩ := Int.eq_ofNat_of_zero_le (show 0 ≤ z by omega)
    have ONE := Lib.hid (md.one_ok x x1 x2)
    have ALL := Lib.hid (md.all_ok x C x1 x2 (by omega) (by omega))
    have MON := Lib.hid (fun t : Nat => md.val_mono x (x + 1 + (t : Int)) y C hk)
    clear hk kk
    generalize md.val x y C = v at *
    have t1 : (v != v) = false := by simp
    have tx : (x == x) = true := by simp
    go_wp2_with fail
    refine (draw.byteOf a len cap w3 3 (by omega) HB3.out hb).mono ?_
    rintro e w' ⟨⟨t, ht, rfl⟩, rfl⟩
    go_wp2_with fail
    refine (md.impl (x + 1 + (t : Int)) y C w3).mono ?_
    rintro e w4 ⟨rfl, b4⟩
    have B4 := Lib.hid (B3.out.trans (b4.mono B3.out.size))
    clear b4
    have M := MON.out t
    clear MON
    generalize md.val (x + 1 + (t : Int)) y C = u at *
    generalize md.ok (x + 1 + (t : Int)) y C = k at *
    cases k with
    | false =>
      clear M
      go_wp2_with fail
      refine (md.impl x 1 1 w4).mono ?_
      rintro e w5 ⟨rfl, b5⟩
      rw [ONE.out.1, ONE.out.2]
      have B5 := Lib.hid (B4.out.trans (b5.mono B4.out.size))
      clear b5
      go_wp2_with fail
      refine (md.impl x C C w5).mono ?_
      rintro e w6 ⟨rfl, b6⟩
      rw [ALL.out.1, ALL.out.2]
      have B6 := Lib.hid (B5.out.trans (b6.mono B5.out.size))
      clear b6
      go_wp2
      go_ret
      exact ⟨rfl, B6.out⟩
    | true =>
      have M2 := M rfl (by omega)
      have t3 : decide (v ≤ u) = true := by simp; omega
      clear M M2
      go_wp2_with fail
      refine (md.impl x 1 1 w4).mono ?_
      rintro e w5 ⟨rfl, b5⟩
      rw [ONE.out.1, ONE.out.2]
      have B5 := Lib.hid (B4.out.trans (b5.mono B4.out.size))
      clear b5
      go_wp2_with fail
      refine (md.impl x C C w5).mono ?_
      rintro e w6 ⟨rfl, b6⟩
      rw [ALL.out.1, ALL.out.2]
      have B6 := Lib.hid (B5.out.trans (b6.mono B5.out.size))
      clear b6
      go_wp2
      go_ret
      exact ⟨rfl, B6.out⟩

theorem walk (a : Option Addr) (len cap : Nat) (w : World) (hl : len ≤ maxLen) (hB : draw.Bytes w a len) : Calls Try.prog 4 #[.slice a len cap] w fun e w' => e = .returned (.bool true) ∧ Below w.heap.size w w' := by
  by_cases hb : len ≤ 1048576
  · exact walk_small a len cap w hb hB
  · exact walk_big a len cap w hl (by omega)

theorem own : ownKnob Try.prog.godebug = none := by kernel_rfl
theorem laidOut : laidOutB Try.prog = true := by kernel_rfl
theorem isLaw : lift.IsLaw Rows.fnMulDivMoreSpec 1 0 := fun _ ds gs h1 h2 => match ds, h1 with | [_], _ => match gs, h2 with | [], _ => rfl

set_option maxRecDepth 100000 in
theorem lifted (os : Os) (started : os.Started) (H : Type) (enc : TypeId × Value → H) :
    ReturnsInHanded {} Try.checked os 4 .any (Rows.fnMulDivMoreSpec.pre6 enc Try.prog Try.f4 Rows.fnMulDivMoreRow.domain false) (Rows.fnMulDivMoreSpec.post enc Try.prog Try.f4 false true false false) := by
  refine returnsInHanded_of_change (C := Try.checked) own started (by kernel_rfl) Try.func4
    (ChangeSpec.witness6 (enc := enc) (C := Try.checked) false ⟨#[], #[.slice none 0 0], []⟩ 8 (by kernel_rfl) (by kernel_rfl) (by kernel_rfl) (by kernel_rfl)) ?_
  intro W base args ds gs before hval0 hW _ _
  have hval : ∀ (j : Nat) t v, Try.f4.params[j]? = some t → args[j]? = some v → Value.okWide Try.prog W .any base t v := hval0
  have hW' := hW
  obtain ⟨p, q, hA0, hV, hrest⟩ := hW
  have hA : DataW.TrodAll enc Try.prog W 0 (fun _ => true) true Try.f4.params.toList args.toList ds p := hA0
  clear hA0 hval0 hV hrest
  rw [Try.params4] at hA hval
  obtain ⟨v0, d0, rfl, rfl, h0⟩ := trodAll_one hA
  obtain ⟨a, len, cap, rfl, hlen, hB⟩ := draw.open_code Try.underlying22 Try.underlying5 (by kernel_rfl) (hval 0 22 v0 rfl rfl) h0
  refine (walk a len cap W hlen hB).mono fun e W' ⟨he, hb⟩ => ?_
  subst he
  exact ⟨_, rfl, lift.law_post laidOut (by kernel_rfl) (by kernel_rfl) (by kernel_rfl) Try.underlying4 (by rw [Try.params4]; exact isLaw) hW' hb⟩

theorem over : Rows.fnMulDivMoreRow.holds Try.pinned (OpenSpec.ofChange Rows.fnMulDivMoreSpec) :=
  OpenClaim.holds_of_wide 4 Try.f4 rfl rfl rfl rfl rfl rfl rfl ⟨rfl, rfl, rfl, rfl, rfl⟩ rfl rfl rfl rfl rfl (by kernel_rfl) Try.func4 (by kernel_rfl)
    (of_decide_eq_true (by kernel_rfl)) (by unfold Func.isWrapper; first | (rw [if_pos (by decide +kernel)]; kernel_rfl) | (rw [if_neg (by decide +kernel)]; exact ⟨rfl, rfl⟩))
    (fun os started H enc _ => lifted os started H enc)

theorem proved : Rows.FnMulDivMoreSaid := over
#print axioms proved
end Go.Proofs.Ytjkghpfcjjnghaa.fnMulDivMore
