/-
  Proved: for every code, the law of MulDiv holds of the drawn numbers; the law laws.FnMulDiv returns true and its arguments read as before. Conditions: none beyond the given row.
-/
import Derived.Test.YtjkghpfcjjnghaaDraw4
import Derived.Test.YtjkghpfcjjnghaaMdLaw
namespace Go.Proofs.Ytjkghpfcjjnghaa.fnMulDiv
open Go.ChangeShapes Go.WideShapes Go.ChangeAt Go.RowKit

theorem walk_big (a : Option Addr) (len cap : Nat) (w : World) (hl : len ≤ maxLen) (hb : 1048576 < len) : Calls Try.prog 3 #[.slice a len cap] w fun e w' => e = .returned (.bool true) ∧ Below w.heap.size w w' := by
  go_enter Try.func3, Try.ntmps3
  go_wp2_with fail
  refine (draw.bigT a len cap w hb hl).mono ?_
  rintro e w' ⟨rfl, rfl⟩
  go_wp2
  go_ret
  exact ⟨rfl, Below.refl _ _⟩

set_option maxRecDepth 100000 in
set_option maxHeartbeats 4000000 in
theorem walk_small (a : Option Addr) (len cap : Nat) (w : World) (hb : len ≤ 1048576) (hB : draw.Bytes w a len) : Calls Try.prog 3 #[.slice a len cap] w fun e w' => e = .returned (.bool true) ∧ Below w.heap.size w w' := by
  have HB := Lib.hid hB
  clear hB
  go_enter Try.func3, Try.ntmps3
  go_wp2_with fail
  refine (draw.bigF a len cap w hb).mono ?_
  rintro e w' ⟨rfl, rfl⟩
  go_wp2_with fail
  refine (draw.drawMulDiv a len cap w HB.out hb).mono ?_
  rintro e w1 ⟨x, y, z, rfl, b1⟩
  have B1 := Lib.hid b1
  clear b1
  go_wp2_with fail
  refine (md.impl x y z w1).mono ?_
  rintro e w2 ⟨rfl, b2⟩
  have B2 := Lib.hid (B1.out.trans (b2.mono B1.out.size))
  clear b2
  go_wp2_with fail
  refine (md.spec x y z w2).mono ?_
  rintro e w3 ⟨rfl, b3⟩
  have B3 := Lib.hid (B2.out.trans (b3.mono B2.out.size))
  clear b3
  cases hk : md.ok x y z with
  | false =>
    clear hk
    generalize md.val x y z = v
    have t1 : (v != v) = false := by simp
    have t2 : (v == v) = true := by simp
    go_wp2
    go_ret
    exact ⟨rfl, B3.out⟩
  | true =>
    have OKN := Lib.hid ((md.ok_neg x y z).trans hk)
    have VN := Lib.hid (md.val_neg x y z hk)
    obtain ⟨x1, x2, y1, y2, z1, z2, kk⟩ := md.ok_iff.1 hk
    have hv : md.val x y z = if x < 0 then -(md.rq (x.natAbs * y.toNat) z.toNat : Int) else (md.rq (x.natAbs * y.toNat) z.toNat : Int) := by unfold md.val; rw [hk, if_pos rfl]
    obtain ⟨B, rfl⟩ := Int.eq_ofNat_of_zero_le y1
    obtain ⟨C, rfl⟩ := Int.eq_ofNat_of_zero_le (show 0 ≤ z by omega)
    simp only [Int.toNat_natCast] at kk hv
    have HV := Lib.hid hv
    have v1 : -1000000000000 ≤ md.val x B C := by rw [hv]; split <;> omega
    have v2 : md.val x B C ≤ 1000000000000 := by rw [hv]; split <;> omega
    clear hk kk hv
    generalize md.val x B C = v at *
    have t1 : (v != v) = false := by simp
    go_wp2_with fail
    refine (md.impl (-x) B C w3).mono ?_
    rintro e w4 ⟨rfl, b4⟩
    rw [OKN.out, VN.out]
    have B4 := Lib.hid (B3.out.trans (b4.mono B3.out.size))
    clear b4 OKN VN
    have t2 : (-v != -v) = false := by simp
    by_cases hB0 : B = 0
    · have u1 : decide (0 < B) = false := by simp; omega
      obtain ⟨p, q, E, hN⟩ := md.near_of x B C (by omega) (by omega) (by rw [hB0]; simp) v HV.out
      clear hB0
      obtain ⟨ex, ey, p1, p2, q1, q2, em, E1, E2⟩ := hN
      clear HV
      have e5 : E ≤ 1000000000000 := by omega
      rcases E2 with E2 | ⟨E2, E3⟩
      · have s1 : decide (2 * E < (C : Int)) = true := by simp; omega
        clear E2
        go_wp2
        go_ret
        exact ⟨rfl, B4.out⟩
      · have s1 : decide (2 * E < (C : Int)) = false := by simp; omega
        have s2 : (2 * E == (C : Int)) = true := by simp; omega
        have s3 : (v.tmod 2 == 0) = true := by simp [E3]
        clear E2 E3
        go_wp2
        go_ret
        exact ⟨rfl, B4.out⟩
    · have hp : 0 < B := by omega
      have u0 : ((B : Int) == 0) = false := by simp; omega
      have u1 : decide (0 < B) = true := by simp; omega
      obtain ⟨D, hD⟩ : ∃ D, D = 2305843009213693952 / B := ⟨_, rfl⟩
      have eD : (2305843009213693952 : Int) / (B : Int) = (D : Int) := by rw [hD, Int.natCast_ediv]; rfl
      have dD : D ≤ 2305843009213693952 := by rw [hD]; exact Nat.div_le_self _ _
      have HD := Lib.hid hD
      clear hD
      by_cases c1 : (D : Int) < x
      · have u2 : decide ((D : Int) < x) = true := by simp; omega
        go_wp2
        go_ret
        exact ⟨rfl, B4.out⟩
      · have u2 : decide ((D : Int) < x) = false := by simp; omega
        by_cases c2 : x < -(D : Int)
        · have u3 : decide (x < -(D : Int)) = true := by simp; omega
          go_wp2
          go_ret
          exact ⟨rfl, B4.out⟩
        · have u3 : decide (x < -(D : Int)) = false := by simp; omega
          have hn : x.natAbs * B ≤ 2305843009213693952 := Nat.le_trans (Nat.mul_le_mul_right _ (show x.natAbs ≤ D by omega)) (by rw [HD.out]; exact Nat.div_mul_le_self _ _)
          obtain ⟨p, q, E, hN⟩ := md.near_of x B C (by omega) (by omega) hn v HV.out
          clear hn
          obtain ⟨ex, ey, p1, p2, q1, q2, em, E1, E2⟩ := hN
          clear HV
          have e5 : E ≤ 1000000000000 := by omega
          rcases E2 with E2 | ⟨E2, E3⟩
          · have s1 : decide (2 * E < (C : Int)) = true := by simp; omega
            clear E2
            go_wp2
            go_ret
            exact ⟨rfl, B4.out⟩
          · have s1 : decide (2 * E < (C : Int)) = false := by simp; omega
            have s2 : (2 * E == (C : Int)) = true := by simp; omega
            have s3 : (v.tmod 2 == 0) = true := by simp [E3]
            clear E2 E3
            go_wp2
            go_ret
            exact ⟨rfl, B4.out⟩

theorem walk (a : Option Addr) (len cap : Nat) (w : World) (hl : len ≤ maxLen) (hB : draw.Bytes w a len) : Calls Try.prog 3 #[.slice a len cap] w fun e w' => e = .returned (.bool true) ∧ Below w.heap.size w w' := by
  by_cases hb : len ≤ 1048576
  · exact walk_small a len cap w hb hB
  · exact walk_big a len cap w hl (by omega)

theorem own : ownKnob Try.prog.godebug = none := by kernel_rfl
theorem laidOut : laidOutB Try.prog = true := by kernel_rfl
theorem isLaw : lift.IsLaw Rows.fnMulDivSpec 1 0 := fun _ ds gs h1 h2 => match ds, h1 with | [_], _ => match gs, h2 with | [], _ => rfl

set_option maxRecDepth 100000 in
theorem lifted (os : Os) (started : os.Started) (H : Type) (enc : TypeId × Value → H) :
    ReturnsInHanded {} Try.checked os 3 .any (Rows.fnMulDivSpec.pre6 enc Try.prog Try.f3 Rows.fnMulDivRow.domain false) (Rows.fnMulDivSpec.post enc Try.prog Try.f3 false true false false) := by
  refine returnsInHanded_of_change (C := Try.checked) own started (by kernel_rfl) Try.func3
    (ChangeSpec.witness6 (enc := enc) (C := Try.checked) false ⟨#[], #[.slice none 0 0], []⟩ 8 (by kernel_rfl) (by kernel_rfl) (by kernel_rfl) (by kernel_rfl)) ?_
  intro W base args ds gs before hval0 hW _ _
  have hval : ∀ (j : Nat) t v, Try.f3.params[j]? = some t → args[j]? = some v → Value.okWide Try.prog W .any base t v := hval0
  have hW' := hW
  obtain ⟨p, q, hA0, hV, hrest⟩ := hW
  have hA : DataW.TrodAll enc Try.prog W 0 (fun _ => true) true Try.f3.params.toList args.toList ds p := hA0
  clear hA0 hval0 hV hrest
  rw [Try.params3] at hA hval
  obtain ⟨v0, d0, rfl, rfl, h0⟩ := trodAll_one hA
  obtain ⟨a, len, cap, rfl, hlen, hB⟩ := draw.open_code Try.underlying22 Try.underlying5 (by kernel_rfl) (hval 0 22 v0 rfl rfl) h0
  refine (walk a len cap W hlen hB).mono fun e W' ⟨he, hb⟩ => ?_
  subst he
  exact ⟨_, rfl, lift.law_post laidOut (by kernel_rfl) (by kernel_rfl) (by kernel_rfl) Try.underlying4 (by rw [Try.params3]; exact isLaw) hW' hb⟩

theorem over : Rows.fnMulDivRow.holds Try.pinned (OpenSpec.ofChange Rows.fnMulDivSpec) :=
  OpenClaim.holds_of_wide 3 Try.f3 rfl rfl rfl rfl rfl rfl rfl ⟨rfl, rfl, rfl, rfl, rfl⟩ rfl rfl rfl rfl rfl (by kernel_rfl) Try.func3 (by kernel_rfl)
    (of_decide_eq_true (by kernel_rfl)) (by unfold Func.isWrapper; first | (rw [if_pos (by decide +kernel)]; kernel_rfl) | (rw [if_neg (by decide +kernel)]; exact ⟨rfl, rfl⟩))
    (fun os started H enc _ => lifted os started H enc)

theorem proved : Rows.FnMulDivSaid := over
#print axioms proved
end Go.Proofs.Ytjkghpfcjjnghaa.fnMulDiv
