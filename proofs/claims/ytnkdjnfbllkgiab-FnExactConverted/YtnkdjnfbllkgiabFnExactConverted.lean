/-
  Proved: for every list of rates, amount, pair and day, the landed Converted answers as its model does and writes into no argument; the law laws.FnExactConverted returns true and its arguments read as before. Conditions: none beyond the given row.
-/
import Derived.Test.YtnkdjnfbllkgiabCv
import Derived.Test.YtnkdjnfbllkgiabCopy
import Derived.Test.YtnkdjnfbllkgiabEqS
namespace Go.Proofs.Ytnkdjnfbllkgiab.fnExactConverted
open Go.ChangeShapes Go.WideShapes Go.ChangeAt Go.RowKit


theorem trod5 {H : Type} {enc : TypeId × Value → H} {P : Program} {w : World} {base : Nat} {spare : Nat → Bool} {held : Bool} {t0 t1 t2 t3 t4 : TypeId} {args : Array Value} {ds : List (DataW H)} {ps : List MemPlace} (h : DataW.TrodAll enc P w base spare held [t0, t1, t2, t3, t4] args.toList ds ps) :
    ∃ v0 v1 v2 v3 v4 d0 d1 d2 d3 d4 p0 p1 p2 p3 p4, args = #[v0, v1, v2, v3, v4] ∧ ds = [d0, d1, d2, d3, d4] ∧ ps = p0 ++ p1 ++ p2 ++ p3 ++ p4 ∧ DataW.Trod enc P w base spare held t0 v0 d0 p0 ∧ DataW.Trod enc P w base spare held t1 v1 d1 p1 ∧ DataW.Trod enc P w base spare held t2 v2 d2 p2 ∧ DataW.Trod enc P w base spare held t3 v3 d3 p3 ∧ DataW.Trod enc P w base spare held t4 v4 d4 p4 := by
  obtain ⟨u0, vs0, e0, ds0, q0, r0, hargs, rfl, rfl, hd0, hrest0⟩ := trodAll_cons h
  obtain ⟨u1, vs1, e1, ds1, q1, r1, rfl, rfl, rfl, hd1, hrest1⟩ := trodAll_cons hrest0
  obtain ⟨u2, vs2, e2, ds2, q2, r2, rfl, rfl, rfl, hd2, hrest2⟩ := trodAll_cons hrest1
  obtain ⟨u3, vs3, e3, ds3, q3, r3, rfl, rfl, rfl, hd3, hrest3⟩ := trodAll_cons hrest2
  obtain ⟨u4, vs4, e4, ds4, q4, r4, rfl, rfl, rfl, hd4, hrest4⟩ := trodAll_cons hrest3
  obtain ⟨rfl, rfl, rfl⟩ := trodAll_nil hrest4
  exact ⟨u0, u1, u2, u3, u4, e0, e1, e2, e3, e4, q0, q1, q2, q3, q4, by cases args; simp_all, rfl, by simp, hd0, hd1, hd2, hd3, hd4⟩
theorem walk_big (n f t d : Int) (a : Option Addr) (len cap : Nat) (w : World) (hl : len ≤ maxLen) (hb : 1048576 < len) : Calls Try.prog 7 #[.slice a len cap, .int .i64 n, .int .i64 f, .int .i64 t, .int .i64 d] w fun e w' => e = .returned (.bool true) ∧ Below w.heap.size w w' := by
  unfold maxLen at hl
  have t1 : decide ((1048576 : Int) < (len : Int)) = true := by simp; omega
  go_enter Try.func7, Try.ntmps7
  go_wp2
  go_ret
  exact ⟨rfl, Below.refl _ _⟩
set_option maxRecDepth 100000 in
set_option maxHeartbeats 4000000 in
theorem walk_small (n f t d : Int) (a : Option Addr) (cap : Nat) (l : List led.F5) (w : World) (hI : five.Inp w a l) (hn : l.length ≤ 1048576) : Calls Try.prog 7 #[.slice a l.length cap, .int .i64 n, .int .i64 f, .int .i64 t, .int .i64 d] w fun e w' => e = .returned (.bool true) ∧ Below w.heap.size w w' := by
  have HI := Lib.hid hI
  clear hI
  have t1 : decide ((1048576 : Int) < (l.length : Int)) = false := by simp; omega
  have CS := fun w0 c g r => base.cvS w0 (some ⟨g, 0, none⟩) c g l n f t d r (by omega)
  have CI := fun w0 c g r => base.cvI w0 (some ⟨g, 0, none⟩) c g l n f t d r (by omega)
  generalize (base.cvt l n f t d).1 = y at CS CI
  generalize (base.cvt l n f t d).2 = b at CS CI
  have CSh := Lib.hid CS
  have CIh := Lib.hid CI
  clear CS CI
  have tt : (b != b) = false := by simp
  have ty : (y != y) = false := by simp
  go_enter Try.func7, Try.ntmps7
  go_wp2_with fail
  refine (five.szOk a l.length cap 1048576 w hn (Nat.le_refl _)).mono ?_
  rintro e w' ⟨rfl, rfl⟩
  go_wp2_with fail
  refine (five.copy a cap l w HI.out hn).mono ?_
  rintro e w1 ⟨g1, rfl, r1, l1, k1, b1⟩
  have R1 := Lib.hid r1
  have B1 := Lib.hid b1
  clear r1 b1
  go_wp2_with fail
  refine (CSh.out w1 _ g1 R1.out).mono ?_
  rintro e w2 ⟨rfl, b2⟩
  have B2 := Lib.hid (B1.out.trans (b2.mono B1.out.size))
  clear b2 R1
  go_wp2_with fail
  refine (five.copy a cap l w2 (HI.out.below B2.out) hn).mono ?_
  rintro e w3 ⟨gx, rfl, rx, lx, kx, b3⟩
  have RX := Lib.hid rx
  have B3 := Lib.hid (B2.out.trans (b3.mono B2.out.size))
  clear rx b3
  go_wp2_with fail
  refine (CIh.out w3 _ gx RX.out).mono ?_
  rintro e w4 ⟨rfl, b4⟩
  have RX4 := Lib.hid (RX.out.keep (w' := w4) fun h => b4.block gx kx)
  have B4 := Lib.hid (B3.out.trans (b4.mono B3.out.size))
  have z34 := b4.size
  clear b4 RX
  go_wp2_with fail
  refine (five.copy a cap l w4 (HI.out.below B4.out) hn).mono ?_
  rintro e w5 ⟨gy, rfl, ry, ly, ky, b5⟩
  have RY := Lib.hid ry
  have RX5 := Lib.hid (RX4.out.keep (w' := w5) fun h => b5.block gx (by omega))
  have B5 := Lib.hid (B4.out.trans (b5.mono B4.out.size))
  clear ry b5 RX4
  go_wp2_with fail
  refine (five.eqT w5 _ _ _ _ gx gy l RX5.out RY.out hn).mono ?_
  rintro e w6 ⟨rfl, b6⟩
  have B6 := Lib.hid (B5.out.trans (b6.mono B5.out.size))
  clear b6
  go_wp2
  go_ret
  exact ⟨rfl, B6.out⟩

theorem own : ownKnob Try.prog.godebug = none := by kernel_rfl
theorem laidOut : laidOutB Try.prog = true := by kernel_rfl
theorem isLaw : lift.IsLaw Rows.fnExactConvertedSpec 5 0 := fun _ ds gs h1 h2 => match ds, h1 with | [_, _, _, _, _], _ => match gs, h2 with | [], _ => rfl

set_option maxRecDepth 100000 in
theorem lifted (os : Os) (started : os.Started) (H : Type) (enc : TypeId × Value → H) :
    ReturnsInHanded {} Try.checked os 7 .any (Rows.fnExactConvertedSpec.pre6 enc Try.prog Try.f7 Rows.fnExactConvertedRow.domain false) (Rows.fnExactConvertedSpec.post enc Try.prog Try.f7 false true false false) := by
  refine returnsInHanded_of_change (C := Try.checked) own started (by kernel_rfl) Try.func7
    (ChangeSpec.witness6 (enc := enc) (C := Try.checked) false ⟨#[], #[.slice none 0 0, .int .i64 0, .int .i64 0, .int .i64 0, .int .i64 0], []⟩ 8 (by kernel_rfl) (by kernel_rfl) (by kernel_rfl) (by kernel_rfl)) ?_
  intro W base args ds gs before hval0 hW _ _
  have hval : ∀ (j : Nat) t v, Try.f7.params[j]? = some t → args[j]? = some v → Value.okWide Try.prog W .any base t v := hval0
  have hW' := hW
  obtain ⟨p, q, hA0, hV, hrest⟩ := hW
  have hA : DataW.TrodAll enc Try.prog W 0 (fun _ => true) true Try.f7.params.toList args.toList ds p := hA0
  clear hA0 hval0 hV hrest
  rw [Try.params7] at hA hval
  obtain ⟨v0, v1, v2, v3, v4, d0, d1, d2, d3, d4, p0, p1, p2, p3, p4, rfl, rfl, rfl, h0, h1, h2, h3, h4⟩ := trod5 hA
  obtain ⟨a, cap, l, rfl, hlen, hI, wfl⟩ := five.open_rates (hval 0 28 v0 rfl rfl) h0
  obtain ⟨a1, rfl, rfl, rfl, w1⟩ := open_int Try.underlying2 (hval 1 2 v1 rfl rfl) h1
  obtain ⟨a2, rfl, rfl, rfl, w2⟩ := open_int Try.underlying2 (hval 2 2 v2 rfl rfl) h2
  obtain ⟨a3, rfl, rfl, rfl, w3⟩ := open_int Try.underlying2 (hval 3 2 v3 rfl rfl) h3
  obtain ⟨a4, rfl, rfl, rfl, w4⟩ := open_int Try.underlying2 (hval 4 2 v4 rfl rfl) h4
  have wk : Calls Try.prog 7 #[.slice a l.length cap, .int .i64 a1, .int .i64 a2, .int .i64 a3, .int .i64 a4] W fun e w' => e = .returned (.bool true) ∧ Below W.heap.size W w' := by
    by_cases hb : l.length ≤ 1048576
    · exact walk_small a1 a2 a3 a4 a cap l W hI hb
    · exact walk_big a1 a2 a3 a4 a l.length cap W hlen (by omega)
  refine (wk).mono fun e W' ⟨he, hb⟩ => ?_
  subst he
  exact ⟨_, rfl, lift.law_post laidOut (by kernel_rfl) (by kernel_rfl) (by kernel_rfl) Try.underlying4 (by rw [Try.params7]; exact isLaw) hW' hb⟩

theorem over : Rows.fnExactConvertedRow.holds Try.pinned (OpenSpec.ofChange Rows.fnExactConvertedSpec) :=
  OpenClaim.holds_of_wide 7 Try.f7 rfl rfl rfl rfl rfl rfl rfl ⟨rfl, rfl, rfl, rfl, rfl⟩ rfl rfl rfl rfl rfl (by kernel_rfl) Try.func7 (by kernel_rfl)
    (of_decide_eq_true (by kernel_rfl)) (by unfold Func.isWrapper; first | (rw [if_pos (by decide +kernel)]; kernel_rfl) | (rw [if_neg (by decide +kernel)]; exact ⟨rfl, rfl⟩))
    (fun os started H enc _ => lifted os started H enc)

theorem proved : Rows.FnExactConvertedSaid := over
#print axioms proved
end Go.Proofs.Ytnkdjnfbllkgiab.fnExactConverted
