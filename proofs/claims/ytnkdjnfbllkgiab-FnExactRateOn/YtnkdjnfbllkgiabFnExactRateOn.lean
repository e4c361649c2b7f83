/-
  Proved: for every list of rates, pair and day, the landed RateOn answers as its model does and writes into no argument; the law laws.FnExactRateOn returns true and its arguments read as before. Conditions: none beyond the given row.
-/
import Derived.Test.YtnkdjnfbllkgiabOnI
import Derived.Test.YtnkdjnfbllkgiabCopy
import Derived.Test.YtnkdjnfbllkgiabEqS
namespace Go.Proofs.Ytnkdjnfbllkgiab.fnExactRateOn
open Go.ChangeShapes Go.WideShapes Go.ChangeAt Go.RowKit


theorem walk_big (f t d : Int) (a : Option Addr) (len cap : Nat) (w : World) (hl : len ≤ maxLen) (hb : 1048576 < len) : Calls Try.prog 5 #[.slice a len cap, .int .i64 f, .int .i64 t, .int .i64 d] w fun e w' => e = .returned (.bool true) ∧ Below w.heap.size w w' := by
  unfold maxLen at hl
  have t1 : decide ((1048576 : Int) < (len : Int)) = true := by simp; omega
  go_enter Try.func5, Try.ntmps5
  go_wp2
  go_ret
  exact ⟨rfl, Below.refl _ _⟩
theorem onv_is (o : Option led.F5) : ∃ (y : led.F5) (b : Bool), base.onv o = .tuple #[.agg #[.int .i64 y.1, .int .i64 y.2.1, .int .i64 y.2.2.1, .int .i64 y.2.2.2.1, .int .i64 y.2.2.2.2], .bool b] := by
  cases o with
  | none => exact ⟨led.z5, false, rfl⟩
  | some x => exact ⟨x, true, rfl⟩
set_option maxRecDepth 100000 in
set_option maxHeartbeats 4000000 in
theorem walk_small (f t d : Int) (a : Option Addr) (cap : Nat) (l : List led.F5) (w : World) (hI : five.Inp w a l) (hn : l.length ≤ 1048576) : Calls Try.prog 5 #[.slice a l.length cap, .int .i64 f, .int .i64 t, .int .i64 d] w fun e w' => e = .returned (.bool true) ∧ Below w.heap.size w w' := by
  have HI := Lib.hid hI
  clear hI
  have t1 : decide ((1048576 : Int) < (l.length : Int)) = false := by simp; omega
  have CS := fun w0 c g r => base.onS w0 (some ⟨g, 0, none⟩) c g l f t d r (by omega)
  have CI := fun w0 c g r => base.onI w0 (some ⟨g, 0, none⟩) c g l f t d r (by omega)
  obtain ⟨y, b, hy⟩ := onv_is (base.ron l f t d)
  rw [hy] at CS CI
  have CSh := Lib.hid CS
  have CIh := Lib.hid CI
  clear CS CI hy
  have tt : (b != b) = false := by simp
  go_enter Try.func5, Try.ntmps5
  go_wp2_with fail
  refine (five.szOk a l.length cap 1048576 w hn (Nat.le_refl _)).mono ?_
  rintro e w' ⟨rfl, rfl⟩
  go_wp2_with fail
  refine (five.copy a cap l w HI.out hn).mono ?_
  rintro e w1 ⟨g1, rfl, r1, l1, k1, b1⟩
  have R1 := Lib.hid r1
  have B1 := Lib.hid b1
  clear r1 b1
  go_wp2_with fail
  refine (CSh.out w1 _ g1 R1.out).mono ?_
  rintro e w2 ⟨rfl, b2⟩
  have B2 := Lib.hid (B1.out.trans (b2.mono B1.out.size))
  clear b2 R1
  obtain ⟨w2', hw2⟩ : ∃ w2', w2' = w2.alloc (.cells #[.int .i64 y.1, .int .i64 y.2.1, .int .i64 y.2.2.1, .int .i64 y.2.2.2.1, .int .i64 y.2.2.2.2] 25) := ⟨_, rfl⟩
  have B2' := Lib.hid (show Below w.heap.size w w2' from by rw [hw2]; exact B2.out.alloc B2.out.size _)
  have A2 := Lib.hid (show five.At w2' w2.heap.size 0 y from by rw [hw2]; exact five.At.boxed w2 y _)
  go_wp2_with fail
  rw [← hw2]
  clear hw2
  refine (five.copy a cap l w2' (HI.out.below B2'.out) hn).mono ?_
  rintro e w3 ⟨gx, rfl, rx, lx, kx, b3⟩
  have RX := Lib.hid rx
  have A3 := Lib.hid (A2.out.keep (w' := w3) (b3.block _ A2.out.lt))
  have B3 := Lib.hid (B2'.out.trans (b3.mono B2'.out.size))
  clear rx b3
  go_wp2_with fail
  refine (CIh.out w3 _ gx RX.out).mono ?_
  rintro e w4 ⟨rfl, b4⟩
  have RX4 := Lib.hid (RX.out.keep (w' := w4) fun h => b4.block gx kx)
  have A4 := Lib.hid (A3.out.keep (w' := w4) (b4.block _ A3.out.lt))
  have B4 := Lib.hid (B3.out.trans (b4.mono B3.out.size))
  have z34 := b4.size
  clear b4 RX A3 A2
  obtain ⟨w4', hw4⟩ : ∃ w4', w4' = w4.alloc (.cells #[.int .i64 y.1, .int .i64 y.2.1, .int .i64 y.2.2.1, .int .i64 y.2.2.2.1, .int .i64 y.2.2.2.2] 25) := ⟨_, rfl⟩
  have B4' := Lib.hid (show Below w.heap.size w w4' from by rw [hw4]; exact B4.out.alloc B4.out.size _)
  have G4 := Lib.hid (show Below w4.heap.size w4 w4' from by rw [hw4]; exact (five.Grew.alloc _ _).below)
  have AB := Lib.hid (show five.At w4' w4.heap.size 0 y from by rw [hw4]; exact five.At.boxed w4 y _)
  obtain ⟨p0, p1, p2, p3, p4⟩ := A4.out.keep (G4.out.block _ A4.out.lt)
  simp only [Nat.zero_add] at p0 p1 p2 p3 p4
  rw [hw4] at p0 p1 p2 p3 p4
  have RX5' := Lib.hid (RX4.out.keep (w' := w4') fun h => G4.out.block gx (by omega))
  have z4 := G4.out.size
  go_wp2_with fail
  rw [← hw4]
  refine (five.eqElT y w4').mono ?_
  rintro e w45 ⟨rfl, b45⟩
  have RX45 := Lib.hid (RX5'.out.keep (w' := w45) fun h => b45.block gx (by omega))
  have B45 := Lib.hid (B4'.out.trans (b45.mono B4'.out.size))
  have z5 := b45.size
  clear b45 p0 p1 p2 p3 p4 hw4
  go_wp2_with fail
  refine (five.copy a cap l w45 (HI.out.below B45.out) hn).mono ?_
  rintro e w5 ⟨gy, rfl, ry, ly, ky, b5⟩
  have RY := Lib.hid ry
  have RX5 := Lib.hid (RX45.out.keep (w' := w5) fun h => b5.block gx (by omega))
  have B5 := Lib.hid (B45.out.trans (b5.mono B45.out.size))
  clear ry b5 RX4
  go_wp2_with fail
  refine (five.eqT w5 _ _ _ _ gx gy l RX5.out RY.out hn).mono ?_
  rintro e w6 ⟨rfl, b6⟩
  have B6 := Lib.hid (B5.out.trans (b6.mono B5.out.size))
  clear b6
  go_wp2
  go_ret
  exact ⟨rfl, B6.out⟩

theorem own : ownKnob Try.prog.godebug = none := by kernel_rfl
theorem laidOut : laidOutB Try.prog = true := by kernel_rfl
theorem isLaw : lift.IsLaw Rows.fnExactRateOnSpec 4 0 := fun _ ds gs h1 h2 => match ds, h1 with | [_, _, _, _], _ => match gs, h2 with | [], _ => rfl

set_option maxRecDepth 100000 in
theorem lifted (os : Os) (started : os.Started) (H : Type) (enc : TypeId × Value → H) :
    ReturnsInHanded {} Try.checked os 5 .any (Rows.fnExactRateOnSpec.pre6 enc Try.prog Try.f5 Rows.fnExactRateOnRow.domain false) (Rows.fnExactRateOnSpec.post enc Try.prog Try.f5 false true false false) := by
  refine returnsInHanded_of_change (C := Try.checked) own started (by kernel_rfl) Try.func5
    (ChangeSpec.witness6 (enc := enc) (C := Try.checked) false ⟨#[], #[.slice none 0 0, .int .i64 0, .int .i64 0, .int .i64 0], []⟩ 8 (by kernel_rfl) (by kernel_rfl) (by kernel_rfl) (by kernel_rfl)) ?_
  intro W base args ds gs before hval0 hW _ _
  have hval : ∀ (j : Nat) t v, Try.f5.params[j]? = some t → args[j]? = some v → Value.okWide Try.prog W .any base t v := hval0
  have hW' := hW
  obtain ⟨p, q, hA0, hV, hrest⟩ := hW
  have hA : DataW.TrodAll enc Try.prog W 0 (fun _ => true) true Try.f5.params.toList args.toList ds p := hA0
  clear hA0 hval0 hV hrest
  rw [Try.params5] at hA hval
  obtain ⟨v0, v1, v2, v3, d0, d1, d2, d3, p0, p1, p2, p3, rfl, rfl, rfl, h0, h1, h2, h3⟩ := trodAll_four hA
  obtain ⟨a, cap, l, rfl, hlen, hI, wfl⟩ := five.open_rates (hval 0 28 v0 rfl rfl) h0
  obtain ⟨a1, rfl, rfl, rfl, w1⟩ := open_int Try.underlying2 (hval 1 2 v1 rfl rfl) h1
  obtain ⟨a2, rfl, rfl, rfl, w2⟩ := open_int Try.underlying2 (hval 2 2 v2 rfl rfl) h2
  obtain ⟨a3, rfl, rfl, rfl, w3⟩ := open_int Try.underlying2 (hval 3 2 v3 rfl rfl) h3
  have wk : Calls Try.prog 5 #[.slice a l.length cap, .int .i64 a1, .int .i64 a2, .int .i64 a3] W fun e w' => e = .returned (.bool true) ∧ Below W.heap.size W w' := by
    by_cases hb : l.length ≤ 1048576
    · exact walk_small a1 a2 a3 a cap l W hI hb
    · exact walk_big a1 a2 a3 a l.length cap W hlen (by omega)
  refine (wk).mono fun e W' ⟨he, hb⟩ => ?_
  subst he
  exact ⟨_, rfl, lift.law_post laidOut (by kernel_rfl) (by kernel_rfl) (by kernel_rfl) Try.underlying4 (by rw [Try.params5]; exact isLaw) hW' hb⟩

theorem over : Rows.fnExactRateOnRow.holds Try.pinned (OpenSpec.ofChange Rows.fnExactRateOnSpec) :=
  OpenClaim.holds_of_wide 5 Try.f5 rfl rfl rfl rfl rfl rfl rfl ⟨rfl, rfl, rfl, rfl, rfl⟩ rfl rfl rfl rfl rfl (by kernel_rfl) Try.func5 (by kernel_rfl)
    (of_decide_eq_true (by kernel_rfl)) (by unfold Func.isWrapper; first | (rw [if_pos (by decide +kernel)]; kernel_rfl) | (rw [if_neg (by decide +kernel)]; exact ⟨rfl, rfl⟩))
    (fun os started H enc _ => lifted os started H enc)

theorem proved : Rows.FnExactRateOnSaid := over
#print axioms proved
end Go.Proofs.Ytnkdjnfbllkgiab.fnExactRateOn
