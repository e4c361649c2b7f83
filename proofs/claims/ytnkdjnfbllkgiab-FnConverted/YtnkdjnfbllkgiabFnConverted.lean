/-
  Proved: for every code, conversion to the same currency changes nothing, a negated amount is converted to the negated result, and the result is that of MulDiv; the law laws.FnConverted returns true and its arguments read as before. Conditions: none beyond the given row.
-/
import Derived.Test.YtnkdjnfbllkgiabCvLaw
import Derived.Test.YtnkdjnfbllkgiabDrawCv
namespace Go.Proofs.Ytnkdjnfbllkgiab.fnConverted
open Go.ChangeShapes Go.WideShapes Go.ChangeAt Go.RowKit


theorem walk_big (a : Option Addr) (len cap : Nat) (w : World) (hl : len ≤ maxLen) (hb : 1048576 < len) : Calls Try.prog 9 #[.slice a len cap] w fun e w' => e = .returned (.bool true) ∧ Below w.heap.size w w' := by
  go_enter Try.func9, Try.ntmps9
  go_wp2_with fail
  refine (draw.bigT a len cap w hb hl).mono ?_
  rintro e w' ⟨rfl, rfl⟩
  go_wp2
  go_ret
  exact ⟨rfl, Below.refl _ _⟩
theorem onv_is (o : Option led.F5) : ∃ (y : led.F5) (b : Bool), base.onv o = .tuple #[.agg #[.int .i64 y.1, .int .i64 y.2.1, .int .i64 y.2.2.1, .int .i64 y.2.2.2.1, .int .i64 y.2.2.2.2], .bool b] := by
  cases o with
  | none => exact ⟨led.z5, false, rfl⟩
  | some x => exact ⟨x, true, rfl⟩
set_option maxRecDepth 100000 in
set_option maxHeartbeats 8000000 in
theorem walk_small (a : Option Addr) (cap len : Nat) (w : World) (hB : draw.Bytes w a len) (hn : len ≤ 1048576) : Calls Try.prog 9 #[.slice a len cap] w fun e w' => e = .returned (.bool true) ∧ Below w.heap.size w w' := by
  have HB := Lib.hid hB
  clear hB
  go_enter Try.func9, Try.ntmps9
  go_wp2_with fail
  refine (draw.bigF a len cap w hn).mono ?_
  rintro e w' ⟨rfl, rfl⟩
  go_wp2_with fail
  refine (draw.drawCv a len cap w HB.out hn).mono ?_
  rintro e w1 ⟨al, cl, g, l, n, f, t, d, rfl, rl, G, hl, b1⟩
  have B1 := Lib.hid b1
  have KEEP := Lib.hid (show ∀ w', Below w1.heap.size w1 w' → five.Row w' al cl g l from fun w' hb => rl.keep fun h => hb.block g (G h).2)
  have CI := Lib.hid (show ∀ w', Below w1.heap.size w1 w' → _ from fun w' hb => base.cvI w' al cl g l n f t d (KEEP.out w' hb) (by omega))
  have CS := Lib.hid (show ∀ w', Below w1.heap.size w1 w' → _ from fun w' hb => base.cvS w' al cl g l n f t d (KEEP.out w' hb) (by omega))
  have C2 := Lib.hid (show ∀ w', Below w1.heap.size w1 w' → _ from fun w' hb => base.cvI w' al cl g l (-n) f t d (KEEP.out w' hb) (by omega))
  have C3 := Lib.hid (show ∀ w', Below w1.heap.size w1 w' → _ from fun w' hb => base.cvI w' al cl g l n f f d (KEEP.out w' hb) (by omega))
  have CO := Lib.hid (show ∀ w', Below w1.heap.size w1 w' → _ from fun w' hb => base.onI w' al cl g l f t d (KEEP.out w' hb) (by omega))
  have A1 := Lib.hid (Below.refl w1.heap.size w1)
  have FIN := Lib.hid (show ∀ w', Below w1.heap.size w1 w' → Below w.heap.size w w' from fun w' hb => b1.trans (hb.mono b1.size))
  clear rl G b1
  obtain ⟨x, ok, hx⟩ : ∃ x ok, base.cvt l n f t d = (x, ok) := ⟨_, _, rfl⟩
  have HX := Lib.hid hx
  rw [hx] at CI CS
  dsimp only at CI CS
  clear hx
  have tx : (x != x) = false := by simp
  have tx' : (x == x) = true := by simp
  cases ok with
  | false =>
    clear C2 C3 CO
    go_wp2_with fail
    refine (CI.out w1 A1.out).mono ?_
    rintro e w2 ⟨rfl, b⟩
    have A2 := Lib.hid (A1.out.trans (b.mono A1.out.size))
    clear b
    go_wp2_with fail
    refine (CS.out w2 A2.out).mono ?_
    rintro e w3 ⟨rfl, b⟩
    have A3 := Lib.hid (A2.out.trans (b.mono A2.out.size))
    clear b
    go_wp2
    go_ret
    exact ⟨rfl, FIN.out _ A3.out⟩
  | true =>
    have D := Lib.hid (base.cvd HX.out)
    have n1 := D.out.n1
    have n2 := D.out.n2
    have x1 := D.out.x1
    have x2 := D.out.x2
    rw [D.out.neg] at C2
    rw [D.out.same] at C3
    dsimp only at C2 C3
    have ty : ((-x : Int) == -x) = true := by simp
    have tn : (n == n) = true := by simp
    rcases D.out.how with ⟨h1, h2⟩ | ⟨h1, r, h2, h3, h4, h5, h6⟩
    · obtain ⟨y, bb, hy⟩ := onv_is (base.ron l f t d)
      rw [hy] at CO
      have t1 : (f == t) = true := by simp [h1]
      have t2 : (x == n) = true := by simp [h2]
      clear hy h1 h2 D
      go_wp2_with fail
      refine (CI.out w1 A1.out).mono ?_
      rintro e w2 ⟨rfl, b⟩
      have A2 := Lib.hid (A1.out.trans (b.mono A1.out.size))
      clear b
      go_wp2_with fail
      refine (CS.out w2 A2.out).mono ?_
      rintro e w3 ⟨rfl, b⟩
      have A3 := Lib.hid (A2.out.trans (b.mono A2.out.size))
      clear b
      go_wp2_with fail
      refine (C2.out w3 A3.out).mono ?_
      rintro e w4 ⟨rfl, b⟩
      have A4 := Lib.hid (A3.out.trans (b.mono A3.out.size))
      clear b
      go_wp2_with fail
      refine (C3.out w4 A4.out).mono ?_
      rintro e w5 ⟨rfl, b⟩
      have A5 := Lib.hid (A4.out.trans (b.mono A4.out.size))
      clear b
      go_wp2_with fail
      refine (CO.out w5 A5.out).mono ?_
      rintro e w6 ⟨rfl, b⟩
      have A6 := Lib.hid (A5.out.trans (b.mono A5.out.size))
      clear b
      go_wp2_with fail
      refine (md.impl n _ _ _).mono ?_
      rintro e w7 ⟨rfl, b7⟩
      have A7 := Lib.hid ((five.Grew.step A6.out (Nat.le_refl _) (five.Grew.alloc w6 (.cells #[.int .i64 y.1, .int .i64 y.2.1, .int .i64 y.2.2.1, .int .i64 y.2.2.2.1, .int .i64 y.2.2.2.2] 25))).trans (b7.mono (by have := A6.out.size; simp; omega)))
      clear b7
      go_wp2
      go_ret
      exact ⟨rfl, FIN.out _ A7.out⟩
    · rw [h2] at CO
      unfold base.onv at CO
      have t1 : (f == t) = false := by simp [h1]
      have CM := Lib.hid (fun w' => md.impl n r.2.2.2.1 r.2.2.2.2 w')
      unfold md.Ans at CM
      rw [h5, h6] at CM
      clear h1 h2 h5 h6 D
      go_wp2_with fail
      refine (CI.out w1 A1.out).mono ?_
      rintro e w2 ⟨rfl, b⟩
      have A2 := Lib.hid (A1.out.trans (b.mono A1.out.size))
      clear b
      go_wp2_with fail
      refine (CS.out w2 A2.out).mono ?_
      rintro e w3 ⟨rfl, b⟩
      have A3 := Lib.hid (A2.out.trans (b.mono A2.out.size))
      clear b
      go_wp2_with fail
      refine (C2.out w3 A3.out).mono ?_
      rintro e w4 ⟨rfl, b⟩
      have A4 := Lib.hid (A3.out.trans (b.mono A3.out.size))
      clear b
      go_wp2_with fail
      refine (C3.out w4 A4.out).mono ?_
      rintro e w5 ⟨rfl, b⟩
      have A5 := Lib.hid (A4.out.trans (b.mono A4.out.size))
      clear b
      go_wp2_with fail
      refine (CO.out w5 A5.out).mono ?_
      rintro e w6 ⟨rfl, b⟩
      have A6 := Lib.hid (A5.out.trans (b.mono A5.out.size))
      clear b
      go_wp2_with fail
      refine (CM.out _).mono ?_
      rintro e w7 ⟨rfl, b7⟩
      have A7 := Lib.hid ((five.Grew.step A6.out (Nat.le_refl _) (five.Grew.alloc w6 (.cells #[.int .i64 r.1, .int .i64 r.2.1, .int .i64 r.2.2.1, .int .i64 r.2.2.2.1, .int .i64 r.2.2.2.2] 25))).trans (b7.mono (by have := A6.out.size; simp; omega)))
      clear b7
      go_wp2
      go_ret
      exact ⟨rfl, FIN.out _ A7.out⟩

theorem own : ownKnob Try.prog.godebug = none := by kernel_rfl
theorem laidOut : laidOutB Try.prog = true := by kernel_rfl
theorem isLaw : lift.IsLaw Rows.fnConvertedSpec 1 0 := fun _ ds gs h1 h2 => match ds, h1 with | [_], _ => match gs, h2 with | [], _ => rfl

set_option maxRecDepth 100000 in
theorem lifted (os : Os) (started : os.Started) (H : Type) (enc : TypeId × Value → H) :
    ReturnsInHanded {} Try.checked os 9 .any (Rows.fnConvertedSpec.pre6 enc Try.prog Try.f9 Rows.fnConvertedRow.domain false) (Rows.fnConvertedSpec.post enc Try.prog Try.f9 false true false false) := by
  refine returnsInHanded_of_change (C := Try.checked) own started (by kernel_rfl) Try.func9
    (ChangeSpec.witness6 (enc := enc) (C := Try.checked) false ⟨#[], #[.slice none 0 0], []⟩ 8 (by kernel_rfl) (by kernel_rfl) (by kernel_rfl) (by kernel_rfl)) ?_
  intro W base args ds gs before hval0 hW _ _
  have hval : ∀ (j : Nat) t v, Try.f9.params[j]? = some t → args[j]? = some v → Value.okWide Try.prog W .any base t v := hval0
  have hW' := hW
  obtain ⟨p, q, hA0, hV, hrest⟩ := hW
  have hA : DataW.TrodAll enc Try.prog W 0 (fun _ => true) true Try.f9.params.toList args.toList ds p := hA0
  clear hA0 hval0 hV hrest
  rw [Try.params9] at hA hval
  obtain ⟨v0, d0, rfl, rfl, h0⟩ := trodAll_one hA
  obtain ⟨a, len, cap, rfl, hlen, hB⟩ := draw.open_code Try.underlying46 Try.underlying5 (by kernel_rfl) (hval 0 46 v0 rfl rfl) h0
  have wk : Calls Try.prog 9 #[.slice a len cap] W fun e w' => e = .returned (.bool true) ∧ Below W.heap.size W w' := by
    by_cases hb : len ≤ 1048576
    · exact walk_small a cap len W hB hb
    · exact walk_big a len cap W hlen (by omega)
  refine (wk).mono fun e W' ⟨he, hb⟩ => ?_
  subst he
  exact ⟨_, rfl, lift.law_post laidOut (by kernel_rfl) (by kernel_rfl) (by kernel_rfl) Try.underlying4 (by rw [Try.params9]; exact isLaw) hW' hb⟩

theorem over : Rows.fnConvertedRow.holds Try.pinned (OpenSpec.ofChange Rows.fnConvertedSpec) :=
  OpenClaim.holds_of_wide 9 Try.f9 rfl rfl rfl rfl rfl rfl rfl ⟨rfl, rfl, rfl, rfl, rfl⟩ rfl rfl rfl rfl rfl (by kernel_rfl) Try.func9 (by kernel_rfl)
    (of_decide_eq_true (by kernel_rfl)) (by unfold Func.isWrapper; first | (rw [if_pos (by decide +kernel)]; kernel_rfl) | (rw [if_neg (by decide +kernel)]; exact ⟨rfl, rfl⟩))
    (fun os started H enc _ => lifted os started H enc)

theorem proved : Rows.FnConvertedSaid := over
#print axioms proved
end Go.Proofs.Ytnkdjnfbllkgiab.fnConverted
