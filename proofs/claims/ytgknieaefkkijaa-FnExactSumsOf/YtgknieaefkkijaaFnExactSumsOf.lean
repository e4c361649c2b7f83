/-
  Proved: for every list of Parts, the landed SumsOf answers as its model does and writes into no argument; the law laws.FnExactSumsOf returns true and its arguments read as before. Conditions: none beyond the given row.
-/
import Derived.Test.YtgknieaefkkijaaSmS
import Derived.Test.YtgknieaefkkijaaSmI
import Derived.Test.YtgknieaefkkijaaCp7
import Derived.Test.YtgknieaefkkijaaEq7
import Derived.Test.YtgknieaefkkijaaOp7
namespace Go.Proofs.Ytgknieaefkkijaa.fnExactSumsOf
open Go.ChangeShapes Go.WideShapes Go.ChangeAt Go.RowKit


theorem walk_big  (a : Option Addr) (len cap : Nat) (w : World) (hl : len ≤ maxLen) (hb : 1048576 < len) : Calls Try.prog 4 #[.slice a len cap] w fun e w' => e = .returned (.bool true) ∧ Below w.heap.size w w' := by
  unfold maxLen at hl
  have t1 : decide ((1048576 : Int) < (len : Int)) = true := by simp; omega
  go_enter Try.func4, Try.ntmps4
  go_wp2
  go_ret
  exact ⟨rfl, Below.refl _ _⟩

set_option maxRecDepth 100000 in
set_option maxHeartbeats 4000000 in
theorem walk_small (a : Option Addr) (cap : Nat) (l : List seven.F7) (w : World) (hI : seven.Inp w a l) (hn : l.length ≤ 1048576) : Calls Try.prog 4 #[.slice a l.length cap] w fun e w' => e = .returned (.bool true) ∧ Below w.heap.size w w' := by
  have HI := Lib.hid hI
  clear hI
  have t1 : decide ((1048576 : Int) < (l.length : Int)) = false := by simp; omega
  have CS := fun w0 c g r => base.smS w0 (some ⟨g, 0, none⟩) c g l r (by omega)
  have CI := fun w0 c g r => base.smI w0 (some ⟨g, 0, none⟩) c g l r (by omega)
  generalize pl.sums l = t at CS CI
  have CSh := Lib.hid CS
  have CIh := Lib.hid CI
  clear CS CI
  go_enter Try.func4, Try.ntmps4
  go_wp2_with fail
  refine (seven.szOk a l.length cap 1048576 w hn (Nat.le_refl _)).mono ?_
  rintro e w' ⟨rfl, rfl⟩
  go_wp2_with fail
  refine (seven.copy a cap l w HI.out hn).mono ?_
  rintro e w1 ⟨g1, rfl, r1, l1, k1, b1⟩
  have R1 := Lib.hid r1
  have B1 := Lib.hid b1
  clear r1 b1
  go_wp2_with fail
  refine (CSh.out w1 _ g1 R1.out).mono ?_
  rintro e w2 ⟨rfl, b2⟩
  replace B1 := Lib.hid (B1.out.trans (b2.mono B1.out.size))
  clear b2 R1 k1 l1
  have XW := Lib.hid (base.Bx.new w2 t)
  have zbbw : (w2.alloc (.cells #[.int .i64 t.1, .int .i64 t.2.1, .int .i64 t.2.2.1, .int .i64 t.2.2.2.1, .int .i64 t.2.2.2.2.1, .int .i64 t.2.2.2.2.2.1, .int .i64 t.2.2.2.2.2.2] 30)).heap.size = w2.heap.size + 1 := by simp
  replace B1 := Lib.hid (B1.out.alloc B1.out.size (.cells #[.int .i64 t.1, .int .i64 t.2.1, .int .i64 t.2.2.1, .int .i64 t.2.2.2.1, .int .i64 t.2.2.2.2.1, .int .i64 t.2.2.2.2.2.1, .int .i64 t.2.2.2.2.2.2] 30))
  go_wp2_with fail
  obtain ⟨bw, hbw⟩ : ∃ bw, bw = w2.heap.size := ⟨_, rfl⟩
  rw [← hbw] at XW zbbw ⊢
  generalize w2.alloc (.cells #[.int .i64 t.1, .int .i64 t.2.1, .int .i64 t.2.2.1, .int .i64 t.2.2.2.1, .int .i64 t.2.2.2.2.1, .int .i64 t.2.2.2.2.2.1, .int .i64 t.2.2.2.2.2.2] 30) = W2 at XW B1 zbbw ⊢
  have lbw : bw < W2.heap.size := by omega
  clear hbw zbbw
  refine (seven.copy a cap l W2 (HI.out.below B1.out) hn).mono ?_
  rintro e w3 ⟨gx, rfl, rx, lx, kx, b3⟩
  have RX := Lib.hid rx
  replace XW := Lib.hid (XW.out.keep (b3.block bw lbw))
  replace B1 := Lib.hid (B1.out.trans (b3.mono B1.out.size))
  have z3 := b3.size
  clear rx b3
  go_wp2_with fail
  refine (CIh.out w3 _ gx RX.out).mono ?_
  rintro e w4 ⟨rfl, b4⟩
  have z4 := b4.size
  replace RX := Lib.hid (RX.out.keep (w' := w4) fun h => b4.block gx kx)
  replace XW := Lib.hid (XW.out.keep (b4.block bw (by omega)))
  replace B1 := Lib.hid (B1.out.trans (b4.mono B1.out.size))
  clear b4
  have al4 := fun k hk => Below.heap_alloc w4 (.cells #[.int .i64 t.1, .int .i64 t.2.1, .int .i64 t.2.2.1, .int .i64 t.2.2.2.1, .int .i64 t.2.2.2.2.1, .int .i64 t.2.2.2.2.2.1, .int .i64 t.2.2.2.2.2.2] 30) k hk
  replace RX := Lib.hid (RX.out.keep (w' := w4.alloc (.cells #[.int .i64 t.1, .int .i64 t.2.1, .int .i64 t.2.2.1, .int .i64 t.2.2.2.1, .int .i64 t.2.2.2.2.1, .int .i64 t.2.2.2.2.2.1, .int .i64 t.2.2.2.2.2.2] 30)) fun h => al4 gx (by omega))
  replace XW := Lib.hid (XW.out.keep (al4 bw (by omega)))
  clear al4
  have XG := Lib.hid (base.Bx.new w4 t)
  have zbbg : (w4.alloc (.cells #[.int .i64 t.1, .int .i64 t.2.1, .int .i64 t.2.2.1, .int .i64 t.2.2.2.1, .int .i64 t.2.2.2.2.1, .int .i64 t.2.2.2.2.2.1, .int .i64 t.2.2.2.2.2.2] 30)).heap.size = w4.heap.size + 1 := by simp
  replace B1 := Lib.hid (B1.out.alloc B1.out.size (.cells #[.int .i64 t.1, .int .i64 t.2.1, .int .i64 t.2.2.1, .int .i64 t.2.2.2.1, .int .i64 t.2.2.2.2.1, .int .i64 t.2.2.2.2.2.1, .int .i64 t.2.2.2.2.2.2] 30))
  obtain ⟨p0, p1, p2, p3, p4, p5, p6⟩ := XW.out.at_
  obtain ⟨q0, q1, q2, q3, q4, q5, q6⟩ := XG.out.at_
  simp only [Nat.zero_add] at p0 p1 p2 p3 p4 p5 p6 q0 q1 q2 q3 q4 q5 q6
  go_wp2_with fail
  generalize w4.alloc (.cells #[.int .i64 t.1, .int .i64 t.2.1, .int .i64 t.2.2.1, .int .i64 t.2.2.2.1, .int .i64 t.2.2.2.2.1, .int .i64 t.2.2.2.2.2.1, .int .i64 t.2.2.2.2.2.2] 30) = W4 at * 
  refine (seven.eqElT t W4).mono ?_
  rintro e w5 ⟨rfl, b5⟩
  have z5 := b5.size
  replace RX := Lib.hid (RX.out.keep (w' := w5) fun h => b5.block gx (by omega))
  replace B1 := Lib.hid (B1.out.trans (b5.mono B1.out.size))
  clear b5 p0 p1 p2 p3 p4 p5 p6 q0 q1 q2 q3 q4 q5 q6 XW XG
  go_wp2_with fail
  refine (seven.copy a cap l w5 (HI.out.below B1.out) hn).mono ?_
  rintro e w6 ⟨gy, rfl, ry, ly, ky, b6⟩
  have RY := Lib.hid ry
  replace RX := Lib.hid (RX.out.keep (w' := w6) fun h => b6.block gx (by omega))
  replace B1 := Lib.hid (B1.out.trans (b6.mono B1.out.size))
  clear ry b6
  go_wp2_with fail
  refine (seven.eqT w6 _ _ _ _ gx gy l RX.out RY.out hn).mono ?_
  rintro e w7 ⟨rfl, b7⟩
  replace B1 := Lib.hid (B1.out.trans (b7.mono B1.out.size))
  clear b7
  go_wp2
  go_ret
  exact ⟨rfl, B1.out⟩

theorem own : ownKnob Try.prog.godebug = none := by kernel_rfl
theorem laidOut : laidOutB Try.prog = true := by kernel_rfl
theorem isLaw : lift.IsLaw Rows.fnExactSumsOfSpec 1 0 := fun _ ds gs h1 h2 => match ds, h1 with | [_], _ => match gs, h2 with | [], _ => rfl

set_option maxRecDepth 100000 in
theorem lifted (os : Os) (started : os.Started) (H : Type) (enc : TypeId × Value → H) :
    ReturnsInHanded {} Try.checked os 4 .any (Rows.fnExactSumsOfSpec.pre6 enc Try.prog Try.f4 Rows.fnExactSumsOfRow.domain false) (Rows.fnExactSumsOfSpec.post enc Try.prog Try.f4 false true false false) := by
  refine returnsInHanded_of_change (C := Try.checked) own started (by kernel_rfl) Try.func4
    (ChangeSpec.witness6 (enc := enc) (C := Try.checked) false ⟨#[], #[.slice none 0 0], []⟩ 8 (by kernel_rfl) (by kernel_rfl) (by kernel_rfl) (by kernel_rfl)) ?_
  intro W base args ds gs before hval0 hW _ _
  have hval : ∀ (j : Nat) t v, Try.f4.params[j]? = some t → args[j]? = some v → Value.okWide Try.prog W .any base t v := hval0
  have hW' := hW
  obtain ⟨p, q, hA0, hV, hrest⟩ := hW
  have hA : DataW.TrodAll enc Try.prog W 0 (fun _ => true) true Try.f4.params.toList args.toList ds p := hA0
  clear hA0 hval0 hV hrest
  rw [Try.params4] at hA hval
  obtain ⟨v0, d0, rfl, rfl, h0⟩ := trodAll_one hA
  obtain ⟨a, cap, l, rfl, hlen, hI, wfl⟩ := seven.open_parts (hval 0 22 v0 rfl rfl) h0
  have wk : Calls Try.prog 4 #[.slice a l.length cap] W fun e w' => e = .returned (.bool true) ∧ Below W.heap.size W w' := by
    by_cases hb : l.length ≤ 1048576
    · exact walk_small a cap l W hI hb
    · exact walk_big a l.length cap W hlen (by omega)
  refine (wk).mono fun e W' ⟨he, hb⟩ => ?_
  subst he
  exact ⟨_, rfl, lift.law_post laidOut (by kernel_rfl) (by kernel_rfl) (by kernel_rfl) Try.underlying4 (by rw [Try.params4]; exact isLaw) hW' hb⟩

theorem over : Rows.fnExactSumsOfRow.holds Try.pinned (OpenSpec.ofChange Rows.fnExactSumsOfSpec) :=
  OpenClaim.holds_of_wide 4 Try.f4 rfl rfl rfl rfl rfl rfl rfl ⟨rfl, rfl, rfl, rfl, rfl⟩ rfl rfl rfl rfl rfl (by kernel_rfl) Try.func4 (by kernel_rfl)
    (of_decide_eq_true (by kernel_rfl)) (by unfold Func.isWrapper; first | (rw [if_pos (by decide +kernel)]; kernel_rfl) | (rw [if_neg (by decide +kernel)]; exact ⟨rfl, rfl⟩))
    (fun os started H enc _ => lifted os started H enc)

theorem proved : Rows.FnExactSumsOfSaid := over
#print axioms proved
end Go.Proofs.Ytgknieaefkkijaa.fnExactSumsOf
