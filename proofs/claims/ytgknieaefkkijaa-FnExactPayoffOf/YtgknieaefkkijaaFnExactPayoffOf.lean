/-
  Proved: for every plan and day, the landed PayoffOf answers as its model does and writes into no argument; the law laws.FnExactPayoffOf returns true and its arguments read as before. Conditions: none beyond the given row.
-/
import Derived.Test.YtgknieaefkkijaaPoS
import Derived.Test.YtgknieaefkkijaaPoI
import Derived.Test.YtgknieaefkkijaaCp7
import Derived.Test.YtgknieaefkkijaaEq7
import Derived.Test.YtgknieaefkkijaaOp7
namespace Go.Proofs.Ytgknieaefkkijaa.fnExactPayoffOf
open Go.ChangeShapes Go.WideShapes Go.ChangeAt Go.RowKit


theorem walk_big (d : Int) (a : Option Addr) (len cap : Nat) (w : World) (hl : len ≤ maxLen) (hb : 1048576 < len) : Calls Try.prog 9 #[.slice a len cap, .int .i64 d] w fun e w' => e = .returned (.bool true) ∧ Below w.heap.size w w' := by
  unfold maxLen at hl
  have t1 : decide ((1048576 : Int) < (len : Int)) = true := by simp; omega
  go_enter Try.func9, Try.ntmps9
  go_wp2
  go_ret
  exact ⟨rfl, Below.refl _ _⟩

set_option maxRecDepth 100000 in
set_option maxHeartbeats 4000000 in
theorem walk_small (d : Int) (a : Option Addr) (cap : Nat) (l : List seven.F7) (w : World) (hI : seven.Inp w a l) (hn : l.length ≤ 1048576) : Calls Try.prog 9 #[.slice a l.length cap, .int .i64 d] w fun e w' => e = .returned (.bool true) ∧ Below w.heap.size w w' := by
  have HI := Lib.hid hI
  clear hI
  have t1 : decide ((1048576 : Int) < (l.length : Int)) = false := by simp; omega
  have CS := fun w0 c g r => (fun w0 (_ : Option Addr) c g l r h => base.poS d w0 c g l r h) w0 (some ⟨g, 0, none⟩) c g l r (by omega)
  have CI := fun w0 c g r => (fun w0 (_ : Option Addr) c g l r h => base.poI d w0 c g l r h) w0 (some ⟨g, 0, none⟩) c g l r (by omega)
  generalize base.pof l d = t at CS CI
  have tc : (t != t) = false := by simp
  have CSh := Lib.hid CS
  have CIh := Lib.hid CI
  clear CS CI
  go_enter Try.func9, Try.ntmps9
  go_wp2_with fail
  refine (seven.szOk a l.length cap 1048576 w hn (Nat.le_refl _)).mono ?_
  rintro e w' ⟨rfl, rfl⟩
  go_wp2_with fail
  refine (seven.copy a cap l w HI.out hn).mono ?_
  rintro e w1 ⟨g1, rfl, r1, l1, k1, b1⟩
  have R1 := Lib.hid r1
  have B1 := Lib.hid b1
  clear r1 b1
  go_wp2_with fail
  refine (CSh.out w1 _ g1 R1.out).mono ?_
  rintro e w2 ⟨rfl, b2⟩
  have B2 := Lib.hid (B1.out.trans (b2.mono B1.out.size))
  clear b2 R1
  go_wp2_with fail
  refine (seven.copy a cap l w2 (HI.out.below B2.out) hn).mono ?_
  rintro e w3 ⟨gx, rfl, rx, lx, kx, b3⟩
  have RX := Lib.hid rx
  have B3 := Lib.hid (B2.out.trans (b3.mono B2.out.size))
  clear rx b3
  go_wp2_with fail
  refine (CIh.out w3 _ gx RX.out).mono ?_
  rintro e w4 ⟨rfl, b4⟩
  have RX4 := Lib.hid (RX.out.keep (w' := w4) fun h => b4.block gx kx)
  have B4 := Lib.hid (B3.out.trans (b4.mono B3.out.size))
  have z34 := b4.size
  clear b4 RX
  go_wp2_with fail
  refine (seven.copy a cap l _ (HI.out.below B4.out) hn).mono ?_
  rintro e w5 ⟨gy, rfl, ry, ly, ky, b5⟩
  have RY := Lib.hid ry
  have RX5 := Lib.hid (RX4.out.keep (w' := w5) fun h => b5.block gx (by omega))
  have B5 := Lib.hid (B4.out.trans (b5.mono B4.out.size))
  clear ry b5 RX4
  go_wp2_with fail
  refine (seven.eqT w5 _ _ _ _ gx gy l RX5.out RY.out hn).mono ?_
  rintro e w6 ⟨rfl, b6⟩
  have B6 := Lib.hid (B5.out.trans (b6.mono B5.out.size))
  clear b6
  go_wp2
  go_ret
  exact ⟨rfl, B6.out⟩

theorem own : ownKnob Try.prog.godebug = none := by kernel_rfl
theorem laidOut : laidOutB Try.prog = true := by kernel_rfl
theorem isLaw : lift.IsLaw Rows.fnExactPayoffOfSpec 2 0 := fun _ ds gs h1 h2 => match ds, h1 with | [_, _], _ => match gs, h2 with | [], _ => rfl

set_option maxRecDepth 100000 in
theorem lifted (os : Os) (started : os.Started) (H : Type) (enc : TypeId × Value → H) :
    ReturnsInHanded {} Try.checked os 9 .any (Rows.fnExactPayoffOfSpec.pre6 enc Try.prog Try.f9 Rows.fnExactPayoffOfRow.domain false) (Rows.fnExactPayoffOfSpec.post enc Try.prog Try.f9 false true false false) := by
  refine returnsInHanded_of_change (C := Try.checked) own started (by kernel_rfl) Try.func9
    (ChangeSpec.witness6 (enc := enc) (C := Try.checked) false ⟨#[], #[.slice none 0 0, .int .i64 0], []⟩ 8 (by kernel_rfl) (by kernel_rfl) (by kernel_rfl) (by kernel_rfl)) ?_
  intro W base args ds gs before hval0 hW _ _
  have hval : ∀ (j : Nat) t v, Try.f9.params[j]? = some t → args[j]? = some v → Value.okWide Try.prog W .any base t v := hval0
  have hW' := hW
  obtain ⟨p, q, hA0, hV, hrest⟩ := hW
  have hA : DataW.TrodAll enc Try.prog W 0 (fun _ => true) true Try.f9.params.toList args.toList ds p := hA0
  clear hA0 hval0 hV hrest
  rw [Try.params9] at hA hval
  obtain ⟨v0, v1, d0, d1, p0, p1, rfl, rfl, rfl, h0, h1⟩ := trodAll_two hA
  obtain ⟨a, cap, l, rfl, hlen, hI, wfl⟩ := seven.open_parts (hval 0 22 v0 rfl rfl) h0
  obtain ⟨a1, rfl, rfl, rfl, w1⟩ := open_int Try.underlying2 (hval 1 2 v1 rfl rfl) h1
  have wk : Calls Try.prog 9 #[.slice a l.length cap, .int .i64 a1] W fun e w' => e = .returned (.bool true) ∧ Below W.heap.size W w' := by
    by_cases hb : l.length ≤ 1048576
    · exact walk_small a1 a cap l W hI hb
    · exact walk_big a1 a l.length cap W hlen (by omega)
  refine (wk).mono fun e W' ⟨he, hb⟩ => ?_
  subst he
  exact ⟨_, rfl, lift.law_post laidOut (by kernel_rfl) (by kernel_rfl) (by kernel_rfl) Try.underlying4 (by rw [Try.params9]; exact isLaw) hW' hb⟩

theorem over : Rows.fnExactPayoffOfRow.holds Try.pinned (OpenSpec.ofChange Rows.fnExactPayoffOfSpec) :=
  OpenClaim.holds_of_wide 9 Try.f9 rfl rfl rfl rfl rfl rfl rfl ⟨rfl, rfl, rfl, rfl, rfl⟩ rfl rfl rfl rfl rfl (by kernel_rfl) Try.func9 (by kernel_rfl)
    (of_decide_eq_true (by kernel_rfl)) (by unfold Func.isWrapper; first | (rw [if_pos (by decide +kernel)]; kernel_rfl) | (rw [if_neg (by decide +kernel)]; exact ⟨rfl, rfl⟩))
    (fun os started H enc _ => lifted os started H enc)

theorem proved : Rows.FnExactPayoffOfSaid := over
#print axioms proved
end Go.Proofs.Ytgknieaefkkijaa.fnExactPayoffOf
