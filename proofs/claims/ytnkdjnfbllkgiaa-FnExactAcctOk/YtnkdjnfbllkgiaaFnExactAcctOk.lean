/-
  Proved: for every account, the landed AcctOk answers as its model does; the law laws.FnExactAcctOk returns true and its arguments read as before. Conditions: none beyond the given row.
-/
import Derived.Test.YtnkdjnfbllkgiaaAcct
import Derived.Test.YtnkdjnfbllkgiaaToA
import Derived.Test.YtnkdjnfbllkgiaaOpA
namespace Go.Proofs.Ytnkdjnfbllkgiaa.fnExactAcctOk
open Go.ChangeShapes Go.WideShapes Go.ChangeAt Go.RowKit


set_option maxHeartbeats 1000000 in
theorem walk (a b c : Int) (w : World) : Calls Try.prog 3 #[.agg #[.int .i64 a, .int .i64 b, .int .i64 c]] w fun e w' => e = .returned (.bool true) ∧ Below w.heap.size w w' := by
  have c1 := base.acctS a b c
  have c2 := base.acctI a b c
  generalize led.acct a b c = t at c1 c2
  cases t
  all_goals
    go_enter Try.func3, Try.ntmps3
    go_wp2_with fail
    refine (five.toAcct a b c _).mono ?_
    rintro e w1 ⟨rfl, o1, o2, o3, rfl⟩
    go_wp2_with fail
    refine (c1 _).mono ?_
    rintro e w2 ⟨rfl, b2⟩
    have k0 := five.box_step (five.box_al (five.box_al (five.box_al (five.box_refl w _) o1) o2) o3) b2
    have m0 := five.box_cell k0 0 rfl
    have m1 := five.box_cell k0 1 rfl
    have m2 := five.box_cell k0 2 rfl
    have K := Lib.hid k0
    clear k0 b2
    go_wp2_with fail
    refine (five.toAcct a b c _).mono ?_
    rintro e w3 ⟨rfl, o4, o5, o6, rfl⟩
    go_wp2_with fail
    refine (c2 _).mono ?_
    rintro e w4 ⟨rfl, b4⟩
    have K4 := Lib.hid (five.box_step (five.box_al (five.box_al (five.box_al K.out o4) o5) o6) b4)
    clear b4 c1 c2
    go_wp2
    go_ret
    exact ⟨rfl, five.below_box K4.out⟩

theorem own : ownKnob Try.prog.godebug = none := by kernel_rfl
theorem laidOut : laidOutB Try.prog = true := by kernel_rfl
theorem isLaw : lift.IsLaw Rows.fnExactAcctOkSpec 1 0 := fun _ ds gs h1 h2 => match ds, h1 with | [_], _ => match gs, h2 with | [], _ => rfl

set_option maxRecDepth 100000 in
theorem lifted (os : Os) (started : os.Started) (H : Type) (enc : TypeId × Value → H) :
    ReturnsInHanded {} Try.checked os 3 .any (Rows.fnExactAcctOkSpec.pre6 enc Try.prog Try.f3 Rows.fnExactAcctOkRow.domain false) (Rows.fnExactAcctOkSpec.post enc Try.prog Try.f3 false true false false) := by
  refine returnsInHanded_of_change (C := Try.checked) own started (by kernel_rfl) Try.func3
    (ChangeSpec.witness6 (enc := enc) (C := Try.checked) false ⟨#[], #[.agg #[.int .i64 0, .int .i64 0, .int .i64 0]], []⟩ 8 (by kernel_rfl) (by kernel_rfl) (by kernel_rfl) (by kernel_rfl)) ?_
  intro W base args ds gs before hval0 hW _ _
  have hval : ∀ (j : Nat) t v, Try.f3.params[j]? = some t → args[j]? = some v → Value.okWide Try.prog W .any base t v := hval0
  have hW' := hW
  obtain ⟨p, q, hA0, hV, hrest⟩ := hW
  have hA : DataW.TrodAll enc Try.prog W 0 (fun _ => true) true Try.f3.params.toList args.toList ds p := hA0
  clear hA0 hval0 hV hrest
  rw [Try.params3] at hA hval
  obtain ⟨v0, d0, rfl, rfl, h0⟩ := trodAll_one hA
  obtain ⟨a, b, c, rfl, wa, wb, wc⟩ := five.open_acct (hval 0 23 v0 rfl rfl) h0
  refine (walk a b c W).mono fun e W' ⟨he, hb⟩ => ?_
  subst he
  exact ⟨_, rfl, lift.law_post laidOut (by kernel_rfl) (by kernel_rfl) (by kernel_rfl) Try.underlying4 (by rw [Try.params3]; exact isLaw) hW' hb⟩

theorem over : Rows.fnExactAcctOkRow.holds Try.pinned (OpenSpec.ofChange Rows.fnExactAcctOkSpec) :=
  OpenClaim.holds_of_wide 3 Try.f3 rfl rfl rfl rfl rfl rfl rfl ⟨rfl, rfl, rfl, rfl, rfl⟩ rfl rfl rfl rfl rfl (by kernel_rfl) Try.func3 (by kernel_rfl)
    (of_decide_eq_true (by kernel_rfl)) (by unfold Func.isWrapper; first | (rw [if_pos (by decide +kernel)]; kernel_rfl) | (rw [if_neg (by decide +kernel)]; exact ⟨rfl, rfl⟩))
    (fun os started H enc _ => lifted os started H enc)

theorem proved : Rows.FnExactAcctOkSaid := over
#print axioms proved
end Go.Proofs.Ytnkdjnfbllkgiaa.fnExactAcctOk
