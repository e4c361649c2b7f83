/-
  Plain helpers of this seat's proofs: the contract of the model's test of a plan and an amount. Conditions: none.
-/
import Derived.Test.YtmnmijiikjpdnaaPy
import Derived.Test.YtmnmijiikjpdnaaPkS
namespace Go.Proofs.Ytmnmijiikjpdnaa.base
open Go.ChangeShapes Go.WideShapes Go.ChangeAt Go.RowKit
open seven (F7 zz Row At)
open pl (inR prOk pok)
open gen
theorem fmS (m : Int) (w : World) (cap g : Nat) (l : List F7) (r : Row w (some ⟨g, 0, none⟩) cap g l) (hn : l.length ≤ 1048577) : Calls Try.prog 42 #[.slice (some ⟨g, 0, none⟩) l.length cap, .int .i64 m] w fun e w' => e = .returned (.bool (pyOk l m)) ∧ Below w.heap.size w w' := by
  unfold pyOk
  have C := pkS w (some ⟨g, 0, none⟩) cap g l r hn
  have CI := inB m 0 1000000000000
  clear r hn
  generalize l.length = n at C ⊢
  generalize pl.pv l = p at C ⊢
  generalize inR m 0 1000000000000 = t at CI ⊢
  cases p with
  | false =>
    go_enter Try.func42, Try.ntmps42
    go_wp2_with fail
    refine C.mono ?_
    rintro e w1 ⟨rfl, b1⟩
    have B1 := Lib.hid b1
    clear b1
    go_wp2
    go_ret
    exact ⟨rfl, B1.out⟩
  | true =>
    cases t
    all_goals
      go_enter Try.func42, Try.ntmps42
      go_wp2_with fail
      refine C.mono ?_
      rintro e w1 ⟨rfl, b1⟩
      have B1 := Lib.hid b1
      clear b1
      go_wp2_with fail
      refine (CI _).mono ?_
      rintro e w' ⟨rfl, rfl⟩
      go_wp2
      go_ret
      exact ⟨rfl, B1.out⟩
end Go.Proofs.Ytmnmijiikjpdnaa.base
