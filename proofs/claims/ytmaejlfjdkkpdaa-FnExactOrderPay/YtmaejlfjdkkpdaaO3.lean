/-
  Plain helpers of this seat's proofs: what a payment answers. Conditions: none.
-/
import Derived.Test.YtmaejlfjdkkpdaaPy
import Derived.Test.YtmaejlfjdkkpdaaOut
import Derived.Test.YtmaejlfjdkkpdaaSmI
namespace Go.Proofs.Ytmaejlfjdkkpdaa.base
open Go.ChangeShapes Go.WideShapes Go.ChangeAt Go.RowKit
open seven (F7 zz Row At)
open pl (inR prOk pok)
open gen
/-- A list of Parts in memory of its own, what has been paid, and a number. -/
def Out3 (w : World) (ok : Bool) (P : List F7) (t : pl.S4) (e : Ending) (w' : World) : Prop := ∃ a cap g, e = .returned (.tuple #[.slice a P.length cap, .agg #[.int .i64 0, .int .i64 0, .int .i64 0, .int .i64 0, .int .i64 t.2.2.2, .int .i64 t.2.2.1, .int .i64 t.2.1], .int .i64 t.1]) ∧ Row w' a cap g P ∧ (0 < P.length → w.heap.size ≤ g ∧ g < w'.heap.size) ∧ Below w.heap.size w w' ∧ (ok = true → a = some ⟨g, 0, none⟩ ∧ w.heap.size ≤ g ∧ g < w'.heap.size)
theorem out3_no {w w' : World} {P : List F7} {t : pl.S4} {ok : Bool} (hok : ok = false) (hP : P = []) (hm : t = (0, 0, 0, 0)) (hb : Below w.heap.size w w') : Out3 w ok P t (.returned (.tuple #[.slice none 0 0, .agg #[.int .i64 0, .int .i64 0, .int .i64 0, .int .i64 0, .int .i64 0, .int .i64 0, .int .i64 0], .int .i64 0])) w' := by
  subst hP hm
  exact ⟨none, 0, 0, rfl, Row.nil w', fun h => absurd h (by simp), hb, fun h => by rw [hok] at h; cases h⟩
theorem out3_yes {w w' : World} {ok : Bool} {P : List F7} {t : pl.S4} {cap g len : Nat} (hl : P.length = len) (R : Row w' (some ⟨g, 0, none⟩) cap g P) (h1 : w.heap.size ≤ g) (h2 : g < w'.heap.size) (hb : Below w.heap.size w w') : Out3 w ok P t (.returned (.tuple #[.slice (some ⟨g, 0, none⟩) len cap, .agg #[.int .i64 0, .int .i64 0, .int .i64 0, .int .i64 0, .int .i64 t.2.2.2, .int .i64 t.2.2.1, .int .i64 t.2.1], .int .i64 t.1])) w' :=
  ⟨_, cap, g, by rw [hl], R, fun _ => ⟨h1, h2⟩, hb, fun _ => ⟨rfl, h1, h2⟩⟩
end Go.Proofs.Ytmaejlfjdkkpdaa.base
