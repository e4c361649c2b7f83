/-
  Plain helpers of this seat's proofs: what a change of a plan answers; the mathematics of late fees. Conditions: none.
-/
import Derived.Test.YtchpjojndkkmeaaDoorSm
import Derived.Test.YtchpjojndkkmeaaDoorRw7
import Derived.Test.YtchpjojndkkmeaaDoorPkI
namespace Go.Proofs.YtchpjojndkkmeaaDoor.base
open Go.ChangeShapes Go.WideShapes Go.ChangeAt Go.RowKit
open seven (F7 zz Row At)
open pl (inR prOk pok)
open gen
end Go.Proofs.YtchpjojndkkmeaaDoor.base

namespace Go.Proofs.YtchpjojndkkmeaaDoor.base
open Go.ChangeShapes Go.WideShapes Go.ChangeAt Go.RowKit
open seven (F7 zz Row At)
open pl (inR prOk pok)
open gen
/-- A list of Parts in memory of its own, and a number. -/
def Out (w : World) (ok : Bool) (P : List F7) (m : Int) (e : Ending) (w' : World) : Prop := ∃ a cap g, e = .returned (.tuple #[.slice a P.length cap, .int .i64 m]) ∧ Row w' a cap g P ∧ (0 < P.length → w.heap.size ≤ g ∧ g < w'.heap.size) ∧ Below w.heap.size w w' ∧ (ok = true → a = some ⟨g, 0, none⟩ ∧ w.heap.size ≤ g ∧ g < w'.heap.size)
theorem out_no {w w' : World} {P : List F7} {m : Int} {ok : Bool} (hok : ok = false) (hP : P = []) (hm : m = 0) (hb : Below w.heap.size w w') : Out w ok P m (.returned (.tuple #[.slice none 0 0, .int .i64 0])) w' := by
  subst hP hm
  exact ⟨none, 0, 0, rfl, Row.nil w', fun h => absurd h (by simp), hb, fun h => by rw [hok] at h; cases h⟩
theorem out_yes {w w' : World} {ok : Bool} {P : List F7} {m : Int} {cap g len : Nat} (hl : P.length = len) (R : Row w' (some ⟨g, 0, none⟩) cap g P) (h1 : w.heap.size ≤ g) (h2 : g < w'.heap.size) (hb : Below w.heap.size w w') : Out w ok P m (.returned (.tuple #[.slice (some ⟨g, 0, none⟩) len cap, .int .i64 m])) w' :=
  ⟨_, cap, g, by rw [hl], R, fun _ => ⟨h1, h2⟩, hb, fun _ => ⟨rfl, h1, h2⟩⟩
/-- Late fees: the terms are in their ranges. -/
noncomputable def ltOk (l : List F7) (d f g : Int) : Bool := pl.pv l && (inR d 0 100000 && inR f 0 100000 && inR g 0 60)
noncomputable def ltL (l : List F7) (d f g : Int) : List F7 := if ltOk l d f g then (pl.ml (pl.late d f g) 0 l).1 else []
noncomputable def ltN (l : List F7) (d f g : Int) : Int := if ltOk l d f g then (pl.ml (pl.late d f g) 0 l).2 else 0
theorem lt_no {l : List F7} {d f g : Int} (h : ltOk l d f g = false) : ltL l d f g = [] ∧ ltN l d f g = 0 := by
  unfold ltL ltN; rw [h]; exact ⟨rfl, rfl⟩
theorem lt_yes {l : List F7} {d f g : Int} (h : ltOk l d f g = true) : ltL l d f g = pl.fw (pl.late d f g) 0 l l.length ∧ ltN l d f g = pl.fs (pl.late d f g) 0 l l.length := by
  unfold ltL ltN; rw [h, pl.fw_all, pl.fs_all]; exact ⟨rfl, rfl⟩
theorem late_sum {d f g : Int} {l : List F7} (h0 : 0 ≤ f) (h1 : f ≤ 100000) : ∀ k, k ≤ l.length → 0 ≤ pl.fs (pl.late d f g) 0 l k ∧ pl.fs (pl.late d f g) 0 l k ≤ k * 100000
  | 0, _ => by rw [pl.fs_zero]; simp
  | k + 1, hk => by
    have := late_sum (d := d) (g := g) (l := l) h0 h1 k (by omega)
    rw [pl.fs_succ _ _ (by omega)]
    generalize pl.fs (pl.late d f g) 0 l k = S at this ⊢
    unfold pl.late
    split <;> dsimp only <;> omega
theorem late_t {d f g s : Int} {x : F7} (h : pl.isLate d g x = true) : pl.late d f g s x = ((x.1, x.2.1, x.2.2.1, f, x.2.2.2.2.1, x.2.2.2.2.2.1, x.2.2.2.2.2.2), s + f) := by unfold pl.late; rw [h]; rfl
theorem late_f {d f g s : Int} {x : F7} (h : pl.isLate d g x = false) : pl.late d f g s x = (x, s) := by unfold pl.late; rw [h]; rfl
theorem set_self {l : List F7} {k : Nat} (h : k < l.length) : l.set k (l.getD k zz) = l := by
  rw [List.getD_eq_getElem?_getD, List.getElem?_eq_getElem h]; simp
theorem isLate_of {d g : Int} {x : F7} {b : Bool} (h : (decide (x.1 + g < d) && (x.2.2.2.1 == 0) && (decide (x.2.2.2.2.1 < x.2.1) || decide (x.2.2.2.2.2.1 < x.2.2.1))) = b) : pl.isLate d g x = b := h
end Go.Proofs.YtchpjojndkkmeaaDoor.base
