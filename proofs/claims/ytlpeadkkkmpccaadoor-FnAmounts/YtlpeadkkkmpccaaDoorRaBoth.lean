/-
  Plain helpers: the two functions that read an amount answer alike. Conditions: none.
-/
import Derived.Test.YtlpeadkkkmpccaaDoorRaMath
namespace Go.Proofs.YtlpeadkkkmpccaaDoor.ram
open Go.ChangeShapes Go.WideShapes Go.ChangeAt Go.RowKit

/-- One answer, of the model's function and of the landed one. -/
def Same (k : Int) (l : List UInt8) (v : Int) (q : Bool) : Prop :=
  (∀ w, Calls Tryd.prog 23 #[.int .i64 k, .string ⟨l.toArray⟩] w fun e w' => e = .returned (.tuple #[.int .i64 v, .bool q]) ∧ Below w.heap.size w w') ∧
  (∀ w m, base.Cur w → dec.Pow w → w.cell? ⟨1, 0, none⟩ = some (.int .i64 m) → Calls Tryd.prog 22 #[.int .i64 k, .string ⟨l.toArray⟩] w fun e w' => e = .returned (.tuple #[.int .i64 v, .bool q]) ∧ Below w.heap.size w w')
theorem same (k : Int) (l : List UInt8) (hz : l.length ≤ 1048576) : ∃ v q, Same k l v q := by
  rcases agree k l with ⟨n, ho, h30, hi, hs⟩ | ⟨hi, hs⟩
  · refine ⟨n, true, fun w => ?_, fun w m c p hm => ?_⟩
    · have := ra.spec_short k l w h30
      rw [hs] at this; exact this
    · have := ri.impl_in k l m w c p hm ho.1 ho.2.1 hz
      rw [hi] at this; exact this
  · refine ⟨0, false, fun w => ?_, fun w m c p hm => ?_⟩
    · by_cases h30 : l.length ≤ 30
      · have := ra.spec_short k l w h30
        rw [hs] at this; exact this
      · exact (ra.spec_long k l w (by omega)).mono fun _ _ q => ⟨q.1, q.2 ▸ Below.refl _ _⟩
    · by_cases hk : k < 0 ∨ 5 < k
      · exact (ri.impl_no k l w hk).mono fun _ _ q => ⟨q.1, q.2 ▸ Below.refl _ _⟩
      · have := ri.impl_in k l m w c p hm (by omega) (by omega) hz
        rw [hi] at this; exact this
end Go.Proofs.YtlpeadkkkmpccaaDoor.ram
