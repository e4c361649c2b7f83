/-
  Plain helpers of this seat's proofs: what the landed numbersOk answers. Conditions: none.
-/
import Derived.Test.YtcpglphhhmgjkaaDoorCmn
import Derived.Test.YtcpglphhhmgjkaaDoorCm2
import Derived.Deep.RegionHeld3
namespace Go.Proofs.YtcpglphhhmgjkaaDoor.cm
open Go.ChangeShapes Go.WideShapes Go.ChangeAt Go.RowKit
open gen
open four (F4)
theorem nI (s : Sc) (ai : Option Addr) (ni ci : Nat) (w : World) (g : Nat) (hb : CB w g s ai ni ci) : Calls Tryd.prog 29 #[.pointer (some ⟨g, 0, none⟩)] w fun e w' => e = .returned (.bool (kind s && fl s && idB s)) ∧ Below w.heap.size w w' := by
  cases h : inR s.k 1 13
  · exact nI_no s ai ni ci w g h hb
  · have q : s.k = 1 ∨ s.k = 2 ∨ s.k = 3 ∨ s.k = 4 ∨ s.k = 5 ∨ s.k = 6 ∨ s.k = 7 ∨ s.k = 8 ∨ s.k = 9 ∨ s.k = 10 ∨ s.k = 11 ∨ s.k = 12 ∨ s.k = 13 := by
      unfold inR at h
      simp at h
      omega
    clear h
    rcases q with h | h | h | h | h | h | h | h | h | h | h | h | h
    · exact nI_1 s ai ni ci w g h hb
    · exact nI_2 s ai ni ci w g h hb
    · exact nI_3 s ai ni ci w g h hb
    · exact nI_4 s ai ni ci w g h hb
    · exact nI_5 s ai ni ci w g h hb
    · exact nI_6 s ai ni ci w g h hb
    · exact nI_7 s ai ni ci w g h hb
    · exact nI_8 s ai ni ci w g h hb
    · exact nI_9 s ai ni ci w g h hb
    · exact nI_10 s ai ni ci w g h hb
    · exact nI_11 s ai ni ci w g h hb
    · exact nI_12 s ai ni ci w g h hb
    · exact nI_13 s ai ni ci w g h hb
end Go.Proofs.YtcpglphhhmgjkaaDoor.cm
