/-
  Plain helpers of this seat's proofs: what the landed numbersOk answers. Conditions: none.
-/
import Derived.Test.YtcpglphhhmgjkaaDoorCmf
import Derived.Test.YtcpglphhhmgjkaaDoorCmA
import Derived.Test.YtcpglphhhmgjkaaDoorCmB
import Derived.Test.YtcpglphhhmgjkaaDoorCmC
import Derived.Test.YtcpglphhhmgjkaaDoorCmD
import Derived.Test.YtcpglphhhmgjkaaDoorCmE
namespace Go.Proofs.YtcpglphhhmgjkaaDoor.cm
open Go.ChangeShapes Go.WideShapes Go.ChangeAt Go.RowKit
open gen
open four (F4)
set_option maxRecDepth 100000 in
set_option maxHeartbeats 4000000 in
theorem nI_2 (s : Sc) (ai : Option Addr) (ni ci : Nat) (w : World) (g : Nat) (h : s.k = 2) (hb : CB w g s ai ni ci) : Calls Tryd.prog 29 #[.pointer (some ⟨g, 0, none⟩)] w fun e w' => e = .returned (.bool (kind s && fl s && idB s)) ∧ Below w.heap.size w w' := by
  have ek : kind s = true := by unfold kind; rw [h]; rfl
  have ei : idB s = true := by unfold idB; rw [h]; rfl
  rw [fl_2 h, ek, ei]
  obtain ⟨k, key, a, b, c, d, e, f⟩ := s
  dsimp only at h ⊢
  subst h
  obtain ⟨y0, y1, y2, y3, y4, y5, y6, y7, y8⟩ := hb
  clear ek ei
  dsimp only at y0 y1 y2 y3 y4 y5 y6 y7 y8
  have eq : (true && (inR a 0 5 && inR b 0 5 && !(a == b) && inR c 1 1000000 && inR d 1 1000000) && true) = (inR a 0 5 && inR b 0 5 && (!(a == b)) && inR c 1 1000000 && inR d 1 1000000) := by
    first | rfl | (simp; done) | ac_rfl | (simp only [Bool.true_and, Bool.and_true]; ac_rfl)
  rw [eq]
  clear eq
  have c0 := curI a
  generalize inR a 0 5 = t0 at c0 ⊢
  have c1 := curI b
  generalize inR b 0 5 = t1 at c1 ⊢
  have c3 := ratI c
  generalize inR c 1 1000000 = t3 at c3 ⊢
  have c4 := ratI d
  generalize inR d 1 1000000 = t4 at c4 ⊢
  have d0 : ∀ W, Calls Tryd.prog 56 #[.int .i64 a] W fun e w' => e = .returned (.bool t0) ∧ w' = W := fun W => (c0 W).mono fun _ _ ⟨p, q⟩ => ⟨p, q.symm⟩
  have d1 : ∀ W, Calls Tryd.prog 56 #[.int .i64 b] W fun e w' => e = .returned (.bool t1) ∧ w' = W := fun W => (c1 W).mono fun _ _ ⟨p, q⟩ => ⟨p, q.symm⟩
  have d3 : ∀ W, Calls Tryd.prog 57 #[.int .i64 c] W fun e w' => e = .returned (.bool t3) ∧ w' = W := fun W => (c3 W).mono fun _ _ ⟨p, q⟩ => ⟨p, q.symm⟩
  have d4 : ∀ W, Calls Tryd.prog 57 #[.int .i64 d] W fun e w' => e = .returned (.bool t4) ∧ w' = W := fun W => (c4 W).mono fun _ _ ⟨p, q⟩ => ⟨p, q.symm⟩
  clear c0 c1 c3 c4
  have tn : (a != b) = !(a == b) := rfl
  cases t0
  · exact two_A w g a y0 y2 d0
  · cases t1
    · exact two_B w g a b y0 y2 y3 d0 d1
    · cases te : (a == b)
      · rw [te] at tn
        cases t3
        · exact two_D w g a b c y0 y2 y3 y4 d0 d1 tn d3
        · exact two_E w g a b c d y0 y2 y3 y4 y5 d0 d1 tn d3 t4 d4
      · rw [te] at tn
        exact two_C w g a b y0 y2 y3 d0 d1 tn
end Go.Proofs.YtcpglphhhmgjkaaDoor.cm
