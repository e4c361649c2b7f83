/-
  Plain helpers of this seat's proofs: one plan of a slice of plans is replaced. Conditions: none.
-/
import Derived.Test.YtmaejlfjdkkpdaaNwO
import Derived.Test.YtmaejlfjdkkpdaaAd7
import Derived.Test.YtmaejlfjdkkpdaaWk
namespace Go.Proofs.Ytmaejlfjdkkpdaa.pls
open Go.ChangeShapes Go.WideShapes Go.ChangeAt Go.RowKit
open gen
open seven (F7 zz Row Inp At)
open four (F4)
open base (Turned)
def up (A : Nat → Nat) (k v : Nat) (i : Nat) : Nat := if i = k then v else A i
theorem nth_set_same {p : List (List F7)} {k : Nat} (h : k < p.length) (q : List F7) : nth (p.set k q) k = q := by
  unfold nth
  rw [List.getD_eq_getElem?_getD, List.getElem?_set_self h]; rfl
theorem nth_set_other {p : List (List F7)} {k i : Nat} (h : i ≠ k) (q : List F7) : nth (p.set k q) i = nth p i := by
  unfold nth
  rw [List.getD_eq_getElem?_getD, List.getElem?_set_ne (Ne.symm h), List.getD_eq_getElem?_getD]
theorem Pls.set {w : World} {a : Option Addr} {cap gp : Nat} {p : List (List F7)} {gs cs : Nat → Nat} (r : Pls w a cap gp p gs cs) {k g1 c1 : Nat} {q : List F7} (hk : k < p.length)
    (rq : Row w (some ⟨g1, 0, none⟩) c1 g1 q) (h1 : g1 < w.heap.size) (hne : g1 ≠ gp) (hin : ∀ i, i < p.length → i ≠ k → gs i ≠ g1) :
    Pls (w.setCell ⟨gp, k, none⟩ (.slice (some ⟨g1, 0, none⟩) q.length c1)) a cap gp (p.set k q) (up gs k g1) (up cs k c1) := by
  have ot : ∀ b, b ≠ gp → (w.setCell ⟨gp, k, none⟩ (.slice (some ⟨g1, 0, none⟩) q.length c1)).heap[b]? = w.heap[b]? := fun b hb => Below.heap_setCell _ _ _ _ hb
  have z : (w.setCell ⟨gp, k, none⟩ (.slice (some ⟨g1, 0, none⟩) q.length c1)).heap.size = w.heap.size := by simp [World.setCell]
  refine ⟨fun h => r.addr (by simpa using h), by simpa using r.room, fun i hi => ?_, fun i hi => ?_, fun i hi => ?_, fun h i => by rw [World.frozen?_setCell]; exact r.free (by simpa using h) i, fun i hi => ?_, fun i j hi hj e => ?_⟩
  · rw [List.length_set] at hi
    by_cases e : i = k
    · subst e
      rw [nth_set_same hi]
      unfold up
      rw [if_pos rfl, if_pos rfl]
      exact World.cell?_setCell_same' _ _ _ (by rw [r.cells i hi]; rfl)
    · rw [nth_set_other e]
      unfold up
      rw [if_neg e, if_neg e]
      exact (World.cell?_setCell_other w ⟨gp, k, none⟩ ⟨gp, i, none⟩ _ (fun q => by injection q with q1 q2; omega)).trans (r.cells i hi)
  · rw [List.length_set] at hi
    by_cases e : i = k
    · subst e
      rw [nth_set_same hi]
      unfold up
      rw [if_pos rfl, if_pos rfl]
      exact rq.keep fun _ => ot g1 hne
    · rw [nth_set_other e]
      unfold up
      rw [if_neg e, if_neg e]
      exact (r.rows i hi).keep fun _ => ot _ (r.ne i hi)
  · rw [List.length_set] at hi
    rw [z]
    unfold up
    by_cases e : i = k
    · rw [if_pos e]; exact h1
    · rw [if_neg e]; exact r.lt i hi
  · rw [List.length_set] at hi
    unfold up
    by_cases e : i = k
    · rw [if_pos e]; exact hne
    · rw [if_neg e]; exact r.ne i hi
  · rw [List.length_set] at hi hj
    unfold up at e
    by_cases ei : i = k
    · by_cases ej : j = k
      · omega
      · rw [if_pos ei, if_neg ej] at e
        exact absurd e.symm (hin j hj ej)
    · by_cases ej : j = k
      · rw [if_neg ei, if_pos ej] at e
        exact absurd e (hin i hi ei)
      · rw [if_neg ei, if_neg ej] at e
        exact r.inj i j hi hj e
/-- Plans that lie, when nothing but new memory has come and block b has turned. -/
theorem Pls.turned {w w' : World} {b : Nat} {a : Option Addr} {cap gp : Nat} {p : List (List F7)} {gs cs : Nat → Nat} (r : Pls w a cap gp p gs cs) (h : Turned b w w') (h1 : 0 < p.length → gp ≠ b) (h2 : ∀ i, i < p.length → gs i ≠ b) : Pls w' a cap gp p gs cs :=
  r.keep (fun k => h.2 gp (h1 k) (r.plt k)) (fun i hi => h.2 _ (h2 i hi) (r.lt i hi)) h.1.size
theorem Turned.trans {b : Nat} {w w1 w2 : World} (h : Turned b w w1) (k : Turned b w1 w2) : Turned b w w2 :=
  ⟨h.1.trans k.1, fun c hc hl => (k.2 c hc (Nat.lt_of_lt_of_le hl h.1.size)).trans (h.2 c hc hl)⟩
theorem Turned.of {b : Nat} {w w1 w2 : World} (h : Turned b w w1) (k : Below w1.heap.size w1 w2) (hb : b ≤ w1.heap.size) : Turned b w w2 :=
  ⟨h.1.trans (k.mono hb), fun c hc hl => (k.block c (Nat.lt_of_lt_of_le hl h.1.size)).trans (h.2 c hc hl)⟩
theorem Turned.heap {b c : Nat} {w w' : World} (h : Turned b w w') (hc : c ≠ b) (hl : c < w.heap.size) : w'.heap[c]? = w.heap[c]? := h.2 c hc hl
end Go.Proofs.Ytmaejlfjdkkpdaa.pls
