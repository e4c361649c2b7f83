/-
  Plain helpers of this seat's proofs: copies of orders: what a copy is. Conditions: none.
-/
import Derived.Test.YtmaejlfjdkkpdaaOrd
import Derived.Test.YtmaejlfjdkkpdaaPls
import Derived.Test.YtmaejlfjdkkpdaaSi
import Derived.Test.YtmaejlfjdkkpdaaTo6
namespace Go.Proofs.Ytmaejlfjdkkpdaa.pls
open Go.ChangeShapes Go.WideShapes Go.ChangeAt Go.RowKit
open gen
open seven (F7 zz Row At)
open four (F4)
open pl (inR)
open ord (Sc iok)
/-- The copies of the first k plans lie in block g and behind it; each has a room of its own. -/
structure Pq (wr : World) (g n : Nat) (A : Nat → Value) (p : List (List F7)) (gs cs : Nat → Nat) (k : Nat) : Prop where
  blk : Blk wr g n A
  val : ∀ i, i < k → A i = .slice (some ⟨gs i, 0, none⟩) (nth p i).length (cs i)
  row : ∀ i, i < k → Row wr (some ⟨gs i, 0, none⟩) (cs i) (gs i) (nth p i)
  lo : ∀ i, i < k → g < gs i
  lt : ∀ i, i < k → gs i < wr.heap.size
  up : ∀ i j, i < j → j < k → gs i < gs j
theorem Pq.keep {wr w1 : World} {g n : Nat} {A : Nat → Value} {p : List (List F7)} {gs cs : Nat → Nat} {k : Nat} (h : Pq wr g n A p gs cs k) (hb : ∀ b, g ≤ b → b < wr.heap.size → w1.heap[b]? = wr.heap[b]?) (hs : wr.heap.size ≤ w1.heap.size) : Pq w1 g n A p gs cs k :=
  ⟨h.blk.keep (hb g (Nat.le_refl _) h.blk.lt) hs, h.val, fun i hi => (h.row i hi).keep fun _ => hb _ (Nat.le_of_lt (h.lo i hi)) (h.lt i hi), h.lo, fun i hi => Nat.lt_of_lt_of_le (h.lt i hi) hs, h.up⟩
theorem Pq.below {wr w1 : World} {g n : Nat} {A : Nat → Value} {p : List (List F7)} {gs cs : Nat → Nat} {k : Nat} (h : Pq wr g n A p gs cs k) (hb : Below wr.heap.size wr w1) : Pq w1 g n A p gs cs k := h.keep (fun b _ hl => hb.block b hl) hb.size
theorem Pq.step {w1 : World} {g n : Nat} {A : Nat → Value} {p : List (List F7)} {gs cs : Nat → Nat} {k g1 c1 : Nat} (h : Pq w1 g n A p gs cs k) (hk : k < n)
    (r : Row w1 (some ⟨g1, 0, none⟩) c1 g1 (nth p k)) (h0 : g < g1) (h1 : ∀ i, i < k → gs i < g1) (h2 : g1 < w1.heap.size) :
    Pq (w1.setCell ⟨g, k, none⟩ (.slice (some ⟨g1, 0, none⟩) (nth p k).length c1)) g n (upd A k (.slice (some ⟨g1, 0, none⟩) (nth p k).length c1)) p (fun i => if i = k then g1 else gs i) (fun i => if i = k then c1 else cs i) (k + 1) := by
  have ot : ∀ b, b ≠ g → (w1.setCell ⟨g, k, none⟩ (.slice (some ⟨g1, 0, none⟩) (nth p k).length c1)).heap[b]? = w1.heap[b]? := fun b hb => Below.heap_setCell _ _ _ _ hb
  have z : (w1.setCell ⟨g, k, none⟩ (.slice (some ⟨g1, 0, none⟩) (nth p k).length c1)).heap.size = w1.heap.size := by simp [World.setCell]
  refine ⟨h.blk.set hk _, fun i hi => ?_, fun i hi => ?_, fun i hi => ?_, fun i hi => ?_, fun i j hi hj => ?_⟩
  · unfold upd
    by_cases e : i = k
    · subst e; simp
    · simp only [if_neg e]; exact h.val i (by omega)
  · by_cases e : i = k
    · subst e
      simp only [if_true]
      exact r.keep fun _ => ot g1 (by omega)
    · simp only [if_neg e]
      exact (h.row i (by omega)).keep fun _ => ot _ (by have := h.lo i (by omega); omega)
  · by_cases e : i = k
    · simp only [if_pos e]; exact h0
    · simp only [if_neg e]; exact h.lo i (by omega)
  · rw [z]
    by_cases e : i = k
    · simp only [if_pos e]; exact h2
    · simp only [if_neg e]; exact h.lt i (by omega)
  · have ei : i ≠ k := by omega
    simp only [if_neg ei]
    by_cases e : j = k
    · simp only [if_pos e]; exact h1 i (by omega)
    · simp only [if_neg e]; exact h.up i j hi (by omega)
theorem Pq.pls {wr : World} {g n : Nat} {A : Nat → Value} {p : List (List F7)} {gs cs : Nat → Nat} (h : Pq wr g n A p gs cs n) (hn : p.length = n) : Pls wr (some ⟨g, 0, none⟩) n g p gs cs := by
  subst hn
  refine ⟨fun _ => rfl, Nat.le_refl _, fun i hi => by rw [h.blk.cell i hi, h.val i hi], h.row, h.lt, fun _ i => h.blk.free i, fun i hi => by have := h.lo i hi; omega, fun i j hi hj e => ?_⟩
  rcases Nat.lt_trichotomy i j with q | q | q
  · have := h.up i j q hj; omega
  · exact q
  · have := h.up j i q hi; omega
/-- An order in memory of its own, its lists never nil. -/
def NewO (w : World) (s : Sc) (l : List F4) (p : List (List F7)) (v : Value) (w' : World) : Prop := ∃ ci gi cp gp gs cs, v = .agg #[.int .i64 s.id, .int .i64 s.co, .int .i64 s.me, .int .i64 s.cu, .int .i64 s.da, .int .i64 s.nn, .int .i64 s.ra, .int .i64 s.nu, .int .i64 s.de, .slice (some ⟨gi, 0, none⟩) l.length ci, .slice (some ⟨gp, 0, none⟩) p.length cp, .int .i64 s.op, .int .i64 s.up] ∧
  OL w' w.heap.size l p (some ⟨gi, 0, none⟩) ci gi (some ⟨gp, 0, none⟩) cp gp gs cs ∧ w.heap.size ≤ gi ∧ gi < w'.heap.size ∧ w.heap.size ≤ gp ∧ gp < w'.heap.size ∧ gi ≠ gp ∧ Below w.heap.size w w'
end Go.Proofs.Ytmaejlfjdkkpdaa.pls
