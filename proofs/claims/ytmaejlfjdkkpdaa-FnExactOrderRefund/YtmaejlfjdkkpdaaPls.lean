/-
  Plain helpers of this seat's proofs: slices of plans, as they lie in memory. Conditions: none.
-/
import Derived.Test.YtmaejlfjdkkpdaaSev
import Derived.Test.YtmaejlfjdkkpdaaFou
namespace Go.Proofs.Ytmaejlfjdkkpdaa.pls
open Go.ChangeShapes Go.WideShapes Go.ChangeAt Go.RowKit
open gen
open seven (F7 zz Row Inp At)
open four (F4)
theorem cell_lt {w : World} {b o : Nat} {v : Value} (h : w.cell? ⟨b, o, none⟩ = some v) : b < w.heap.size := by
  unfold World.cell? at h
  cases hh : w.heap[b]? with
  | none => simp [hh] at h
  | some o => exact (Array.getElem?_eq_some_iff.1 hh).1
theorem cell_keep {w w' : World} {b o : Nat} {v : Value} (h : w.cell? ⟨b, o, none⟩ = some v) (e : w'.heap[b]? = w.heap[b]?) : w'.cell? ⟨b, o, none⟩ = some v := by
  rw [World.cell?_of_block (w := w) (a := ⟨b, o, none⟩) e]; exact h
/-- The plan at place i. -/
def nth (p : List (List F7)) (i : Nat) : List F7 := p.getD i []
/-- A slice of plans that came in, wherever it lies. -/
def InpP (w : World) (a : Option Addr) (p : List (List F7)) : Prop := ∀ i, i < p.length → ∃ c off : Nat, a = some ⟨c, off, none⟩ ∧ ∃ a' cap', w.cell? ⟨c, off + i, none⟩ = some (.slice a' (nth p i).length cap') ∧ Inp w a' (nth p i)
theorem InpP.below {w w' : World} {a : Option Addr} {p : List (List F7)} (h : InpP w a p) (hb : Below w.heap.size w w') : InpP w' a p := fun i hi => by
  obtain ⟨c, off, e, a', cap', h1, h2⟩ := h i hi
  exact ⟨c, off, e, a', cap', cell_keep h1 (hb.block c (cell_lt h1)), h2.below hb⟩
/-- A slice of plans in block gp, each in a block of its own. -/
structure Pls (w : World) (a : Option Addr) (cap gp : Nat) (p : List (List F7)) (gs cs : Nat → Nat) : Prop where
  addr : 0 < p.length → a = some ⟨gp, 0, none⟩
  room : p.length ≤ cap
  cells : ∀ i, i < p.length → w.cell? ⟨gp, i, none⟩ = some (.slice (some ⟨gs i, 0, none⟩) (nth p i).length (cs i))
  rows : ∀ i, i < p.length → Row w (some ⟨gs i, 0, none⟩) (cs i) (gs i) (nth p i)
  lt : ∀ i, i < p.length → gs i < w.heap.size
  free : 0 < p.length → ∀ i, w.frozen? ⟨gp, i, none⟩ = false
  ne : ∀ i, i < p.length → gs i ≠ gp
  inj : ∀ i j, i < p.length → j < p.length → gs i = gs j → i = j
theorem Pls.plt {w : World} {a : Option Addr} {cap gp : Nat} {p : List (List F7)} {gs cs : Nat → Nat} (r : Pls w a cap gp p gs cs) (h : 0 < p.length) : gp < w.heap.size := cell_lt (r.cells 0 h)
theorem Pls.keep {w w' : World} {a : Option Addr} {cap gp : Nat} {p : List (List F7)} {gs cs : Nat → Nat} (r : Pls w a cap gp p gs cs) (hb : 0 < p.length → w'.heap[gp]? = w.heap[gp]?) (hg : ∀ i, i < p.length → w'.heap[gs i]? = w.heap[gs i]?) (hs : w.heap.size ≤ w'.heap.size) : Pls w' a cap gp p gs cs := by
  refine ⟨r.addr, r.room, fun i hi => cell_keep (r.cells i hi) (hb (by omega)), fun i hi => (r.rows i hi).keep fun _ => hg i hi, fun i hi => Nat.lt_of_lt_of_le (r.lt i hi) hs, fun h i => ?_, r.ne, r.inj⟩
  rw [World.frozen?_of_block (w := w) (a := ⟨gp, i, none⟩) (hb h)]; exact r.free h i
theorem Pls.below {w w' : World} {a : Option Addr} {cap gp : Nat} {p : List (List F7)} {gs cs : Nat → Nat} (r : Pls w a cap gp p gs cs) (hb : Below w.heap.size w w') : Pls w' a cap gp p gs cs :=
  r.keep (fun h => hb.block gp (r.plt h)) (fun i hi => hb.block _ (r.lt i hi)) hb.size
theorem Pls.nil (w : World) : Pls w none 0 0 [] (fun _ => 0) (fun _ => 0) :=
  ⟨fun h => absurd h (by simp), Nat.le_refl _, fun i h => absurd h (by simp), fun i h => absurd h (by simp), fun i h => absurd h (by simp), fun h => absurd h (by simp), fun i h => absurd h (by simp), fun i j h => absurd h (by simp)⟩
/-- The lists of an order, in memory from block B on, apart from each other. -/
structure OL (w : World) (B : Nat) (l : List F4) (p : List (List F7)) (ai : Option Addr) (ci gi : Nat) (ap : Option Addr) (cp gp : Nat) (gs cs : Nat → Nat) : Prop where
  items : four.Row w ai ci gi l
  plans : Pls w ap cp gp p gs cs
  gi0 : 0 < l.length → B ≤ gi
  gp0 : 0 < p.length → B ≤ gp
  gs0 : ∀ i, i < p.length → B ≤ gs i
  ip : 0 < l.length → 0 < p.length → gi ≠ gp
  is_ : ∀ i, i < p.length → 0 < l.length → gs i ≠ gi
theorem OL.gi1 {w : World} {B : Nat} {l : List F4} {p : List (List F7)} {ai : Option Addr} {ci gi : Nat} {ap : Option Addr} {cp gp : Nat} {gs cs : Nat → Nat} (r : OL w B l p ai ci gi ap cp gp gs cs) (h : 0 < l.length) : gi < w.heap.size := r.items.lt h
theorem OL.gp1 {w : World} {B : Nat} {l : List F4} {p : List (List F7)} {ai : Option Addr} {ci gi : Nat} {ap : Option Addr} {cp gp : Nat} {gs cs : Nat → Nat} (r : OL w B l p ai ci gi ap cp gp gs cs) (h : 0 < p.length) : gp < w.heap.size := r.plans.plt h
theorem OL.gs1 {w : World} {B : Nat} {l : List F4} {p : List (List F7)} {ai : Option Addr} {ci gi : Nat} {ap : Option Addr} {cp gp : Nat} {gs cs : Nat → Nat} (r : OL w B l p ai ci gi ap cp gp gs cs) {i : Nat} (h : i < p.length) : gs i < w.heap.size := r.plans.lt i h
theorem OL.below {w w' : World} {B : Nat} {l : List F4} {p : List (List F7)} {ai : Option Addr} {ci gi : Nat} {ap : Option Addr} {cp gp : Nat} {gs cs : Nat → Nat} (r : OL w B l p ai ci gi ap cp gp gs cs) (hb : Below w.heap.size w w') : OL w' B l p ai ci gi ap cp gp gs cs :=
  ⟨r.items.keep fun h => hb.block gi (r.gi1 h), r.plans.below hb, r.gi0, r.gp0, r.gs0, r.ip, r.is_⟩
theorem OL.low {w : World} {B B' : Nat} {l : List F4} {p : List (List F7)} {ai : Option Addr} {ci gi : Nat} {ap : Option Addr} {cp gp : Nat} {gs cs : Nat → Nat} (r : OL w B l p ai ci gi ap cp gp gs cs) (h : B' ≤ B) : OL w B' l p ai ci gi ap cp gp gs cs :=
  ⟨r.items, r.plans, fun k => Nat.le_trans h (r.gi0 k), fun k => Nat.le_trans h (r.gp0 k), fun i hi => Nat.le_trans h (r.gs0 i hi), r.ip, r.is_⟩
theorem OL.nil (w : World) (B : Nat) : OL w B [] [] none 0 0 none 0 0 (fun _ => 0) (fun _ => 0) :=
  ⟨four.Row.nil w, Pls.nil w, fun h => absurd h (by simp), fun h => absurd h (by simp), fun i h => absurd h (by simp), fun h => absurd h (by simp), fun i h => absurd h (by simp)⟩
/-- How many Parts the first k plans have. -/
def tl (p : List (List F7)) : Nat → Nat
  | 0 => 0
  | k + 1 => tl p k + (nth p k).length
theorem tl_mono (p : List (List F7)) : ∀ (k j : Nat), tl p k ≤ tl p (k + j)
  | _, 0 => Nat.le_refl _
  | k, j + 1 => Nat.le_trans (tl_mono p k j) (Nat.le_add_right _ _)
theorem tl_le (p : List (List F7)) {i : Nat} (h : i < p.length) : (nth p i).length ≤ tl p p.length := by
  have h1 := tl_mono p (i + 1) (p.length - (i + 1))
  rw [show i + 1 + (p.length - (i + 1)) = p.length by omega] at h1
  have : (nth p i).length ≤ tl p (i + 1) := by unfold tl; omega
  omega
end Go.Proofs.Ytmaejlfjdkkpdaa.pls
