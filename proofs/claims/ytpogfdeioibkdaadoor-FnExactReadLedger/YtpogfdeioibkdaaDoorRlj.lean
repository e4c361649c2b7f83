/-
  Plain helpers of this seat's proofs: what holds between the rounds of the landed function that reads a ledger. Conditions: none.
-/
import Derived.Test.YtpogfdeioibkdaaDoorLni
import Derived.Test.YtpogfdeioibkdaaDoorLti
import Derived.Test.YtpogfdeioibkdaaDoorRpi
import Derived.RangeFuncNested
import Derived.RangeFuncBound
import Derived.RangeFuncCalls
import Derived.RangeFuncLeaves
import Derived.Maps.OwnIn
namespace Go.Proofs.YtpogfdeioibkdaaDoor.ptm
open Go.ChangeShapes Go.WideShapes Go.ChangeAt Go.RowKit
open led (F5 z5)
open five (Row)
def tr (x : List UInt8) : List UInt8 := Lib.trimSuffix x [10]
theorem tr_at (x : List UInt8) : tr (x ++ [10]) = x := by
  unfold tr Lib.trimSuffix Lib.hasSuffix
  rw [if_pos (by simp)]
  simp
theorem tr_none {x : List UInt8} (h : (10 : UInt8) ∉ x) : tr x = x := by
  unfold tr Lib.trimSuffix Lib.hasSuffix
  rw [if_neg]
  intro q
  have := List.isSuffixOf_iff_suffix.1 q
  exact h (this.subset (by simp))
theorem pc_tr (l : List UInt8) : (pc l).map tr = (ln l).1 := by
  induction hn : l.length using Nat.strongRecOn generalizing l with
  | _ n ih =>
    rcases cut_cases 10 l with q | ⟨x, y, q, e⟩
    · by_cases e : l = []
      · subst e; rfl
      · rw [pc_none q e, ln_none q e]
        simp [tr_none q]
    · rw [e, pc_at y q, ln_at y q, List.map_cons, tr_at, ih y.length (by rw [← hn, e]; simp; omega) y rfl]
theorem tr_le (x : List UInt8) : (tr x).length ≤ x.length := by
  unfold tr Lib.trimSuffix; split <;> simp
/-- What holds between the rounds: the boxes of the results and of the list. -/
structure RI (w : World) (pre : List (List UInt8)) (W : World) : Prop where
  r0 : W.cell? ⟨w.heap.size, 0, none⟩ = some (.slice none 0 0)
  f0 : W.frozen? ⟨w.heap.size, 0, none⟩ = false
  r1 : W.cell? ⟨w.heap.size + 1, 0, none⟩ = some (.bool false)
  f1 : W.frozen? ⟨w.heap.size + 1, 0, none⟩ = false
  li : ∃ v, W.cell? ⟨w.heap.size + 3, 0, none⟩ = some v ∧ W.ownsRow (w.heap.size + 2) 27 5 v pre.length (draw.fl (ps (pre.map tr))) ∧ v ≠ .slice none 0 0 ∧ ∀ k, v.ownBlock = some k → k = w.heap.size + 2 ∨ w.heap.size + 5 ≤ k
  f3 : W.frozen? ⟨w.heap.size + 3, 0, none⟩ = false
  bw : Below w.heap.size w W
  sz : w.heap.size + 5 ≤ W.heap.size
  ok : okl (pre.map tr) = true
theorem own_cells {w : World} {B : Nat} {e : TypeId} {size : Nat} {v : Value} {n : Nat} {xs : List Value} (h : w.ownsRow B e size v n xs) : ∀ (j : Nat) (o : Obj), v.ownBlock = some j → w.heap[j]? = some o → o.isCells = true := fun j o hj ho => by
  rcases h.2 with ⟨rfl, _⟩ | ⟨g, cap, cur, rfl, hg, hh, _⟩
  · cases hj
  · cases hj
    rw [hh] at ho
    cases ho
    rfl
theorem own_kept {A B : World} {D : Nat} {e : TypeId} {size : Nat} {v : Value} {n : Nat} {xs : List Value} (h : A.ownsRow D e size v n xs) (hg : ∀ k o, v.ownBlock = some k → A.heap[k]? = some o → o.isCells = true → B.heap[k]? = some o) : B.ownsRow D e size v n xs := by
  have hc := own_cells h
  obtain ⟨h1, h2⟩ := h
  refine ⟨h1, ?_⟩
  rcases h2 with h2 | ⟨g, cap, cur, rfl, hgD, hh, r⟩
  · exact .inl h2
  · exact .inr ⟨g, cap, cur, rfl, hgD, hg g _ rfl hh rfl, r⟩
theorem heap_cell {W W' : World} {b : Nat} {v : Value} (hc : W.cell? ⟨b, 0, none⟩ = some v) (hs : ∀ o, W.heap[b]? = some o → o.isCells = true → W'.heap[b]? = some o) : W'.heap[b]? = W.heap[b]? := by
  obtain ⟨o, ho, hoc⟩ := cells_of_cell hc
  rw [ho]
  exact hs o ho hoc
theorem RI.keep {w W W' : World} {pre : List (List UInt8)} (h : RI w pre W) (hb : Below w.heap.size w W') (hs : W.heap.size ≤ W'.heap.size) (same : ∀ k o, k ≠ w.heap.size + 4 → W.heap[k]? = some o → o.isCells = true → W'.heap[k]? = some o) : RI w pre W' := by
  obtain ⟨v, hc, ho, hn, hk⟩ := h.li
  have e0 := heap_cell h.r0 (fun o a b => same _ o (by omega) a b)
  have e1 := heap_cell h.r1 (fun o a b => same _ o (by omega) a b)
  have e3 := heap_cell hc (fun o a b => same _ o (by omega) a b)
  exact ⟨(World.cell?_of_block (w := W) (a := ⟨_, 0, none⟩) e0).trans h.r0, (World.frozen?_of_block (w := W) (a := ⟨_, 0, none⟩) e0).trans h.f0,
    (World.cell?_of_block (w := W) (a := ⟨_, 0, none⟩) e1).trans h.r1, (World.frozen?_of_block (w := W) (a := ⟨_, 0, none⟩) e1).trans h.f1,
    ⟨v, (World.cell?_of_block (w := W) (a := ⟨_, 0, none⟩) e3).trans hc, own_kept ho (fun k o hv a b => same k o (by have := hk k hv; omega) a b), hn, hk⟩,
    (World.frozen?_of_block (w := W) (a := ⟨_, 0, none⟩) e3).trans h.f3, hb, Nat.le_trans h.sz hs, h.ok⟩
theorem RI.grown {w A B : World} {pre : List (List UInt8)} {row : Option Nat} (h : RI w pre A) (hg : A.grownBy B row) (hr : ∀ r, row = some r → w.heap.size ≤ r ∧ ∃ o : Obj, A.heap[r]? = some o ∧ o.isCells = false) : RI w pre B :=
  h.keep (h.bw.grown hg h.bw.size (fun k e => (hr k e).1)) hg.size fun k o _ ho hoc => by
    rw [hg.block k (Array.getElem?_eq_some_iff.1 ho).1 (fun e => by
      obtain ⟨o', ho', hc'⟩ := (hr k e.symm).2
      rw [ho] at ho'
      cases ho'
      rw [hoc] at hc'
      cases hc')]
    exact ho
theorem RI.stay {w A B : World} {pre : List (List UInt8)} (h : RI w pre A) (hb : Below A.heap.size A B) : RI w pre B :=
  h.grown (row := none) (by_below hb) (fun r e => by cases e)
theorem RI.setB {w A : World} {pre : List (List UInt8)} (h : RI w pre A) (v : Value) : RI w pre (A.setCell ⟨w.heap.size + 4, 0, none⟩ v) :=
  h.keep (h.bw.setCell (p := ⟨w.heap.size + 4, 0, none⟩) (by show w.heap.size ≤ w.heap.size + 4; omega) v) (by rw [World.size_setCell]; exact Nat.le_refl _) fun k o hk ho _ => (Below.heap_setCell A ⟨w.heap.size + 4, 0, none⟩ v k hk).trans ho
/-- The world in which the rounds begin. -/
def W0 (w : World) (L : List UInt8) : World := ((((w.alloc (.cells #[.slice none 0 0] 43)).alloc (.cells #[.bool false] 4)).alloc (.cells #[] 27)).alloc (.cells #[.slice (some ⟨w.heap.size + 2, 0, none⟩) 0 0] 43)).alloc (.cells #[.string ⟨L.toArray⟩] 9)
theorem heap_al {w : World} (o : Obj) {k : Nat} (h : k < w.heap.size) : (w.alloc o).heap[k]? = w.heap[k]? := Below.heap_alloc w o k h
theorem heap_nw (w : World) (o : Obj) : (w.alloc o).heap[w.heap.size]? = some o := by
  show (w.heap.push _)[w.heap.size]? = _
  simp
theorem W0_size (w : World) (L : List UInt8) : (W0 w L).heap.size = w.heap.size + 5 := by
  unfold W0; simp only [World.size_alloc]
theorem W0_heap (w : World) (L : List UInt8) : (W0 w L).heap[w.heap.size]? = some (.cells #[.slice none 0 0] 43) ∧ (W0 w L).heap[w.heap.size + 1]? = some (.cells #[.bool false] 4) ∧ (W0 w L).heap[w.heap.size + 2]? = some (.cells #[] 27) ∧
    (W0 w L).heap[w.heap.size + 3]? = some (.cells #[.slice (some ⟨w.heap.size + 2, 0, none⟩) 0 0] 43) ∧ (W0 w L).heap[w.heap.size + 4]? = some (.cells #[.string ⟨L.toArray⟩] 9) := by
  unfold W0
  refine ⟨?_, ?_, ?_, ?_, ?_⟩
  · rw [heap_al _ (by simp only [World.size_alloc]; omega), heap_al _ (by simp only [World.size_alloc]; omega), heap_al _ (by simp only [World.size_alloc]; omega), heap_al _ (by simp only [World.size_alloc]; omega)]
    exact heap_nw w _
  · rw [heap_al _ (by simp only [World.size_alloc]; omega), heap_al _ (by simp only [World.size_alloc]; omega), heap_al _ (by simp only [World.size_alloc]; omega)]
    have := heap_nw (w.alloc (.cells #[.slice none 0 0] 43)) (.cells #[.bool false] 4)
    rwa [World.size_alloc] at this
  · rw [heap_al _ (by simp only [World.size_alloc]; omega), heap_al _ (by simp only [World.size_alloc]; omega)]
    have := heap_nw ((w.alloc (.cells #[.slice none 0 0] 43)).alloc (.cells #[.bool false] 4)) (.cells #[] 27)
    simp only [World.size_alloc] at this
    exact this
  · rw [heap_al _ (by simp only [World.size_alloc]; omega)]
    have := heap_nw (((w.alloc (.cells #[.slice none 0 0] 43)).alloc (.cells #[.bool false] 4)).alloc (.cells #[] 27)) (.cells #[.slice (some ⟨w.heap.size + 2, 0, none⟩) 0 0] 43)
    simp only [World.size_alloc] at this
    exact this
  · have := heap_nw ((((w.alloc (.cells #[.slice none 0 0] 43)).alloc (.cells #[.bool false] 4)).alloc (.cells #[] 27)).alloc (.cells #[.slice (some ⟨w.heap.size + 2, 0, none⟩) 0 0] 43)) (.cells #[.string ⟨L.toArray⟩] 9)
    simp only [World.size_alloc] at this
    exact this
theorem cell_heap {W : World} {b : Nat} {v : Value} {t : TypeId} (h : W.heap[b]? = some (.cells #[v] t)) : W.cell? ⟨b, 0, none⟩ = some v ∧ W.frozen? ⟨b, 0, none⟩ = false := by
  unfold World.cell? World.frozen?
  simp [h]
theorem RI.start (w : World) (L : List UInt8) : RI w [] (W0 w L) := by
  obtain ⟨h0, h1, h2, h3, h4⟩ := W0_heap w L
  refine ⟨(cell_heap h0).1, (cell_heap h0).2, (cell_heap h1).1, (cell_heap h1).2, ⟨_, (cell_heap h3).1, ?_, (by intro h; cases h), fun k hk => by cases hk; exact .inl rfl⟩, (cell_heap h3).2, ?_, by rw [W0_size]; exact Nat.le_refl _, rfl⟩
  · exact ⟨rfl, .inr ⟨w.heap.size + 2, 0, #[], rfl, Nat.le_refl _, h2, Nat.le_refl _, Nat.zero_le _, rfl, rfl⟩⟩
  · unfold W0
    refine (((((Below.refl _ _).alloc (Nat.le_refl _) _).alloc ?_ _).alloc ?_ _).alloc ?_ _).alloc ?_ _
    all_goals (simp only [World.size_alloc]; omega)
theorem linC (s : ByteArray) (w : World) : Calls Tryd.prog 57 #[.string s] w fun e w' => e = .returned (.func (.func 78) #[] #[.pointer (some ⟨w.heap.size, 0, none⟩)]) ∧ w' = w.alloc (.cells #[.string s] 9) := by
  go_enter Tryd.func57, Tryd.ntmps57
  go_wp2
  go_ret
  exact ⟨rfl, rfl⟩
end Go.Proofs.YtpogfdeioibkdaaDoor.ptm
