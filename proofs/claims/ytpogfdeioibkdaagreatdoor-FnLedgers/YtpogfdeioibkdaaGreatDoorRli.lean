/-
  Plain helpers of this seat's proofs: the contract of the landed function that reads a ledger. Conditions: none.
-/
import Derived.Test.YtpogfdeioibkdaaGreatDoorLni
import Derived.Test.YtpogfdeioibkdaaGreatDoorLti
import Derived.Test.YtpogfdeioibkdaaGreatDoorRpi
import Derived.RangeFuncNested
import Derived.RangeFuncBound
import Derived.RangeFuncCalls
import Derived.RangeFuncLeaves
import Derived.Maps.OwnIn
namespace Go.Proofs.YtpogfdeioibkdaaGreatDoor.ptm
open Go.ChangeShapes Go.WideShapes Go.ChangeAt Go.RowKit
open led (F5 z5)
open five (Row)
def tr (x : List UInt8) : List UInt8 := Lib.trimSuffix x [10]
theorem tr_at (x : List UInt8) : tr (x ++ [10]) = x := by
  unfold tr Lib.trimSuffix Lib.hasSuffix
  rw [if_pos (by simp)]
  simp
theorem tr_none {x : List UInt8} (h : (10 : UInt8) ∉ x) : tr x = x := by
  unfold tr Lib.trimSuffix Lib.hasSuffix
  rw [if_neg]
  intro q
  have := List.isSuffixOf_iff_suffix.1 q
  exact h (this.subset (by simp))
theorem pc_tr (l : List UInt8) : (pc l).map tr = (ln l).1 := by
  induction hn : l.length using Nat.strongRecOn generalizing l with
  | _ n ih =>
    rcases cut_cases 10 l with q | ⟨x, y, q, e⟩
    · by_cases e : l = []
      · subst e; rfl
      · rw [pc_none q e, ln_none q e]
        simp [tr_none q]
    · rw [e, pc_at y q, ln_at y q, List.map_cons, tr_at, ih y.length (by rw [← hn, e]; simp; omega) y rfl]
theorem tr_le (x : List UInt8) : (tr x).length ≤ x.length := by
  unfold tr Lib.trimSuffix; split <;> simp
/-- What holds between the rounds: the boxes of the results and of the list. -/
structure RI (w : World) (pre : List (List UInt8)) (W : World) : Prop where
  r0 : W.cell? ⟨w.heap.size, 0, none⟩ = some (.slice none 0 0)
  f0 : W.frozen? ⟨w.heap.size, 0, none⟩ = false
  r1 : W.cell? ⟨w.heap.size + 1, 0, none⟩ = some (.bool false)
  f1 : W.frozen? ⟨w.heap.size + 1, 0, none⟩ = false
  li : ∃ v, W.cell? ⟨w.heap.size + 3, 0, none⟩ = some v ∧ W.ownsRow (w.heap.size + 2) 36 5 v pre.length (draw.fl (ps (pre.map tr))) ∧ v ≠ .slice none 0 0 ∧ ∀ k, v.ownBlock = some k → k = w.heap.size + 2 ∨ w.heap.size + 5 ≤ k
  f3 : W.frozen? ⟨w.heap.size + 3, 0, none⟩ = false
  bw : Below w.heap.size w W
  sz : w.heap.size + 5 ≤ W.heap.size
  ok : okl (pre.map tr) = true
theorem own_cells {w : World} {B : Nat} {e : TypeId} {size : Nat} {v : Value} {n : Nat} {xs : List Value} (h : w.ownsRow B e size v n xs) : ∀ (j : Nat) (o : Obj), v.ownBlock = some j → w.heap[j]? = some o → o.isCells = true := fun j o hj ho => by
  rcases h.2 with ⟨rfl, _⟩ | ⟨g, cap, cur, rfl, hg, hh, _⟩
  · cases hj
  · cases hj
    rw [hh] at ho
    cases ho
    rfl
theorem own_kept {A B : World} {D : Nat} {e : TypeId} {size : Nat} {v : Value} {n : Nat} {xs : List Value} (h : A.ownsRow D e size v n xs) (hg : ∀ k o, v.ownBlock = some k → A.heap[k]? = some o → o.isCells = true → B.heap[k]? = some o) : B.ownsRow D e size v n xs := by
  have hc := own_cells h
  obtain ⟨h1, h2⟩ := h
  refine ⟨h1, ?_⟩
  rcases h2 with h2 | ⟨g, cap, cur, rfl, hgD, hh, r⟩
  · exact .inl h2
  · exact .inr ⟨g, cap, cur, rfl, hgD, hg g _ rfl hh rfl, r⟩
theorem heap_cell {W W' : World} {b : Nat} {v : Value} (hc : W.cell? ⟨b, 0, none⟩ = some v) (hs : ∀ o, W.heap[b]? = some o → o.isCells = true → W'.heap[b]? = some o) : W'.heap[b]? = W.heap[b]? := by
  obtain ⟨o, ho, hoc⟩ := cells_of_cell hc
  rw [ho]
  exact hs o ho hoc
theorem RI.keep {w W W' : World} {pre : List (List UInt8)} (h : RI w pre W) (hb : Below w.heap.size w W') (hs : W.heap.size ≤ W'.heap.size) (same : ∀ k o, k ≠ w.heap.size + 4 → W.heap[k]? = some o → o.isCells = true → W'.heap[k]? = some o) : RI w pre W' := by
  obtain ⟨v, hc, ho, hn, hk⟩ := h.li
  have e0 := heap_cell h.r0 (fun o a b => same _ o (by omega) a b)
  have e1 := heap_cell h.r1 (fun o a b => same _ o (by omega) a b)
  have e3 := heap_cell hc (fun o a b => same _ o (by omega) a b)
  exact ⟨(World.cell?_of_block (w := W) (a := ⟨_, 0, none⟩) e0).trans h.r0, (World.frozen?_of_block (w := W) (a := ⟨_, 0, none⟩) e0).trans h.f0,
    (World.cell?_of_block (w := W) (a := ⟨_, 0, none⟩) e1).trans h.r1, (World.frozen?_of_block (w := W) (a := ⟨_, 0, none⟩) e1).trans h.f1,
    ⟨v, (World.cell?_of_block (w := W) (a := ⟨_, 0, none⟩) e3).trans hc, own_kept ho (fun k o hv a b => same k o (by have := hk k hv; omega) a b), hn, hk⟩,
    (World.frozen?_of_block (w := W) (a := ⟨_, 0, none⟩) e3).trans h.f3, hb, Nat.le_trans h.sz hs, h.ok⟩
theorem RI.grown {w A B : World} {pre : List (List UInt8)} {row : Option Nat} (h : RI w pre A) (hg : A.grownBy B row) (hr : ∀ r, row = some r → w.heap.size ≤ r ∧ ∃ o : Obj, A.heap[r]? = some o ∧ o.isCells = false) : RI w pre B :=
  h.keep (h.bw.grown hg h.bw.size (fun k e => (hr k e).1)) hg.size fun k o _ ho hoc => by
    rw [hg.block k (Array.getElem?_eq_some_iff.1 ho).1 (fun e => by
      obtain ⟨o', ho', hc'⟩ := (hr k e.symm).2
      rw [ho] at ho'
      cases ho'
      rw [hoc] at hc'
      cases hc')]
    exact ho
theorem RI.stay {w A B : World} {pre : List (List UInt8)} (h : RI w pre A) (hb : Below A.heap.size A B) : RI w pre B :=
  h.grown (row := none) (by_below hb) (fun r e => by cases e)
theorem RI.setB {w A : World} {pre : List (List UInt8)} (h : RI w pre A) (v : Value) : RI w pre (A.setCell ⟨w.heap.size + 4, 0, none⟩ v) :=
  h.keep (h.bw.setCell (p := ⟨w.heap.size + 4, 0, none⟩) (by show w.heap.size ≤ w.heap.size + 4; omega) v) (by rw [World.size_setCell]; exact Nat.le_refl _) fun k o hk ho _ => (Below.heap_setCell A ⟨w.heap.size + 4, 0, none⟩ v k hk).trans ho
/-- The world in which the rounds begin. -/
def W0 (w : World) (L : List UInt8) : World := ((((w.alloc (.cells #[.slice none 0 0] 24)).alloc (.cells #[.bool false] 4)).alloc (.cells #[] 36)).alloc (.cells #[.slice (some ⟨w.heap.size + 2, 0, none⟩) 0 0] 24)).alloc (.cells #[.string ⟨L.toArray⟩] 9)
theorem heap_al {w : World} (o : Obj) {k : Nat} (h : k < w.heap.size) : (w.alloc o).heap[k]? = w.heap[k]? := Below.heap_alloc w o k h
theorem heap_nw (w : World) (o : Obj) : (w.alloc o).heap[w.heap.size]? = some o := by
  show (w.heap.push _)[w.heap.size]? = _
  simp
theorem W0_size (w : World) (L : List UInt8) : (W0 w L).heap.size = w.heap.size + 5 := by
  unfold W0; simp only [World.size_alloc]
theorem W0_heap (w : World) (L : List UInt8) : (W0 w L).heap[w.heap.size]? = some (.cells #[.slice none 0 0] 24) ∧ (W0 w L).heap[w.heap.size + 1]? = some (.cells #[.bool false] 4) ∧ (W0 w L).heap[w.heap.size + 2]? = some (.cells #[] 36) ∧
    (W0 w L).heap[w.heap.size + 3]? = some (.cells #[.slice (some ⟨w.heap.size + 2, 0, none⟩) 0 0] 24) ∧ (W0 w L).heap[w.heap.size + 4]? = some (.cells #[.string ⟨L.toArray⟩] 9) := by
  unfold W0
  refine ⟨?_, ?_, ?_, ?_, ?_⟩
  · rw [heap_al _ (by simp only [World.size_alloc]; omega), heap_al _ (by simp only [World.size_alloc]; omega), heap_al _ (by simp only [World.size_alloc]; omega), heap_al _ (by simp only [World.size_alloc]; omega)]
    exact heap_nw w _
  · rw [heap_al _ (by simp only [World.size_alloc]; omega), heap_al _ (by simp only [World.size_alloc]; omega), heap_al _ (by simp only [World.size_alloc]; omega)]
    have := heap_nw (w.alloc (.cells #[.slice none 0 0] 24)) (.cells #[.bool false] 4)
    rwa [World.size_alloc] at this
  · rw [heap_al _ (by simp only [World.size_alloc]; omega), heap_al _ (by simp only [World.size_alloc]; omega)]
    have := heap_nw ((w.alloc (.cells #[.slice none 0 0] 24)).alloc (.cells #[.bool false] 4)) (.cells #[] 36)
    simp only [World.size_alloc] at this
    exact this
  · rw [heap_al _ (by simp only [World.size_alloc]; omega)]
    have := heap_nw (((w.alloc (.cells #[.slice none 0 0] 24)).alloc (.cells #[.bool false] 4)).alloc (.cells #[] 36)) (.cells #[.slice (some ⟨w.heap.size + 2, 0, none⟩) 0 0] 24)
    simp only [World.size_alloc] at this
    exact this
  · have := heap_nw ((((w.alloc (.cells #[.slice none 0 0] 24)).alloc (.cells #[.bool false] 4)).alloc (.cells #[] 36)).alloc (.cells #[.slice (some ⟨w.heap.size + 2, 0, none⟩) 0 0] 24)) (.cells #[.string ⟨L.toArray⟩] 9)
    simp only [World.size_alloc] at this
    exact this
theorem cell_heap {W : World} {b : Nat} {v : Value} {t : TypeId} (h : W.heap[b]? = some (.cells #[v] t)) : W.cell? ⟨b, 0, none⟩ = some v ∧ W.frozen? ⟨b, 0, none⟩ = false := by
  unfold World.cell? World.frozen?
  simp [h]
theorem RI.start (w : World) (L : List UInt8) : RI w [] (W0 w L) := by
  obtain ⟨h0, h1, h2, h3, h4⟩ := W0_heap w L
  refine ⟨(cell_heap h0).1, (cell_heap h0).2, (cell_heap h1).1, (cell_heap h1).2, ⟨_, (cell_heap h3).1, ?_, (by intro h; cases h), fun k hk => by cases hk; exact .inl rfl⟩, (cell_heap h3).2, ?_, by rw [W0_size]; exact Nat.le_refl _, rfl⟩
  · exact ⟨rfl, .inr ⟨w.heap.size + 2, 0, #[], rfl, Nat.le_refl _, h2, Nat.le_refl _, Nat.zero_le _, rfl, rfl⟩⟩
  · unfold W0
    refine (((((Below.refl _ _).alloc (Nat.le_refl _) _).alloc ?_ _).alloc ?_ _).alloc ?_ _).alloc ?_ _
    all_goals (simp only [World.size_alloc]; omega)
theorem linC (s : ByteArray) (w : World) : Calls Tryz.prog 21 #[.string s] w fun e w' => e = .returned (.func (.func 48) #[] #[.pointer (some ⟨w.heap.size, 0, none⟩)]) ∧ w' = w.alloc (.cells #[.string s] 9) := by
  go_enter Tryz.func21, Tryz.ntmps21
  go_wp2
  go_ret
  exact ⟨rfl, rfl⟩
end Go.Proofs.YtpogfdeioibkdaaGreatDoor.ptm

namespace Go.Proofs.YtpogfdeioibkdaaGreatDoor.ptm
open Go.ChangeShapes Go.WideShapes Go.ChangeAt Go.RowKit
open led (F5 z5)
open five (Row)
open Go.Shelf
attribute [local go_sem] Oper.semAt_some
theorem pc_word : ∀ (l : List UInt8) (w : List UInt8), w ∈ pc l → w.length ≤ l.length := by
  intro l
  induction l with
  | nil => intro w h; simp [pc] at h
  | cons b l ih =>
    intro w h
    simp only [pc] at h
    split at h
    · rcases List.mem_cons.1 h with h | h
      · subst h; simp
      · have := ih w h; simp; omega
    · cases q : pc l with
      | nil => rw [q] at h; simp at h; subst h; simp
      | cons v r =>
        rw [q] at h
        rcases List.mem_cons.1 h with h | h
        · subst h; have := ih v (by rw [q]; simp); simp; omega
        · have := ih w (by rw [q]; exact List.mem_cons_of_mem _ h); simp; omega
theorem pc_len (l : List UInt8) : (pc l).length ≤ l.length := by
  have := ln_len l
  rw [← pc_tr, List.length_map] at this
  exact this
/-- What holds when a round ends the function. -/
structure RY (w : World) (L : List UInt8) (W : World) : Prop where
  r0 : W.cell? ⟨w.heap.size, 0, none⟩ = some (.slice none 0 0)
  r1 : W.cell? ⟨w.heap.size + 1, 0, none⟩ = some (.bool false)
  bw : Below w.heap.size w W
  no : rl L = ([], false)
  sz : w.heap.size + 5 ≤ W.heap.size
theorem RY.grown {w A B : World} {L : List UInt8} {row : Option Nat} (h : RY w L A) (hg : A.grownBy B row) (hr : ∀ r, row = some r → w.heap.size ≤ r ∧ ∃ o : Obj, A.heap[r]? = some o ∧ o.isCells = false) : RY w L B := by
  have key : ∀ (k : Nat) (o : Obj), A.heap[k]? = some o → o.isCells = true → B.heap[k]? = some o := fun k o ho hoc => by
    rw [hg.block k (Array.getElem?_eq_some_iff.1 ho).1 (fun e => by
      obtain ⟨o', ho', hc'⟩ := (hr k e.symm).2
      rw [ho] at ho'
      cases ho'
      rw [hoc] at hc'
      cases hc')]
    exact ho
  exact ⟨(World.cell?_of_block (w := A) (a := ⟨_, 0, none⟩) (heap_cell h.r0 (key _))).trans h.r0, (World.cell?_of_block (w := A) (a := ⟨_, 0, none⟩) (heap_cell h.r1 (key _))).trans h.r1, h.bw.grown hg h.bw.size (fun k e => (hr k e).1), h.no, Nat.le_trans h.sz hg.size⟩
theorem RY.of {w W : World} {L : List UInt8} {pre : List (List UInt8)} (h : RI w pre W) (no : rl L = ([], false)) : RY w L ((W.setCell ⟨w.heap.size, 0, none⟩ (.slice none 0 0)).setCell ⟨w.heap.size + 1, 0, none⟩ (.bool false)) := by
  have z := h.sz
  have c1 : (W.setCell ⟨w.heap.size, 0, none⟩ (.slice none 0 0)).cell? ⟨w.heap.size + 1, 0, none⟩ = some (.bool false) := (World.cell?_setCell_far _ _ _ _ (by show w.heap.size ≠ w.heap.size + 1; omega)).trans h.r1
  refine ⟨?_, World.cell?_setCell_same' _ _ _ (by rw [c1]; rfl), (h.bw.setCell (p := ⟨w.heap.size, 0, none⟩) (Nat.le_refl _) _).setCell (p := ⟨w.heap.size + 1, 0, none⟩) (by show w.heap.size ≤ w.heap.size + 1; omega) _, no, by rw [World.size_setCell, World.size_setCell]; exact z⟩
  rw [World.cell?_setCell_far _ _ _ _ (by show w.heap.size + 1 ≠ w.heap.size; omega)]
  exact World.cell?_setCell_same' _ _ _ (by rw [h.r0]; rfl)
theorem put_cell {W : World} {D b : Nat} {v : Value} (o : Obj) (h : W.cell? ⟨b, 0, none⟩ = some v) (hb : b ≠ D) : (W.putObj D o).cell? ⟨b, 0, none⟩ = some v := (World.cell?_of_block (w := W) (a := ⟨b, 0, none⟩) (World.putObj_heap_other hb)).trans h
theorem below_put {B D : Nat} {w W : World} (h : Below B w W) (hD : B ≤ D) (o : Obj) : Below B w (W.putObj D o) := ⟨h.os, h.tape, h.output, by simp [World.putObj]; exact h.size, fun k hk => (World.putObj_heap_other (by omega)).trans (h.block k hk)⟩
theorem kf {W w1 B : World} (D : Nat) (b1 : Below W.heap.size W w1) (h : KeepsOthers w1 B) : KeepsFrom D W B := ((KeepsOthers.of_grownBy (by_below b1) (fun j o e => by cases e)).trans h).from D
/-- One more line read. -/
theorem RI.step {w W w1 w3 : World} {pre : List (List UInt8)} {x : List UInt8} {p : F5} {v v3 : Value} {o : Obj} (D : Nat) (h : RI w pre W) (hp : p = (rd (tr x)).1) (ht : (rd (tr x)).2 = true)
    (hv : W.cell? ⟨w.heap.size + 3, 0, none⟩ = some v) (b1 : Below W.heap.size W w1) (hg : (w1.alloc o).grownBy w3 v.ownBlock) (hn3 : v3 ≠ .slice none 0 0)
    (ho : w3.ownsRow (w.heap.size + 2) 36 5 v3 (pre.length + 1) (draw.fl (ps (pre.map tr)) ++ [.int .i64 p.1, .int .i64 p.2.1, .int .i64 p.2.2.1, .int .i64 p.2.2.2.1, .int .i64 p.2.2.2.2]))
    (hat : v3.ownBlock = v.ownBlock ∨ v3.ownBlock = some (w1.alloc o).heap.size) :
    KeepsFrom D W (w3.setCell ⟨w.heap.size + 3, 0, none⟩ v3) ∧ rf.Sm (w.heap.size + 4) W (w3.setCell ⟨w.heap.size + 3, 0, none⟩ v3) ∧ RI w (pre ++ [x]) (w3.setCell ⟨w.heap.size + 3, 0, none⟩ v3) := by
  obtain ⟨v', hc', own, hn, hk⟩ := h.li
  obtain rfl : v' = v := Option.some.inj (hc'.symm.trans hv)
  have z := h.sz
  have z1 := b1.size
  have za : (w1.alloc o).heap.size = w1.heap.size + 1 := World.size_alloc _ _
  have z3 := hg.size
  have nb : ∀ k, v'.ownBlock = some k → k ≠ w.heap.size + 3 ∧ k ≠ w.heap.size + 4 ∧ k ≠ w.heap.size ∧ k ≠ w.heap.size + 1 := fun k e => by have := hk k e; omega
  have O : ∀ k, k < w.heap.size + 5 → k ≠ w.heap.size + 2 → w3.heap[k]? = W.heap[k]? := fun k hk5 hk2 => by
    rw [hg.block k (by omega) (fun e => by have := hk k e.symm; omega), Below.heap_alloc w1 o k (by omega)]
    exact b1.block k (by omega)
  have e0 := O w.heap.size (by omega) (by omega)
  have e1 := O (w.heap.size + 1) (by omega) (by omega)
  have e3 := O (w.heap.size + 3) (by omega) (by omega)
  have e4 := O (w.heap.size + 4) (by omega) (by omega)
  have c3 : w3.cell? ⟨w.heap.size + 3, 0, none⟩ = some v' := (World.cell?_of_block (w := W) (a := ⟨w.heap.size + 3, 0, none⟩) e3).trans hv
  have owA : ((w1.alloc o)).ownsRow (w.heap.size + 2) 36 5 v' pre.length (draw.fl (ps (pre.map tr))) := own_bel (own_bel own b1) ((Below.refl _ _).alloc (Nat.le_refl _) _)
  refine ⟨?_, ?_, ?_⟩
  · exact ((((KeepsOthers.of_grownBy (by_below b1) (fun j o e => by cases e)).trans (KeepsOthers.alloc _ _)).trans (KeepsOthers.of_grownBy hg (own_cells owA))).trans (KeepsOthers.setCell _ _ _)).from D
  · show (w3.setCell _ _).heap[w.heap.size + 4]? = _
    rw [Below.heap_setCell w3 ⟨w.heap.size + 3, 0, none⟩ v3 (w.heap.size + 4) (by show w.heap.size + 4 ≠ w.heap.size + 3; omega)]
    exact e4
  · have far : ∀ k, k ≠ w.heap.size + 3 → (w3.setCell ⟨w.heap.size + 3, 0, none⟩ v3).heap[k]? = w3.heap[k]? := fun k hk => Below.heap_setCell w3 ⟨w.heap.size + 3, 0, none⟩ v3 k hk
    have g0 := (far w.heap.size (by omega)).trans e0
    have g1 := (far (w.heap.size + 1) (by omega)).trans e1
    refine ⟨(World.cell?_of_block (w := W) (a := ⟨_, 0, none⟩) g0).trans h.r0, (World.frozen?_of_block (w := W) (a := ⟨_, 0, none⟩) g0).trans h.f0, (World.cell?_of_block (w := W) (a := ⟨_, 0, none⟩) g1).trans h.r1, (World.frozen?_of_block (w := W) (a := ⟨_, 0, none⟩) g1).trans h.f1,
      ⟨v3, World.cell?_setCell_same' _ _ _ (by rw [c3]; rfl), ?_, hn3, ?_⟩, ?_, ?_, ?_, ?_⟩
    · rw [List.length_append, List.map_append, show List.map tr [x] = [tr x] from rfl, ps_snoc, draw.fl_app, ← hp]
      refine own_kept ho (fun k o hk3 a _ => ?_)
      rw [far k (by rcases hat with e | e; rw [e] at hk3; exact (nb k hk3).1; rw [e] at hk3; injection hk3 with q; omega)]
      exact a
    · intro k hk3
      rcases hat with e | e
      · rw [e] at hk3; exact hk k hk3
      · rw [e] at hk3; injection hk3 with q; omega
    · rw [World.frozen?_setCell]
      exact (World.frozen?_of_block (w := W) (a := ⟨w.heap.size + 3, 0, none⟩) e3).trans h.f3
    · have b0 : Below w.heap.size w w1 := h.bw.trans (b1.mono (by omega))
      exact ((b0.alloc b0.size o).grown hg (by omega) (fun k e => by have := hk k e; omega)).setCell (p := ⟨w.heap.size + 3, 0, none⟩) (by show w.heap.size ≤ w.heap.size + 3; omega) v3
    · rw [World.size_setCell]; omega
    · rw [List.map_append]
      refine okl_iff.2 fun y hy => ?_
      rcases List.mem_append.1 hy with hy | hy
      · exact okl_iff.1 h.ok y hy
      · rw [List.mem_singleton.1 hy]; exact ht
end Go.Proofs.YtpogfdeioibkdaaGreatDoor.ptm

namespace Go.Proofs.YtpogfdeioibkdaaGreatDoor.ptm
open Go.ChangeShapes Go.WideShapes Go.ChangeAt Go.RowKit
open led (F5 z5)
open five (Row)
open Go.Shelf
attribute [local go_sem] Oper.semAt_some
set_option maxRecDepth 100000 in
set_option maxHeartbeats 8000000 in
theorem rlI (L : List UInt8) (w : World) (hL : L.length ≤ 1048576) (cu : cur.Cur w) (po : Pow w) (hw : 2 < w.heap.size) (mx : Int) (hm : w.cell? ⟨1, 0, none⟩ = some (.int .i64 mx)) :
    Calls Tryz.prog 8 #[.string ⟨L.toArray⟩] w (GotR L w) := by
  have lt := cu.lt
  have RP := Lib.hid (fun (x : List UInt8) W (hx : x.length ≤ 1048576) (hb : Below w.heap.size w W) => readI x W hx (cu.below hb lt) (Pow.below po hb hw) (Nat.lt_of_lt_of_le hw hb.size) mx ((hb.cell (p := ⟨1, 0, none⟩) (by show 1 < _; omega)).trans hm))
  have LT := Lib.hid (fun W (hb : Below w.heap.size w W) a c g l (r : Row W a c g l) (hn : l.length ≤ 1048577) => ltI W a c g l r hn (cu.below hb lt) (Pow.below po hb hw) (Nat.lt_of_lt_of_le hw hb.size))
  clear cu po hw hm lt
  refine (callsIn_wide (n := 8)).1 ?_
  have hro : Fence.wide.round = none := rfl
  have hw1 : Fence.wide.fn 21 := trivial
  have hw2 : Fence.wide.fn 6 := trivial
  refine callsIn_of_wp_marks Tryz.func8 rfl trivial ?_ hro
  simp only [Tryz.ntmps8, List.size_toArray, List.length_cons, List.length_nil, Nat.reduceAdd, Nat.reduceSub, Array.replicate_succ, Array.replicate_zero, List.push_toArray, List.append_toArray, List.nil_append, List.cons_append]
  gi_wp2_with fail
  refine (callsIn_wide.2 (linC _ _)).mono ?_
  rintro e w3 ⟨rfl, rfl⟩
  gi_wp2_with fail
  change Code.wpIn _ _ _ _ _ { tmps := #[.string ⟨L.toArray⟩, undef, .pointer (some ⟨w.heap.size, 0, none⟩), .pointer (some ⟨w.heap.size + 1, 0, none⟩), .pointer (some ⟨w.heap.size + 3, 0, none⟩), undef, undef, undef, .slice (some ⟨w.heap.size + 2, 0, none⟩) 0 0, .string ⟨L.toArray⟩, .func (.func 48) #[] #[.pointer (some ⟨w.heap.size + 4, 0, none⟩)], undef, undef, undef, undef, undef, undef, undef, undef, undef, undef, undef, undef, undef, undef, undef, undef, undef, undef], defers := [] } (W0 w L)
  have IV := Lib.hid (RI.start w L)
  have zW := W0_size w L
  have cB := (cell_heap (W0_heap w L).2.2.2.2).1
  have fB := (cell_heap (W0_heap w L).2.2.2.2).2
  generalize W0 w L = WW at IV zW cB fB ⊢
  obtain ⟨i0, hi, hz0, hz1, hz2⟩ := info_parts five.infoE
  refine rf.rangeB hro (by omega) (gf := 48) (lb := #[.pointer (some ⟨w.heap.size + 4, 0, none⟩)]) rfl trivial (enters_of Tryz.func48 (by kernel_rfl) rfl)
    (lnIt 7 (by omega) (w.heap.size + 4) L hL) (by omega) cB fB (fun _ => rfl)
    (fun pre W => RI w pre W)
    (fun c _ W => c = .ret ∧ RY w L W)
    (fun x a' _ => a' = { tmps := #[.string ⟨L.toArray⟩, undef, .pointer (some ⟨w.heap.size, 0, none⟩), .pointer (some ⟨w.heap.size + 1, 0, none⟩), .pointer (some ⟨w.heap.size + 3, 0, none⟩), .string ⟨x.toArray⟩, undef, undef, .slice (some ⟨w.heap.size + 2, 0, none⟩) 0 0, .string ⟨L.toArray⟩, .func (.func 48) #[] #[.pointer (some ⟨w.heap.size + 4, 0, none⟩)], .string ⟨x.toArray⟩, undef, undef, undef, undef, undef, undef, undef, undef, undef, undef, undef, undef, undef, undef, undef, undef, undef], defers := [] })
    (fun s A B row hs hg hr => hs.grown hg (fun r e => ⟨by have := (hr r e).1; omega, (hr r e).2⟩))
    (fun _ s A B row hs hg hr => ⟨hs.1, hs.2.grown hg (fun r e => ⟨by have := (hr r e).1; omega, (hr r e).2⟩)⟩)
    (fun x a' s A B row hs hg hr => hs)
    (fun pre W v h => h.setB v)
    IV.out ?assign ?body ?done ?stop
  case assign =>
    rintro lp pre x W K hI hV hK
    dsimp only [encL]
    gi_wp2
    exact hK _ _ (KeepsFrom.refl _ _) rfl hI rfl
  case body =>
    rintro lp pre x a' W hI ⟨post, hV⟩ rfl
    have xm : x ∈ pc L := by rw [hV]; simp
    have xl := pc_word L x xm
    have pl : pre.length + 1 ≤ L.length := by
      have := pc_len L
      rw [hV] at this
      simp at this
      omega
    have TR := Lib.hid (show ∀ W, Calls Tryz.prog 23 #[.string ⟨x.toArray⟩, .string ⟨#[10]⟩] W (fun e w' => e = .returned (.string ⟨(tr x).toArray⟩) ∧ W = w') from fun W => (Tryz.strings_TrimSuffix ⟨x.toArray⟩ ⟨#[10]⟩ W (by show x.length ≤ _; omega)).mono (fun _ _ q => ⟨q.1, q.2.symm⟩))
    have RQ := Lib.hid (RP.out (tr x) W (Nat.le_trans (tr_le x) (by omega)) hI.bw)
    have MEM := Lib.hid (show tr x ∈ (ln L).1 from by rw [← pc_tr]; exact List.mem_map_of_mem xm)
    have INV := Lib.hid hI
    obtain ⟨v, hc, own, hne, hk⟩ := hI.li
    obtain ⟨ao, n', cap, rfl⟩ : ∃ ao n' cap, v = .slice ao n' cap := by
      rcases own.2 with ⟨hv, _⟩ | ⟨g, cap, cur, hv, _⟩
      · exact ⟨_, _, _, hv⟩
      · exact ⟨_, _, _, hv⟩
    have OWN := Lib.hid own
    have HC := Lib.hid hc
    have hz := hI.sz
    have NO := Lib.hid (fun h => rl_no (s := L) h)
    have f3 := Lib.hid hI.f3
    obtain ⟨p, hp⟩ : ∃ p, p = (rd (tr x)).1 := ⟨_, rfl⟩
    rw [← hp] at RQ
    have HP := Lib.hid hp
    clear hI hV own hc hne hk hp xm
    cases ht : (rd (tr x)).2 with
    | false =>
      rw [ht] at RQ
      unfold pv at RQ
      have N := Lib.hid (NO.out (fun q => by have := okl_iff.1 q.1 _ MEM.out; rw [ht] at this; cases this))
      gi_wp2_with (first
        | (refine ⟨trivial, ?_⟩; gi_at_call 23; refine (CallsIn.inRound lp (callsIn_wide.2 (TR.out _))).mono ?_; rintro e w' ⟨rfl, rfl⟩)
        | (refine ⟨trivial, ?_⟩; gi_at_call 22; refine (CallsIn.inRound lp (callsIn_wide.2 RQ.out)).mono ?_; rintro e w1 ⟨rfl, b1⟩; have I1 := Lib.hid ((INV.out.stay b1).stay ((Below.refl w1.heap.size w1).alloc (Nat.le_refl _) (.cells #[.int .i64 p.1, .int .i64 p.2.1, .int .i64 p.2.2.1, .int .i64 p.2.2.2.1, .int .i64 p.2.2.2.2] 36))); have y0 := I1.out.r0; have y1 := I1.out.f0; have y2 := I1.out.r1; have y3 := I1.out.f1; have B1 := Lib.hid b1; clear b1))
      exact ⟨kf _ B1.out (((KeepsOthers.alloc _ _).trans (KeepsOthers.setCell _ _ _)).trans (KeepsOthers.setCell _ _ _)), rfl, RY.of I1.out N.out⟩
    | true =>
      rw [ht] at RQ
      unfold pv at RQ
      have mm : pre.length + 1 ≤ maxLen := by unfold maxLen; omega
      have bb : (pre.length + 1) * 40 ≤ 140737488355328 := by omega
      gi_wp2_with (first
        | (refine ⟨trivial, ?_⟩; gi_at_call 23; refine (CallsIn.inRound lp (callsIn_wide.2 (TR.out _))).mono ?_; rintro e w' ⟨rfl, rfl⟩)
        | (refine ⟨trivial, ?_⟩; gi_at_call 22; refine (CallsIn.inRound lp (callsIn_wide.2 RQ.out)).mono ?_; rintro e w1 ⟨rfl, b1⟩; have BXX := Lib.hid ((show Below W.heap.size W (w1.alloc (.cells #[.int .i64 p.1, .int .i64 p.2.1, .int .i64 p.2.2.1, .int .i64 p.2.2.2.1, .int .i64 p.2.2.2.2] 36)) from b1.alloc b1.size _)); have c3 := (World.cell?_of_block (w := W) (a := ⟨w.heap.size + 3, 0, none⟩) (BXX.out.block (w.heap.size + 3) (by omega))).trans HC.out; have OX := Lib.hid (own_bel OWN.out BXX.out); have PBX := Lib.hid (PF.new w1 p 36); have v0 := PBX.out.pb.c0; have v1 := PBX.out.pb.c1; have v2 := PBX.out.pb.c2; have v3 := PBX.out.pb.c3; have v4 := PBX.out.pb.c4; have z1 := b1.size; have zX : (w1.alloc (.cells #[.int .i64 p.1, .int .i64 p.2.1, .int .i64 p.2.2.1, .int .i64 p.2.2.2.1, .int .i64 p.2.2.2.2] 36)).heap.size = w1.heap.size + 1 := World.size_alloc _ _; clear b1)
        | (gi_at_builtin; refine wpListIn_append_own_at _ rfl _ _ 24 rfl (w.heap.size + 2) 36 i0 (.agg #[.int .i64 0, .int .i64 0, .int .i64 0, .int .i64 0, .int .i64 0]) 5 40 Tryz.underlying24 hi hz0 hz1 hz2 rfl (by decide) _ _ _ rfl (OX.out.alloc _) ⟨w1.heap.size + 1, 0, none⟩ 1 1 [.int .i64 p.1, .int .i64 p.2.1, .int .i64 p.2.2.1, .int .i64 p.2.2.2.1, .int .i64 p.2.2.2.2] rfl rfl ?c1 ?c2 ?c3 ?c4 ?c5 ?_))
      case c1 => have q := draw.news5 (w1.alloc (.cells #[.int .i64 p.1, .int .i64 p.2.1, .int .i64 p.2.2.1, .int .i64 p.2.2.2.1, .int .i64 p.2.2.2.2] 36)) p; rw [zX] at q; exact q
      case c2 => exact draw.one5 p
      case c3 => exact mm
      case c4 => exact bb
      case c5 => simp; omega
      intro v' w5 hown' hgrow hnil hat
      have hn' : v' ≠ .slice none 0 0 := hnil
      obtain ⟨ao', n'', cap', rfl⟩ : ∃ ao n' cap, v' = .slice ao n' cap := by
        rcases hown'.2 with ⟨hv, _⟩ | ⟨g, cap, cur, hv, _⟩
        · exact ⟨_, _, _, hv⟩
        · exact ⟨_, _, _, hv⟩
      have ST := Lib.hid (RI.step (x := x) WW.heap.size INV.out HP.out ht HC.out BXX.out hgrow hn' hown' (by rw [World.size_alloc, zX]; exact hat))
      have e3 : w5.cell? ⟨w.heap.size + 3, 0, none⟩ = some (.slice ao n' cap) ∧ w5.frozen? ⟨w.heap.size + 3, 0, none⟩ = false := by
        obtain ⟨v', hc', _, _, hk'⟩ := INV.out.li
        have hvv := Option.some.inj (hc'.symm.trans HC.out)
        subst hvv
        have e : w5.heap[w.heap.size + 3]? = W.heap[w.heap.size + 3]? := by
          rw [hgrow.block (w.heap.size + 3) (by simp; omega) (fun e => by have := hk' _ e.symm; omega), Below.heap_alloc _ _ _ (by omega)]
          exact BXX.out.block _ (by omega)
        exact ⟨(World.cell?_of_block (w := W) (a := ⟨_, 0, none⟩) e).trans HC.out, (World.frozen?_of_block (w := W) (a := ⟨_, 0, none⟩) e).trans f3.out⟩
      obtain ⟨e31, e32⟩ := e3
      clear hown' hgrow hnil hat c3 v0 v1 v2 v3 v4
      gi_wp2
      exact ⟨ST.out.1, ST.out.2.1, ST.out.2.2⟩
  case done =>
    rintro xs W D hD hK rfl hI
    obtain ⟨v, hc, own, hne, hk⟩ := hI.li
    have PT := pc_tr L
    have lp : (pc L).length = (ps (ln L).1).length := by rw [ps_len, ← PT, List.length_map]
    rw [PT, lp] at own
    obtain ⟨co, go, rfl, RO, lo, up⟩ := draw.of_owns5n (l := ps (ln L).1) own hne
    have OK := Lib.hid (show okl (ln L).1 = true from by have := hI.ok; rwa [PT] at this)
    have EQ := Lib.hid (ltxt_eq OK.out)
    have RR := Lib.hid RO
    have LG := Lib.hid (LT.out W hI.bw (some ⟨go, 0, none⟩) co go (ps (ln L).1) RO (by rw [ps_len]; have := ln_len L; omega))
    have HI := Lib.hid hI
    have HC := Lib.hid hc
    have HD := Lib.hid hK
    have zs := hI.sz
    have YE := Lib.hid (fun h2 h3 => rl_yes (s := L) OK.out h2 h3)
    have NO := Lib.hid (fun h => rl_no (s := L) h)
    clear own hne hk RO hI
    obtain ⟨n, hn⟩ : ∃ n, n = (ps (ln L).1).length := ⟨_, rfl⟩
    have HN := Lib.hid hn
    rw [← hn] at LG hc HC
    clear hn PT lp
    obtain ⟨tx, htx⟩ : ∃ tx, tx = ltxt (ps (ln L).1) := ⟨_, rfl⟩
    have HTX := Lib.hid htx
    rw [← htx] at LG EQ
    clear htx hK
    gi_wp2_with fail
    refine (callsIn_wide.2 LG.out).mono ?_
    rintro e w6 ⟨rfl, b6⟩
    have I6 := Lib.hid (HI.out.stay b6)
    have D6 := Lib.hid ((b6.block D (Array.getElem?_eq_some_iff.1 HD.out).1).trans HD.out)
    have c6 := (World.cell?_of_block (w := W) (a := ⟨w.heap.size + 3, 0, none⟩) (b6.block (w.heap.size + 3) (by omega))).trans HC.out
    have R6 := Lib.hid (RR.out.keep (w' := w6) (fun _ => b6.block go up))
    have z6 := b6.size
    have y0 := I6.out.r0
    have y1 := I6.out.f0
    have y2 := I6.out.r1
    have y3 := I6.out.f1
    clear b6 hc
    cases hq : (tx == L) with
    | true =>
      have q2 : tx = L := by simpa using hq
      obtain ⟨h2, h3⟩ := (EQ.out).1 q2
      have Y := Lib.hid (YE.out h2 h3)
      have c0 : (w6.setCell ⟨w.heap.size, 0, none⟩ (.slice (some ⟨go, 0, none⟩) n co)).cell? ⟨w.heap.size, 0, none⟩ = some (.slice (some ⟨go, 0, none⟩) n co) := World.cell?_setCell_same' _ _ _ (by rw [y0]; rfl)
      have c1 : (w6.setCell ⟨w.heap.size, 0, none⟩ (.slice (some ⟨go, 0, none⟩) n co)).cell? ⟨w.heap.size + 1, 0, none⟩ = some (.bool false) := (World.cell?_setCell_far _ _ _ _ (by show w.heap.size ≠ w.heap.size + 1; omega)).trans y2
      have d0 := Lib.hid ((World.cell?_setCell_far (w6.setCell ⟨w.heap.size, 0, none⟩ (.slice (some ⟨go, 0, none⟩) n co)) ⟨w.heap.size + 1, 0, none⟩ ⟨w.heap.size, 0, none⟩ (.bool true) (by show w.heap.size + 1 ≠ w.heap.size; omega)).trans c0)
      have d1 := Lib.hid (World.cell?_setCell_same' (w6.setCell ⟨w.heap.size, 0, none⟩ (.slice (some ⟨go, 0, none⟩) n co)) ⟨w.heap.size + 1, 0, none⟩ (.bool true) (by rw [c1]; rfl))
      have BZ := Lib.hid ((I6.out.bw.setCell (p := ⟨w.heap.size, 0, none⟩) (Nat.le_refl _) (.slice (some ⟨go, 0, none⟩) n co)).setCell (p := ⟨w.heap.size + 1, 0, none⟩) (by show w.heap.size ≤ w.heap.size + 1; omega) (.bool true))
      have far : ∀ k, w.heap.size + 1 < k → ((w6.setCell ⟨w.heap.size, 0, none⟩ (.slice (some ⟨go, 0, none⟩) n co)).setCell ⟨w.heap.size + 1, 0, none⟩ (.bool true)).heap[k]? = w6.heap[k]? := fun k hk => (Below.heap_setCell _ ⟨w.heap.size + 1, 0, none⟩ _ k (by show k ≠ w.heap.size + 1; omega)).trans (Below.heap_setCell w6 ⟨w.heap.size, 0, none⟩ _ k (by show k ≠ w.heap.size; omega))
      have DX := Lib.hid ((far D (by omega)).trans D6.out)
      have RZ := Lib.hid (R6.out.keep (fun _ => far go (by omega)))
      have GD := Lib.hid (show 0 < (ps (ln L).1).length → go ≠ D from fun h e => by
        obtain ⟨o, ho, hoc⟩ := cells_of_cell (R6.out.cells 0 h).c0
        rw [show (⟨go, 0 * 5, none⟩ : Addr).block = D from e, D6.out] at ho
        cases ho
        cases hoc)
      have sZ : ((w6.setCell ⟨w.heap.size, 0, none⟩ (.slice (some ⟨go, 0, none⟩) n co)).setCell ⟨w.heap.size + 1, 0, none⟩ (.bool true)).heap.size = w6.heap.size := by rw [World.size_setCell, World.size_setCell]
      clear c0 c1 far q2
      gi_wp2
      generalize (w6.setCell ⟨w.heap.size, 0, none⟩ (.slice (some ⟨go, 0, none⟩) n co)).setCell ⟨w.heap.size + 1, 0, none⟩ (.bool true) = WZ at d0 d1 BZ DX RZ sZ ⊢
      refine ⟨by simp, .inl ⟨_, _, rfl, run_takeDeferred DX.out, ?_⟩⟩
      have p0 := fun o => put_cell (D := D) o d0.out (by omega)
      have p1 := fun o => put_cell (D := D) o d1.out (by omega)
      refine ⟨.tuple #[.slice (some ⟨go, 0, none⟩) n co, .bool true], by simp [results, Tryz.f8, go_sem, p0, p1], some ⟨go, 0, none⟩, co, go, ?_, ?_, ?_, below_put BZ.out (by omega) _⟩
      · rw [Y.out]
        show _ = Ending.returned (.tuple #[.slice _ (ps (ln L).1).length co, _])
        rw [← HN.out]
      · rw [Y.out]
        exact RZ.out.keep (fun h => World.putObj_heap_other (GD.out h))
      · intro _
        refine ⟨by omega, ?_⟩
        rw [show (World.putObj WZ D _).heap.size = WZ.heap.size from by simp [World.putObj]]
        omega
    | false =>
      have N := Lib.hid (NO.out (fun q => by
        have := (EQ.out).2 ⟨q.2.1, q.2.2⟩
        rw [this] at hq
        simp at hq))
      have RYY := Lib.hid (RY.of I6.out N.out)
      have DX := Lib.hid (show ((w6.setCell ⟨w.heap.size, 0, none⟩ (.slice none 0 0)).setCell ⟨w.heap.size + 1, 0, none⟩ (.bool false)).heap[D]? = _ from ((Below.heap_setCell _ ⟨w.heap.size + 1, 0, none⟩ _ D (by show D ≠ w.heap.size + 1; omega)).trans (Below.heap_setCell w6 ⟨w.heap.size, 0, none⟩ _ D (by show D ≠ w.heap.size; omega))).trans D6.out)
      gi_wp2
      generalize (w6.setCell ⟨w.heap.size, 0, none⟩ (.slice none 0 0)).setCell ⟨w.heap.size + 1, 0, none⟩ (.bool false) = WZ at RYY DX ⊢
      refine ⟨by simp, .inl ⟨_, _, rfl, run_takeDeferred DX.out, ?_⟩⟩
      have p0 := fun o => put_cell (D := D) o RYY.out.r0 (by omega)
      have p1 := fun o => put_cell (D := D) o RYY.out.r1 (by omega)
      exact ⟨.tuple #[.slice none 0 0, .bool false], by simp [results, Tryz.f8, go_sem, p0, p1], gotR_no N.out (below_put RYY.out.bw (by omega) _)⟩
  case stop =>
    rintro c pre W D hD hK ⟨rfl, hY⟩
    gi_wp2
    refine ⟨by simp, .inl ⟨_, _, rfl, run_takeDeferred hK, ?_⟩⟩
    have p0 := fun o => put_cell (D := D) o hY.r0 (by omega)
    have p1 := fun o => put_cell (D := D) o hY.r1 (by omega)
    exact ⟨.tuple #[.slice none 0 0, .bool false], by simp [results, Tryz.f8, go_sem, p0, p1], gotR_no hY.no (below_put hY.bw (by omega) _)⟩
end Go.Proofs.YtpogfdeioibkdaaGreatDoor.ptm
