/-
  Plain helpers of this seat's proofs: the landed function that reads a ledger. Conditions: none.
-/
import Derived.Test.YtpogfdeioibkdaaDoorRlj
namespace Go.Proofs.YtpogfdeioibkdaaDoor.ptm
open Go.ChangeShapes Go.WideShapes Go.ChangeAt Go.RowKit
open led (F5 z5)
open five (Row)
open Go.Shelf
attribute [local go_sem] Oper.semAt_some
theorem pc_word : ∀ (l : List UInt8) (w : List UInt8), w ∈ pc l → w.length ≤ l.length := by
  intro l
  induction l with
  | nil => intro w h; simp [pc] at h
  | cons b l ih =>
    intro w h
    simp only [pc] at h
    split at h
    · rcases List.mem_cons.1 h with h | h
      · subst h; simp
      · have := ih w h; simp; omega
    · cases q : pc l with
      | nil => rw [q] at h; simp at h; subst h; simp
      | cons v r =>
        rw [q] at h
        rcases List.mem_cons.1 h with h | h
        · subst h; have := ih v (by rw [q]; simp); simp; omega
        · have := ih w (by rw [q]; exact List.mem_cons_of_mem _ h); simp; omega
theorem pc_len (l : List UInt8) : (pc l).length ≤ l.length := by
  have := ln_len l
  rw [← pc_tr, List.length_map] at this
  exact this
/-- What holds when a round ends the function. -/
structure RY (w : World) (L : List UInt8) (W : World) : Prop where
  r0 : W.cell? ⟨w.heap.size, 0, none⟩ = some (.slice none 0 0)
  r1 : W.cell? ⟨w.heap.size + 1, 0, none⟩ = some (.bool false)
  bw : Below w.heap.size w W
  no : rl L = ([], false)
  sz : w.heap.size + 5 ≤ W.heap.size
theorem RY.grown {w A B : World} {L : List UInt8} {row : Option Nat} (h : RY w L A) (hg : A.grownBy B row) (hr : ∀ r, row = some r → w.heap.size ≤ r ∧ ∃ o : Obj, A.heap[r]? = some o ∧ o.isCells = false) : RY w L B := by
  have key : ∀ (k : Nat) (o : Obj), A.heap[k]? = some o → o.isCells = true → B.heap[k]? = some o := fun k o ho hoc => by
    rw [hg.block k (Array.getElem?_eq_some_iff.1 ho).1 (fun e => by
      obtain ⟨o', ho', hc'⟩ := (hr k e.symm).2
      rw [ho] at ho'
      cases ho'
      rw [hoc] at hc'
      cases hc')]
    exact ho
  exact ⟨(World.cell?_of_block (w := A) (a := ⟨_, 0, none⟩) (heap_cell h.r0 (key _))).trans h.r0, (World.cell?_of_block (w := A) (a := ⟨_, 0, none⟩) (heap_cell h.r1 (key _))).trans h.r1, h.bw.grown hg h.bw.size (fun k e => (hr k e).1), h.no, Nat.le_trans h.sz hg.size⟩
theorem RY.of {w W : World} {L : List UInt8} {pre : List (List UInt8)} (h : RI w pre W) (no : rl L = ([], false)) : RY w L ((W.setCell ⟨w.heap.size, 0, none⟩ (.slice none 0 0)).setCell ⟨w.heap.size + 1, 0, none⟩ (.bool false)) := by
  have z := h.sz
  have c1 : (W.setCell ⟨w.heap.size, 0, none⟩ (.slice none 0 0)).cell? ⟨w.heap.size + 1, 0, none⟩ = some (.bool false) := (World.cell?_setCell_far _ _ _ _ (by show w.heap.size ≠ w.heap.size + 1; omega)).trans h.r1
  refine ⟨?_, World.cell?_setCell_same' _ _ _ (by rw [c1]; rfl), (h.bw.setCell (p := ⟨w.heap.size, 0, none⟩) (Nat.le_refl _) _).setCell (p := ⟨w.heap.size + 1, 0, none⟩) (by show w.heap.size ≤ w.heap.size + 1; omega) _, no, by rw [World.size_setCell, World.size_setCell]; exact z⟩
  rw [World.cell?_setCell_far _ _ _ _ (by show w.heap.size + 1 ≠ w.heap.size; omega)]
  exact World.cell?_setCell_same' _ _ _ (by rw [h.r0]; rfl)
theorem put_cell {W : World} {D b : Nat} {v : Value} (o : Obj) (h : W.cell? ⟨b, 0, none⟩ = some v) (hb : b ≠ D) : (W.putObj D o).cell? ⟨b, 0, none⟩ = some v := (World.cell?_of_block (w := W) (a := ⟨b, 0, none⟩) (World.putObj_heap_other hb)).trans h
theorem below_put {B D : Nat} {w W : World} (h : Below B w W) (hD : B ≤ D) (o : Obj) : Below B w (W.putObj D o) := ⟨h.os, h.tape, h.output, by simp [World.putObj]; exact h.size, fun k hk => (World.putObj_heap_other (by omega)).trans (h.block k hk)⟩
theorem kf {W w1 B : World} (D : Nat) (b1 : Below W.heap.size W w1) (h : KeepsOthers w1 B) : KeepsFrom D W B := ((KeepsOthers.of_grownBy (by_below b1) (fun j o e => by cases e)).trans h).from D
/-- One more line read. -/
theorem RI.step {w W w1 w3 : World} {pre : List (List UInt8)} {x : List UInt8} {p : F5} {v v3 : Value} {o : Obj} (D : Nat) (h : RI w pre W) (hp : p = (rd (tr x)).1) (ht : (rd (tr x)).2 = true)
    (hv : W.cell? ⟨w.heap.size + 3, 0, none⟩ = some v) (b1 : Below W.heap.size W w1) (hg : (w1.alloc o).grownBy w3 v.ownBlock) (hn3 : v3 ≠ .slice none 0 0)
    (ho : w3.ownsRow (w.heap.size + 2) 27 5 v3 (pre.length + 1) (draw.fl (ps (pre.map tr)) ++ [.int .i64 p.1, .int .i64 p.2.1, .int .i64 p.2.2.1, .int .i64 p.2.2.2.1, .int .i64 p.2.2.2.2]))
    (hat : v3.ownBlock = v.ownBlock ∨ v3.ownBlock = some (w1.alloc o).heap.size) :
    KeepsFrom D W (w3.setCell ⟨w.heap.size + 3, 0, none⟩ v3) ∧ rf.Sm (w.heap.size + 4) W (w3.setCell ⟨w.heap.size + 3, 0, none⟩ v3) ∧ RI w (pre ++ [x]) (w3.setCell ⟨w.heap.size + 3, 0, none⟩ v3) := by
  obtain ⟨v', hc', own, hn, hk⟩ := h.li
  obtain rfl : v' = v := Option.some.inj (hc'.symm.trans hv)
  have z := h.sz
  have z1 := b1.size
  have za : (w1.alloc o).heap.size = w1.heap.size + 1 := World.size_alloc _ _
  have z3 := hg.size
  have nb : ∀ k, v'.ownBlock = some k → k ≠ w.heap.size + 3 ∧ k ≠ w.heap.size + 4 ∧ k ≠ w.heap.size ∧ k ≠ w.heap.size + 1 := fun k e => by have := hk k e; omega
  have O : ∀ k, k < w.heap.size + 5 → k ≠ w.heap.size + 2 → w3.heap[k]? = W.heap[k]? := fun k hk5 hk2 => by
    rw [hg.block k (by omega) (fun e => by have := hk k e.symm; omega), Below.heap_alloc w1 o k (by omega)]
    exact b1.block k (by omega)
  have e0 := O w.heap.size (by omega) (by omega)
  have e1 := O (w.heap.size + 1) (by omega) (by omega)
  have e3 := O (w.heap.size + 3) (by omega) (by omega)
  have e4 := O (w.heap.size + 4) (by omega) (by omega)
  have c3 : w3.cell? ⟨w.heap.size + 3, 0, none⟩ = some v' := (World.cell?_of_block (w := W) (a := ⟨w.heap.size + 3, 0, none⟩) e3).trans hv
  have owA : ((w1.alloc o)).ownsRow (w.heap.size + 2) 27 5 v' pre.length (draw.fl (ps (pre.map tr))) := own_bel (own_bel own b1) ((Below.refl _ _).alloc (Nat.le_refl _) _)
  refine ⟨?_, ?_, ?_⟩
  · exact ((((KeepsOthers.of_grownBy (by_below b1) (fun j o e => by cases e)).trans (KeepsOthers.alloc _ _)).trans (KeepsOthers.of_grownBy hg (own_cells owA))).trans (KeepsOthers.setCell _ _ _)).from D
  · show (w3.setCell _ _).heap[w.heap.size + 4]? = _
    rw [Below.heap_setCell w3 ⟨w.heap.size + 3, 0, none⟩ v3 (w.heap.size + 4) (by show w.heap.size + 4 ≠ w.heap.size + 3; omega)]
    exact e4
  · have far : ∀ k, k ≠ w.heap.size + 3 → (w3.setCell ⟨w.heap.size + 3, 0, none⟩ v3).heap[k]? = w3.heap[k]? := fun k hk => Below.heap_setCell w3 ⟨w.heap.size + 3, 0, none⟩ v3 k hk
    have g0 := (far w.heap.size (by omega)).trans e0
    have g1 := (far (w.heap.size + 1) (by omega)).trans e1
    refine ⟨(World.cell?_of_block (w := W) (a := ⟨_, 0, none⟩) g0).trans h.r0, (World.frozen?_of_block (w := W) (a := ⟨_, 0, none⟩) g0).trans h.f0, (World.cell?_of_block (w := W) (a := ⟨_, 0, none⟩) g1).trans h.r1, (World.frozen?_of_block (w := W) (a := ⟨_, 0, none⟩) g1).trans h.f1,
      ⟨v3, World.cell?_setCell_same' _ _ _ (by rw [c3]; rfl), ?_, hn3, ?_⟩, ?_, ?_, ?_, ?_⟩
    · rw [List.length_append, List.map_append, show List.map tr [x] = [tr x] from rfl, ps_snoc, draw.fl_app, ← hp]
      refine own_kept ho (fun k o hk3 a _ => ?_)
      rw [far k (by rcases hat with e | e; rw [e] at hk3; exact (nb k hk3).1; rw [e] at hk3; injection hk3 with q; omega)]
      exact a
    · intro k hk3
      rcases hat with e | e
      · rw [e] at hk3; exact hk k hk3
      · rw [e] at hk3; injection hk3 with q; omega
    · rw [World.frozen?_setCell]
      exact (World.frozen?_of_block (w := W) (a := ⟨w.heap.size + 3, 0, none⟩) e3).trans h.f3
    · have b0 : Below w.heap.size w w1 := h.bw.trans (b1.mono (by omega))
      exact ((b0.alloc b0.size o).grown hg (by omega) (fun k e => by have := hk k e; omega)).setCell (p := ⟨w.heap.size + 3, 0, none⟩) (by show w.heap.size ≤ w.heap.size + 3; omega) v3
    · rw [World.size_setCell]; omega
    · rw [List.map_append]
      refine okl_iff.2 fun y hy => ?_
      rcases List.mem_append.1 hy with hy | hy
      · exact okl_iff.1 h.ok y hy
      · rw [List.mem_singleton.1 hy]; exact ht
end Go.Proofs.YtpogfdeioibkdaaDoor.ptm
