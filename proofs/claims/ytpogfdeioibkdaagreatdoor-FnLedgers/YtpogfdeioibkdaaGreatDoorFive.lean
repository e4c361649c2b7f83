/-
  Plain helpers of this seat's proofs: slices whose elements are five numbers, as they lie in memory. Conditions: none.
-/
import Derived.Test.YtpogfdeioibkdaaGreatDoorRows
import Derived.Test.YtpogfdeioibkdaaGreatDoorLift
import Derived.Test.YtpogfdeioibkdaaGreatDoorLed
import Derived.Deep.Slices
import Derived.Deep.Strs
import Derived.Deep.QuietTactic
import Derived.BigQuiet
import Derived.Shelf.SlSortCmp.QuietGrown
namespace Go.Proofs.YtpogfdeioibkdaaGreatDoor.five
open Go.ChangeShapes Go.WideShapes Go.ChangeAt Go.RowKit
open led (F5 z5)

/-- Five numbers as a value. -/
def val (x : F5) : Value := .agg #[.int .i64 x.1, .int .i64 x.2.1, .int .i64 x.2.2.1, .int .i64 x.2.2.2.1, .int .i64 x.2.2.2.2]
/-- Five cells of memory. -/
structure At (w : World) (b o : Nat) (x : F5) : Prop where
  c0 : w.cell? ⟨b, o, none⟩ = some (.int .i64 x.1)
  c1 : w.cell? ⟨b, o + 1, none⟩ = some (.int .i64 x.2.1)
  c2 : w.cell? ⟨b, o + 2, none⟩ = some (.int .i64 x.2.2.1)
  c3 : w.cell? ⟨b, o + 3, none⟩ = some (.int .i64 x.2.2.2.1)
  c4 : w.cell? ⟨b, o + 4, none⟩ = some (.int .i64 x.2.2.2.2)
theorem At.keep {w w' : World} {b o : Nat} {x : F5} (h : At w b o x) (e : w'.heap[b]? = w.heap[b]?) : At w' b o x := by
  refine ⟨?_, ?_, ?_, ?_, ?_⟩
  · rw [World.cell?_of_block (w := w) (a := ⟨b, o, none⟩) e]; exact h.c0
  · rw [World.cell?_of_block (w := w) (a := ⟨b, o + 1, none⟩) e]; exact h.c1
  · rw [World.cell?_of_block (w := w) (a := ⟨b, o + 2, none⟩) e]; exact h.c2
  · rw [World.cell?_of_block (w := w) (a := ⟨b, o + 3, none⟩) e]; exact h.c3
  · rw [World.cell?_of_block (w := w) (a := ⟨b, o + 4, none⟩) e]; exact h.c4
theorem At.lt {w : World} {b o : Nat} {x : F5} (h : At w b o x) : b < w.heap.size := by
  have h0 := h.c0
  unfold World.cell? at h0
  cases hh : w.heap[b]? with
  | none => simp [hh] at h0
  | some o => exact (Array.getElem?_eq_some_iff.1 hh).1
/-- All five are 64-bit numbers. -/
structure Wf (x : F5) : Prop where
  h0 : (Lit.int .i64 x.1).wf = true
  h1 : (Lit.int .i64 x.2.1).wf = true
  h2 : (Lit.int .i64 x.2.2.1).wf = true
  h3 : (Lit.int .i64 x.2.2.2.1).wf = true
  h4 : (Lit.int .i64 x.2.2.2.2).wf = true

/-- A slice that came in, wherever it lies. -/
def Inp (w : World) (a : Option Addr) (l : List F5) : Prop := ∀ i, i < l.length → ∃ c off : Nat, a = some ⟨c, off, none⟩ ∧ At w c (off + i * 5) (l.getD i z5)
theorem Inp.below {w w' : World} {a : Option Addr} {l : List F5} (h : Inp w a l) (hb : Below w.heap.size w w') : Inp w' a l := fun i hi => by
  obtain ⟨c, off, e, h1⟩ := h i hi
  exact ⟨c, off, e, h1.keep (hb.block c h1.lt)⟩

/-- A slice in block g, from the block's head on. -/
structure Row (w : World) (a : Option Addr) (cap g : Nat) (l : List F5) : Prop where
  addr : 0 < l.length → a = some ⟨g, 0, none⟩
  room : l.length ≤ cap
  cells : ∀ i, i < l.length → At w g (i * 5) (l.getD i z5)
  free : 0 < l.length → ∀ i, w.frozen? ⟨g, i, none⟩ = false
theorem Row.keep {w w' : World} {a : Option Addr} {cap g : Nat} {l : List F5} (r : Row w a cap g l) (hb : 0 < l.length → w'.heap[g]? = w.heap[g]?) : Row w' a cap g l := by
  refine ⟨r.addr, r.room, fun i hi => (r.cells i hi).keep (hb (by omega)), fun h i => ?_⟩
  rw [World.frozen?_of_block (w := w) (a := ⟨g, i, none⟩) (hb h)]; exact r.free h i
theorem Row.lt {w : World} {a : Option Addr} {cap g : Nat} {l : List F5} (r : Row w a cap g l) (h : 0 < l.length) : g < w.heap.size := (r.cells 0 h).lt
theorem Row.inp {w : World} {a : Option Addr} {cap g : Nat} {l : List F5} (r : Row w a cap g l) : Inp w a l := fun i hi =>
  ⟨g, 0, r.addr (by omega), by rw [Nat.zero_add]; exact r.cells i hi⟩
theorem Row.nil (w : World) : Row w none 0 0 [] := ⟨fun h => absurd h (by simp), Nat.le_refl _, fun i h => absurd h (by simp), fun h => absurd h (by simp)⟩

theorem bAl {B : Nat} {w w' : World} (h : Below B w w') (hB : B ≤ w.heap.size) (o : Obj) : Below B w (w'.alloc o) := h.alloc (Nat.le_trans hB h.size) o

/-- Some draws later, with some blocks laid behind it. -/
def Grew (w w' : World) : Prop := ∃ q os, w' = Go.Sort.grow (w.drewN q) os
theorem Grew.alloc (w : World) (o : Obj) : Grew w (w.alloc o) := ⟨0, #[o], by rw [Go.Sort.alloc_eq_grow]; rfl⟩
theorem Grew.refl (w : World) : Grew w w := ⟨0, #[], by rw [Go.Sort.grow_empty]; rfl⟩
theorem Grew.trans {a b c : World} (h : Grew a b) (k : Grew b c) : Grew a c := by
  obtain ⟨q, os, rfl⟩ := h
  obtain ⟨q', os', rfl⟩ := k
  exact ⟨q + q', os ++ os', by show Go.Sort.grow (Go.Sort.grow ((a.drewN q).drewN q') os) os' = _; rw [Go.Sort.grow_grow, World.drewN_drewN]⟩
theorem Grew.below {w w' : World} (h : Grew w w') : Below w.heap.size w w' := by
  obtain ⟨q, os, rfl⟩ := h
  exact ⟨rfl, rfl, rfl, by simp, fun k hk => Go.Sort.heap_grow_old (w.drewN q) os hk⟩
theorem Grew.step {B : Nat} {w a b : World} (h : Below B w a) (hB : B ≤ w.heap.size) (k : Grew a b) : Below B w b := h.trans (k.below.mono (Nat.le_trans hB h.size))
/-- Five cells in every world that has grown. -/
theorem At.grown {w : World} {b o : Nat} {x : F5} (h : At w b o x) (n : Nat) (os : Array Obj) : At (Go.Sort.grow (w.drewN n) os) b o x := h.keep (Go.Sort.heap_grow_old (w.drewN n) os h.lt)
theorem Grew.drew (w : World) : Grew w w.drew := ⟨1, #[], by rw [Go.Sort.grow_empty]; rfl⟩
/-- A parameter's box, behind whatever has come. -/
theorem box_cell {w W : World} {cs : Array Value} {t : TypeId} (h : Below (w.heap.size + 1) (w.alloc (.cells cs t)) W) (i : Nat) {v : Value} (hv : cs[i]? = some v) : W.cell? ⟨w.heap.size, i, none⟩ = some v := by
  have e := h.cell (p := ⟨w.heap.size, i, none⟩) (Nat.lt_succ_self _)
  rw [e]
  unfold World.cell? World.alloc
  simp [hv]
theorem below_box {w W : World} {o : Obj} (h : Below (w.heap.size + 1) (w.alloc o) W) : Below w.heap.size w W :=
  ((Below.refl w.heap.size w).alloc (Nat.le_refl _) o).trans (h.mono (Nat.le_succ _))
theorem box_refl (w : World) (o : Obj) : Below (w.heap.size + 1) (w.alloc o) (w.alloc o) := Below.refl _ _
theorem box_step {w W W' : World} {o : Obj} (h : Below (w.heap.size + 1) (w.alloc o) W) (k : Below W.heap.size W W') : Below (w.heap.size + 1) (w.alloc o) W' :=
  h.trans (k.mono (by have := h.size; simp at this; exact this))
theorem box_al {w W : World} {o : Obj} (h : Below (w.heap.size + 1) (w.alloc o) W) (o' : Obj) : Below (w.heap.size + 1) (w.alloc o) (W.alloc o') := box_step h ((Below.refl _ _).alloc (Nat.le_refl _) _)

theorem At.boxed (w : World) (x : F5) (t : TypeId) : At (w.alloc (.cells #[.int .i64 x.1, .int .i64 x.2.1, .int .i64 x.2.2.1, .int .i64 x.2.2.2.1, .int .i64 x.2.2.2.2] t)) w.heap.size 0 x :=
  ⟨box_cell (box_refl w _) 0 rfl, box_cell (box_refl w _) 1 rfl, box_cell (box_refl w _) 2 rfl, box_cell (box_refl w _) 3 rfl, box_cell (box_refl w _) 4 rfl⟩

section
variable {H : Type} {enc : TypeId × Value → H} {P : Program} {w : World} {base : Nat} {spare : Nat → Bool} {held : Bool}
theorem open3 {t : TypeId} {f0 f1 f2 : Field} {fuel : Nat} {cs : List Value} {x : DataW H × List MemPlace} (ht : P.underlying t = some (.struct #[f0, f1, f2])) (k0 : P.underlying f0.type = some (.int .i64)) (k1 : P.underlying f1.type = some (.int .i64)) (k2 : P.underlying f2.type = some (.int .i64))
    (s : P.cellsOf t = 3) (s0 : P.cellsOf f0.type = 1) (s1 : P.cellsOf f1.type = 1) (s2 : P.cellsOf f2.type = 1) (o0 : f0.offset = 0) (o1 : f1.offset = 1) (o2 : f2.offset = 2)
    (h : DataW.trod enc P w base spare held fuel t cs = some x) : ∃ a b c : Int, cs = [.int .i64 a, .int .i64 b, .int .i64 c] ∧ (Lit.int .i64 a).wf = true ∧ (Lit.int .i64 b).wf = true ∧ (Lit.int .i64 c).wf = true := by
  obtain ⟨xs, n, _, _, hl, hxl, hf⟩ := DataW.trod_struct ht h
  rw [s] at hl
  match cs, hl, xs, hxl with
  | [v0, v1, v2], _, [y0, y1, y2], _ =>
    have g0 := hf 0 f0 rfl
    have g1 := hf 1 f1 rfl
    have g2 := hf 2 f2 rfl
    simp [o0, o1, o2, s0, s1, s2] at g0 g1 g2
    obtain ⟨a, e0, _, w0⟩ := DataW.trod_int k0 g0
    obtain ⟨b, e1, _, w1⟩ := DataW.trod_int k1 g1
    obtain ⟨c, e2, _, w2⟩ := DataW.trod_int k2 g2
    simp at e0 e1 e2
    exact ⟨a, b, c, by rw [e0, e1, e2], w0, w1, w2⟩
theorem open33 {t : TypeId} {f0 f1 f2 : Field} {fuel : Nat} {cs : List Value} {x : DataW H × List MemPlace} (ht : P.underlying t = some (.struct #[f0, f1, f2]))
    (in0 : ∀ {n : Nat} {cs : List Value} {x : DataW H × List MemPlace}, DataW.trod enc P w base spare held n f0.type cs = some x → ∃ a b c : Int, cs = [.int .i64 a, .int .i64 b, .int .i64 c] ∧ (Lit.int .i64 a).wf = true ∧ (Lit.int .i64 b).wf = true ∧ (Lit.int .i64 c).wf = true)
    (k1 : P.underlying f1.type = some (.int .i64)) (k2 : P.underlying f2.type = some (.int .i64))
    (s : P.cellsOf t = 5) (s0 : P.cellsOf f0.type = 3) (s1 : P.cellsOf f1.type = 1) (s2 : P.cellsOf f2.type = 1) (o0 : f0.offset = 0) (o1 : f1.offset = 3) (o2 : f2.offset = 4)
    (h : DataW.trod enc P w base spare held fuel t cs = some x) : ∃ y : F5, cs = [.int .i64 y.1, .int .i64 y.2.1, .int .i64 y.2.2.1, .int .i64 y.2.2.2.1, .int .i64 y.2.2.2.2] ∧ Wf y := by
  obtain ⟨xs, n, _, _, hl, hxl, hf⟩ := DataW.trod_struct ht h
  rw [s] at hl
  match cs, hl, xs, hxl with
  | [v0, v1, v2, v3, v4], _, [y0, y1, y2], _ =>
    have g0 := hf 0 f0 rfl
    have g1 := hf 1 f1 rfl
    have g2 := hf 2 f2 rfl
    simp [o0, o1, o2, s0, s1, s2] at g0 g1 g2
    obtain ⟨a, b, c, e0, w0, w1, w2⟩ := in0 g0
    obtain ⟨d, e1, _, w3⟩ := DataW.trod_int k1 g1
    obtain ⟨e, e2, _, w4⟩ := DataW.trod_int k2 g2
    simp at e0 e1 e2
    exact ⟨(a, b, c, d, e), by rw [e0.1, e0.2.1, e0.2.2, e1, e2], ⟨w0, w1, w2, w3, w4⟩⟩
theorem open5 {t : TypeId} {f0 f1 f2 f3 f4 : Field} {fuel : Nat} {cs : List Value} {x : DataW H × List MemPlace} (ht : P.underlying t = some (.struct #[f0, f1, f2, f3, f4])) (k0 : P.underlying f0.type = some (.int .i64)) (k1 : P.underlying f1.type = some (.int .i64)) (k2 : P.underlying f2.type = some (.int .i64)) (k3 : P.underlying f3.type = some (.int .i64)) (k4 : P.underlying f4.type = some (.int .i64))
    (s : P.cellsOf t = 5) (s0 : P.cellsOf f0.type = 1) (s1 : P.cellsOf f1.type = 1) (s2 : P.cellsOf f2.type = 1) (s3 : P.cellsOf f3.type = 1) (s4 : P.cellsOf f4.type = 1) (o0 : f0.offset = 0) (o1 : f1.offset = 1) (o2 : f2.offset = 2) (o3 : f3.offset = 3) (o4 : f4.offset = 4)
    (h : DataW.trod enc P w base spare held fuel t cs = some x) : ∃ y : F5, cs = [.int .i64 y.1, .int .i64 y.2.1, .int .i64 y.2.2.1, .int .i64 y.2.2.2.1, .int .i64 y.2.2.2.2] ∧ Wf y := by
  obtain ⟨xs, n, _, _, hl, hxl, hf⟩ := DataW.trod_struct ht h
  rw [s] at hl
  match cs, hl, xs, hxl with
  | [v0, v1, v2, v3, v4], _, [y0, y1, y2, y3, y4], _ =>
    have g0 := hf 0 f0 rfl
    have g1 := hf 1 f1 rfl
    have g2 := hf 2 f2 rfl
    have g3 := hf 3 f3 rfl
    have g4 := hf 4 f4 rfl
    simp [o0, o1, o2, o3, o4, s0, s1, s2, s3, s4] at g0 g1 g2 g3 g4
    obtain ⟨a, e0, _, w0⟩ := DataW.trod_int k0 g0
    obtain ⟨b, e1, _, w1⟩ := DataW.trod_int k1 g1
    obtain ⟨c, e2, _, w2⟩ := DataW.trod_int k2 g2
    obtain ⟨d, e3, _, w3⟩ := DataW.trod_int k3 g3
    obtain ⟨e, e4, _, w4⟩ := DataW.trod_int k4 g4
    simp at e0 e1 e2 e3 e4
    exact ⟨(a, b, c, d, e), by rw [e0, e1, e2, e3, e4], ⟨w0, w1, w2, w3, w4⟩⟩
theorem cell_spot {w : World} {a : Addr} {v : Value} (h : w.cell? a = some v) : a.spot = none := World.cell?_spot h
/-- A slice of fives that came in. -/
theorem open_rows {t e : TypeId} {v : Value} {d : DataW H} {p : List MemPlace} (ht : P.underlying t = some (.slice e)) (s : P.cellsOf e = 5)
    (op : ∀ {n : Nat} {cs : List Value} {x : DataW H × List MemPlace}, DataW.trod enc P w 0 (fun _ => true) true n e cs = some x → ∃ y : F5, cs = [.int .i64 y.1, .int .i64 y.2.1, .int .i64 y.2.2.1, .int .i64 y.2.2.2.1, .int .i64 y.2.2.2.2] ∧ Wf y)
    (hok : Value.okWide P w .any base t v) (h : DataW.Trod enc P w 0 (fun _ => true) true t v d p) : ∃ a cap, ∃ l : List F5, v = .slice a l.length cap ∧ l.length ≤ maxLen ∧ Inp w a l ∧ ∀ x ∈ l, Wf x := by
  obtain ⟨a, len, cap, rfl⟩ := okWide_slice ht hok
  obtain ⟨fuel, hf⟩ := h
  rcases Go.Deep.open_slice ht hf with ⟨hcs, _⟩ | ⟨x, l, c, m, n, D, Pl, hcs, _, hl, hm, hmm, _, hx⟩
  · simp [Value.cells] at hcs
    obtain ⟨rfl, rfl, rfl⟩ := hcs
    exact ⟨none, 0, [], rfl, Nat.zero_le _, fun i hi => absurd hi (by simp), fun x hx => absurd hx (by simp)⟩
  · simp [Value.cells] at hcs
    obtain ⟨rfl, rfl, rfl⟩ := hcs
    simp at hmm
    subst hmm
    have each : ∀ i : Nat, ∃ y : F5, i < m → (∀ j, j < 5 → w.cell? (x.add (i * 5 + j)) = [Value.int .i64 y.1, .int .i64 y.2.1, .int .i64 y.2.2.1, .int .i64 y.2.2.2.1, .int .i64 y.2.2.2.2][j]?) ∧ Wf y := by
      intro i
      by_cases hi : i < m
      · obtain ⟨cs', h1, h2⟩ := hx i hi
        obtain ⟨y, rfl, hy⟩ := op h2
        rw [s] at h1
        obtain ⟨_, _, hcell⟩ := World.cells?_some h1
        exact ⟨y, fun _ => ⟨fun j hj => by rw [← Go.Deep.add_add]; exact hcell j hj, hy⟩⟩
      · exact ⟨z5, fun h => absurd h hi⟩
    obtain ⟨Y, hY⟩ := Classical.axiomOfChoice each
    obtain ⟨b, off, spot⟩ := x
    refine ⟨some ⟨b, off, spot⟩, m, (List.range len).map Y, (by simp), (by simp; exact Nat.le_trans hl hm), fun i hi => ?_, fun x hx => ?_⟩
    · simp at hi
      have e : ((List.range len).map Y).getD i z5 = Y i := by
        rw [List.getD_eq_getElem?_getD, List.getElem?_map, List.getElem?_range hi]; rfl
      rw [e]
      obtain ⟨hc, _⟩ := hY i (by omega)
      have sp : spot = none := by
        have h0 := (hY 0 (by omega)).1 0 (by omega)
        have := cell_spot (v := .int .i64 (Y 0).1) h0
        simpa [Addr.add] using this
      subst sp
      have fix : ∀ j, (⟨b, off, none⟩ : Addr).add j = ⟨b, off + j, none⟩ := fun j => by
        unfold Addr.add
        by_cases hj : j = 0 <;> simp [hj]
      have q0 := hc 0 (by omega)
      have q1 := hc 1 (by omega)
      have q2 := hc 2 (by omega)
      have q3 := hc 3 (by omega)
      have q4 := hc 4 (by omega)
      rw [fix] at q0 q1 q2 q3 q4
      refine ⟨b, off, rfl, ⟨?_, ?_, ?_, ?_, ?_⟩⟩
      · simpa using q0
      · rw [Nat.add_assoc]; simpa using q1
      · rw [Nat.add_assoc]; simpa using q2
      · rw [Nat.add_assoc]; simpa using q3
      · rw [Nat.add_assoc]; simpa using q4
    · obtain ⟨i, hi, rfl⟩ := List.mem_map.1 hx
      exact (hY i (by have := List.mem_range.1 hi; omega)).2
end
/-- The first n cells of block g hold A. -/
structure Blk (w : World) (g n : Nat) (A : Nat → Value) : Prop where
  lt : g < w.heap.size
  cell : ∀ k, k < n → w.cell? ⟨g, k, none⟩ = some (A k)
  free : ∀ k, w.frozen? ⟨g, k, none⟩ = false
def upd (A : Nat → Value) (k : Nat) (v : Value) (i : Nat) : Value := if i = k then v else A i
theorem Blk.set {w : World} {g n k : Nat} {A : Nat → Value} (h : Blk w g n A) (hk : k < n) (v : Value) : Blk (w.setCell ⟨g, k, none⟩ v) g n (upd A k v) := by
  refine ⟨by simp [World.setCell]; exact h.lt, fun i hi => ?_, fun i => by rw [World.frozen?_setCell]; exact h.free i⟩
  unfold upd
  by_cases e : i = k
  · subst e
    rw [if_pos rfl]
    exact World.cell?_setCell_same' _ _ _ (by rw [h.cell i hk]; rfl)
  · rw [if_neg e]
    exact (World.cell?_setCell_other w ⟨g, k, none⟩ ⟨g, i, none⟩ _ (fun q => by injection q with q1 q2; omega)).trans (h.cell i hi)
theorem Blk.other {w : World} {g g' n k : Nat} {A : Nat → Value} (h : Blk w g n A) (hg : g ≠ g') (v : Value) : Blk (w.setCell ⟨g', k, none⟩ v) g n A :=
  ⟨by simp [World.setCell]; exact h.lt, fun i hi => (World.cell?_setCell_other w ⟨g', k, none⟩ ⟨g, i, none⟩ _ (fun q => by injection q with q1 q2; omega)).trans (h.cell i hi), fun i => by rw [World.frozen?_setCell]; exact h.free i⟩
theorem Blk.keep {w w' : World} {g n : Nat} {A : Nat → Value} (h : Blk w g n A) (e : w'.heap[g]? = w.heap[g]?) (hs : w.heap.size ≤ w'.heap.size) : Blk w' g n A :=
  ⟨Nat.lt_of_lt_of_le h.lt hs, fun i hi => by rw [World.cell?_of_block (w := w) (a := ⟨g, i, none⟩) e]; exact h.cell i hi, fun i => by rw [World.frozen?_of_block (w := w) (a := ⟨g, i, none⟩) e]; exact h.free i⟩
theorem Blk.below {w w' : World} {g n B : Nat} {A : Nat → Value} (h : Blk w g n A) (hb : Below B w w') (hg : g < B) : Blk w' g n A := h.keep (hb.block g hg) hb.size
theorem Blk.same {w : World} {g n : Nat} {A A' : Nat → Value} (h : Blk w g n A) (e : ∀ k, k < n → A' k = A k) : Blk w g n A' := ⟨h.lt, fun k hk => by rw [e k hk]; exact h.cell k hk, h.free⟩
theorem Blk.of_owns {w : World} {B e size g n cap : Nat} {xs : List Value} (h : w.ownsRow B e size (.slice (some ⟨g, 0, none⟩) n cap) n xs) : (∃ A, Blk w g (n * size) A ∧ ∀ k, k < n * size → xs[k]? = some (A k)) ∧ B ≤ g ∧ n ≤ cap := by
  obtain ⟨h1, h2⟩ := h
  rcases h2 with ⟨h2, _⟩ | ⟨g', cap', cur, hv, hg, hh, hn, hm, hs, ht⟩
  · cases h2
  · injection hv with q1 q2 q3
    injection q1 with q1
    injection q1 with q1 _ _
    subst q1 q3
    have lt : n * size ≤ cap * size := Nat.mul_le_mul_right _ hn
    have get : ∀ k, k < n * size → ∃ v, cur[k]? = some v ∧ xs[k]? = some v := fun k hk => by
      have hc : k < cur.size := by omega
      refine ⟨cur[k], Array.getElem?_eq_getElem hc, ?_⟩
      rw [← ht, List.getElem?_take, if_pos hk, Array.getElem?_toList, Array.getElem?_eq_getElem hc]
    refine ⟨⟨fun k => (cur[k]?).getD undef, ⟨(Array.getElem?_eq_some_iff.1 hh).1, fun k hk => ?_, fun k => ?_⟩, fun k hk => ?_⟩, hg, hn⟩
    · obtain ⟨v, hv, _⟩ := get k hk
      unfold World.cell?
      simp [hh, hv]
    · unfold World.frozen?
      simp [hh]
    · obtain ⟨v, hv, hx⟩ := get k hk
      rw [hx]
      show some v = some ((cur[k]?).getD undef)
      rw [hv]; rfl

/-- Five cells laid from place o on. -/
def w5 (w : World) (g o : Nat) (x : F5) : World :=
  ((((w.setCell ⟨g, o, none⟩ (.int .i64 x.1)).setCell ⟨g, o + 1, none⟩ (.int .i64 x.2.1)).setCell ⟨g, o + 2, none⟩ (.int .i64 x.2.2.1)).setCell ⟨g, o + 3, none⟩ (.int .i64 x.2.2.2.1)).setCell ⟨g, o + 4, none⟩ (.int .i64 x.2.2.2.2)
def upd5 (A : Nat → Value) (o : Nat) (x : F5) : Nat → Value := upd (upd (upd (upd (upd A o (.int .i64 x.1)) (o + 1) (.int .i64 x.2.1)) (o + 2) (.int .i64 x.2.2.1)) (o + 3) (.int .i64 x.2.2.2.1)) (o + 4) (.int .i64 x.2.2.2.2)
theorem Blk.put {w : World} {g n k : Nat} {A : Nat → Value} (h : Blk w g (n * 5) A) (hk : k < n) (x : F5) : Blk (w5 w g (k * 5) x) g (n * 5) (upd5 A (k * 5) x) :=
  ((((h.set (by omega) _).set (by omega) _).set (by omega) _).set (by omega) _).set (by omega) _
theorem Blk.put_other {w : World} {g g' n o : Nat} {A : Nat → Value} (h : Blk w g n A) (hg : g ≠ g') (x : F5) : Blk (w5 w g' o x) g n A :=
  ((((h.other hg _).other hg _).other hg _).other hg _).other hg _
theorem below_w5 {B : Nat} {w w' : World} (h : Below B w w') {g : Nat} (hg : B ≤ g) (o : Nat) (x : F5) : Below B w (w5 w' g o x) :=
  ((((h.setCell (p := ⟨g, o, none⟩) hg _).setCell (p := ⟨g, o + 1, none⟩) hg _).setCell (p := ⟨g, o + 2, none⟩) hg _).setCell (p := ⟨g, o + 3, none⟩) hg _).setCell (p := ⟨g, o + 4, none⟩) hg _
/-- The cells hold the first elements of a list. -/
def Holds (A : Nat → Value) (k : Nat) (l : List F5) : Prop := ∀ i, i < k → A (i * 5) = .int .i64 (l.getD i z5).1 ∧ A (i * 5 + 1) = .int .i64 (l.getD i z5).2.1 ∧ A (i * 5 + 2) = .int .i64 (l.getD i z5).2.2.1 ∧ A (i * 5 + 3) = .int .i64 (l.getD i z5).2.2.2.1 ∧ A (i * 5 + 4) = .int .i64 (l.getD i z5).2.2.2.2
theorem Holds.put {A : Nat → Value} {k : Nat} {l : List F5} (h : Holds A k l) {x : F5} (hx : x = l.getD k z5) : Holds (upd5 A (k * 5) x) (k + 1) l := by
  intro j hj
  by_cases e : j = k
  · subst e
    rw [← hx]
    unfold upd5 upd
    refine ⟨?_, ?_, ?_, ?_, ?_⟩
    · rw [if_neg (by omega), if_neg (by omega), if_neg (by omega), if_neg (by omega), if_pos rfl]
    · rw [if_neg (by omega), if_neg (by omega), if_neg (by omega), if_pos rfl]
    · rw [if_neg (by omega), if_neg (by omega), if_pos rfl]
    · rw [if_neg (by omega), if_pos rfl]
    · rw [if_pos rfl]
  · obtain ⟨e0, e1, e2, e3, e4⟩ := h j (by omega)
    have f : ∀ i, i < 5 → upd5 A (k * 5) x (j * 5 + i) = A (j * 5 + i) := fun i hi => by
      unfold upd5 upd
      rw [if_neg (by omega), if_neg (by omega), if_neg (by omega), if_neg (by omega), if_neg (by omega)]
    exact ⟨(f 0 (by omega)).trans e0, (f 1 (by omega)).trans e1, (f 2 (by omega)).trans e2, (f 3 (by omega)).trans e3, (f 4 (by omega)).trans e4⟩
theorem Blk.row {w : World} {g n cap : Nat} {A : Nat → Value} {l : List F5} (h : Blk w g (n * 5) A) (hl : l.length = n) (hc : n ≤ cap) (e : Holds A n l) : Row w (some ⟨g, 0, none⟩) cap g l := by
  refine ⟨fun _ => rfl, by omega, fun i hi => ?_, fun _ i => h.free i⟩
  obtain ⟨e0, e1, e2, e3, e4⟩ := e i (by omega)
  exact ⟨by rw [h.cell _ (by omega), e0], by rw [h.cell _ (by omega), e1], by rw [h.cell _ (by omega), e2], by rw [h.cell _ (by omega), e3], by rw [h.cell _ (by omega), e4]⟩
end Go.Proofs.YtpogfdeioibkdaaGreatDoor.five
