/-
  Plain helpers of this seat's proofs: slices whose elements are 4 numbers, as they lie in memory. Conditions: none.
-/
import Derived.Test.YtcpglphhhmgjkaaDoorGen
namespace Go.Proofs.YtcpglphhhmgjkaaDoor.four
open Go.ChangeShapes Go.WideShapes Go.ChangeAt Go.RowKit
open gen
abbrev F4 := Int × Int × Int × Int
def zz : F4 := (0, 0, 0, 0)
/-- The cells of memory of one element. -/
structure At (w : World) (b o : Nat) (x : F4) : Prop where
  c0 : w.cell? ⟨b, o, none⟩ = some (.int .i64 x.1)
  c1 : w.cell? ⟨b, o + 1, none⟩ = some (.int .i64 x.2.1)
  c2 : w.cell? ⟨b, o + 2, none⟩ = some (.int .i64 x.2.2.1)
  c3 : w.cell? ⟨b, o + 3, none⟩ = some (.int .i64 x.2.2.2)
theorem At.keep {w w' : World} {b o : Nat} {x : F4} (h : At w b o x) (e : w'.heap[b]? = w.heap[b]?) : At w' b o x := by
  refine ⟨?_, ?_, ?_, ?_⟩
  · rw [World.cell?_of_block (w := w) (a := ⟨b, o, none⟩) e]; exact h.c0
  · rw [World.cell?_of_block (w := w) (a := ⟨b, o + 1, none⟩) e]; exact h.c1
  · rw [World.cell?_of_block (w := w) (a := ⟨b, o + 2, none⟩) e]; exact h.c2
  · rw [World.cell?_of_block (w := w) (a := ⟨b, o + 3, none⟩) e]; exact h.c3
theorem At.lt {w : World} {b o : Nat} {x : F4} (h : At w b o x) : b < w.heap.size := by
  have h0 := h.c0
  unfold World.cell? at h0
  cases hh : w.heap[b]? with
  | none => simp [hh] at h0
  | some o => exact (Array.getElem?_eq_some_iff.1 hh).1
structure Wf (x : F4) : Prop where
  h0 : (Lit.int .i64 x.1).wf = true
  h1 : (Lit.int .i64 x.2.1).wf = true
  h2 : (Lit.int .i64 x.2.2.1).wf = true
  h3 : (Lit.int .i64 x.2.2.2).wf = true
/-- A slice that came in, wherever it lies. -/
def Inp (w : World) (a : Option Addr) (l : List F4) : Prop := ∀ i, i < l.length → ∃ c off : Nat, a = some ⟨c, off, none⟩ ∧ At w c (off + i * 4) (l.getD i zz)
theorem Inp.below {w w' : World} {a : Option Addr} {l : List F4} (h : Inp w a l) (hb : Below w.heap.size w w') : Inp w' a l := fun i hi => by
  obtain ⟨c, off, e, h1⟩ := h i hi
  exact ⟨c, off, e, h1.keep (hb.block c h1.lt)⟩

/-- A slice in block g, from the block's head on. -/
structure Row (w : World) (a : Option Addr) (cap g : Nat) (l : List F4) : Prop where
  addr : 0 < l.length → a = some ⟨g, 0, none⟩
  room : l.length ≤ cap
  cells : ∀ i, i < l.length → At w g (i * 4) (l.getD i zz)
  free : 0 < l.length → ∀ i, w.frozen? ⟨g, i, none⟩ = false
theorem Row.keep {w w' : World} {a : Option Addr} {cap g : Nat} {l : List F4} (r : Row w a cap g l) (hb : 0 < l.length → w'.heap[g]? = w.heap[g]?) : Row w' a cap g l := by
  refine ⟨r.addr, r.room, fun i hi => (r.cells i hi).keep (hb (by omega)), fun h i => ?_⟩
  rw [World.frozen?_of_block (w := w) (a := ⟨g, i, none⟩) (hb h)]; exact r.free h i
theorem Row.lt {w : World} {a : Option Addr} {cap g : Nat} {l : List F4} (r : Row w a cap g l) (h : 0 < l.length) : g < w.heap.size := (r.cells 0 h).lt
theorem Row.inp {w : World} {a : Option Addr} {cap g : Nat} {l : List F4} (r : Row w a cap g l) : Inp w a l := fun i hi =>
  ⟨g, 0, r.addr (by omega), by rw [Nat.zero_add]; exact r.cells i hi⟩
theorem Row.nil (w : World) : Row w none 0 0 [] := ⟨fun h => absurd h (by simp), Nat.le_refl _, fun i h => absurd h (by simp), fun h => absurd h (by simp)⟩
theorem At.grown {w : World} {b o : Nat} {x : F4} (h : At w b o x) (n : Nat) (os : Array Obj) : At (Go.Sort.grow (w.drewN n) os) b o x := h.keep (Go.Sort.heap_grow_old (w.drewN n) os h.lt)
theorem At.boxed (w : World) (x : F4) (t : TypeId) : At (w.alloc (.cells #[.int .i64 x.1, .int .i64 x.2.1, .int .i64 x.2.2.1, .int .i64 x.2.2.2] t)) w.heap.size 0 x :=
  ⟨box_cell (box_refl w _) 0 rfl, box_cell (box_refl w _) 1 rfl, box_cell (box_refl w _) 2 rfl, box_cell (box_refl w _) 3 rfl⟩
section
variable {H : Type} {enc : TypeId × Value → H} {P : Program} {w : World} {base : Nat} {spare : Nat → Bool} {held : Bool}
theorem openN {t : TypeId} {f0 f1 f2 f3 : Field} {fuel : Nat} {cs : List Value} {x : DataW H × List MemPlace} (ht : P.underlying t = some (.struct #[f0, f1, f2, f3])) (k0 : P.underlying f0.type = some (.int .i64)) (k1 : P.underlying f1.type = some (.int .i64)) (k2 : P.underlying f2.type = some (.int .i64)) (k3 : P.underlying f3.type = some (.int .i64))
    (s : P.cellsOf t = 4) (s0 : P.cellsOf f0.type = 1) (s1 : P.cellsOf f1.type = 1) (s2 : P.cellsOf f2.type = 1) (s3 : P.cellsOf f3.type = 1) (o0 : f0.offset = 0) (o1 : f1.offset = 1) (o2 : f2.offset = 2) (o3 : f3.offset = 3)
    (h : DataW.trod enc P w base spare held fuel t cs = some x) : ∃ y : F4, cs = [.int .i64 y.1, .int .i64 y.2.1, .int .i64 y.2.2.1, .int .i64 y.2.2.2] ∧ Wf y := by
  obtain ⟨xs, n, _, _, hl, hxl, hf⟩ := DataW.trod_struct ht h
  rw [s] at hl
  match cs, hl, xs, hxl with
  | [v0, v1, v2, v3], _, [y0, y1, y2, y3], _ =>
    have g0 := hf 0 f0 rfl
    have g1 := hf 1 f1 rfl
    have g2 := hf 2 f2 rfl
    have g3 := hf 3 f3 rfl
    simp [o0, o1, o2, o3, s0, s1, s2, s3] at g0 g1 g2 g3
    obtain ⟨a0, e0, _, w0⟩ := DataW.trod_int k0 g0
    obtain ⟨a1, e1, _, w1⟩ := DataW.trod_int k1 g1
    obtain ⟨a2, e2, _, w2⟩ := DataW.trod_int k2 g2
    obtain ⟨a3, e3, _, w3⟩ := DataW.trod_int k3 g3
    simp at e0 e1 e2 e3
    exact ⟨(a0, a1, a2, a3), by rw [e0, e1, e2, e3], ⟨w0, w1, w2, w3⟩⟩
/-- A slice of such elements that came in. -/
theorem open_rows {t e : TypeId} {v : Value} {d : DataW H} {p : List MemPlace} (ht : P.underlying t = some (.slice e)) (s : P.cellsOf e = 4)
    (op : ∀ {n : Nat} {cs : List Value} {x : DataW H × List MemPlace}, DataW.trod enc P w 0 (fun _ => true) true n e cs = some x → ∃ y : F4, cs = [.int .i64 y.1, .int .i64 y.2.1, .int .i64 y.2.2.1, .int .i64 y.2.2.2] ∧ Wf y)
    (hok : Value.okWide P w .any base t v) (h : DataW.Trod enc P w 0 (fun _ => true) true t v d p) : ∃ a cap, ∃ l : List F4, v = .slice a l.length cap ∧ l.length ≤ maxLen ∧ Inp w a l ∧ ∀ x ∈ l, Wf x := by
  obtain ⟨a, len, cap, rfl⟩ := okWide_slice ht hok
  obtain ⟨fuel, hf⟩ := h
  rcases Go.Deep.open_slice ht hf with ⟨hcs, _⟩ | ⟨x, l, c, m, n, D, Pl, hcs, _, hl, hm, hmm, _, hx⟩
  · simp [Value.cells] at hcs
    obtain ⟨rfl, rfl, rfl⟩ := hcs
    exact ⟨none, 0, [], rfl, Nat.zero_le _, fun i hi => absurd hi (by simp), fun x hx => absurd hx (by simp)⟩
  · simp [Value.cells] at hcs
    obtain ⟨rfl, rfl, rfl⟩ := hcs
    simp at hmm
    subst hmm
    have each : ∀ i : Nat, ∃ y : F4, i < m → (∀ j, j < 4 → w.cell? (x.add (i * 4 + j)) = [Value.int .i64 y.1, .int .i64 y.2.1, .int .i64 y.2.2.1, .int .i64 y.2.2.2][j]?) ∧ Wf y := by
      intro i
      by_cases hi : i < m
      · obtain ⟨cs', h1, h2⟩ := hx i hi
        obtain ⟨y, rfl, hy⟩ := op h2
        rw [s] at h1
        obtain ⟨_, _, hcell⟩ := World.cells?_some h1
        exact ⟨y, fun _ => ⟨fun j hj => by rw [← Go.Deep.add_add]; exact hcell j hj, hy⟩⟩
      · exact ⟨zz, fun h => absurd h hi⟩
    obtain ⟨Y, hY⟩ := Classical.axiomOfChoice each
    obtain ⟨b, off, spot⟩ := x
    refine ⟨some ⟨b, off, spot⟩, m, (List.range len).map Y, (by simp), (by simp; exact Nat.le_trans hl hm), fun i hi => ?_, fun x hx => ?_⟩
    · simp at hi
      have e : ((List.range len).map Y).getD i zz = Y i := by
        rw [List.getD_eq_getElem?_getD, List.getElem?_map, List.getElem?_range hi]; rfl
      rw [e]
      obtain ⟨hc, _⟩ := hY i (by omega)
      have sp : spot = none := by
        have h0 := (hY 0 (by omega)).1 0 (by omega)
        have := cell_spot (v := .int .i64 (Y 0).1) h0
        simpa [Addr.add] using this
      subst sp
      have fix : ∀ j, (⟨b, off, none⟩ : Addr).add j = ⟨b, off + j, none⟩ := fun j => by
        unfold Addr.add
        by_cases hj : j = 0 <;> simp [hj]
      have q0 := hc 0 (by omega)
      have q1 := hc 1 (by omega)
      have q2 := hc 2 (by omega)
      have q3 := hc 3 (by omega)
      rw [fix] at q0 q1 q2 q3
      refine ⟨b, off, rfl, ⟨?_, ?_, ?_, ?_⟩⟩
      · simpa using q0
      · rw [Nat.add_assoc]; simpa using q1
      · rw [Nat.add_assoc]; simpa using q2
      · rw [Nat.add_assoc]; simpa using q3
    · obtain ⟨i, hi, rfl⟩ := List.mem_map.1 hx
      exact (hY i (by have := List.mem_range.1 hi; omega)).2
end
/-- The cells of an element laid from place o on. -/
def wN (w : World) (g o : Nat) (x : F4) : World :=
  (((w.setCell ⟨g, o, none⟩ (.int .i64 x.1)).setCell ⟨g, o + 1, none⟩ (.int .i64 x.2.1)).setCell ⟨g, o + 2, none⟩ (.int .i64 x.2.2.1)).setCell ⟨g, o + 3, none⟩ (.int .i64 x.2.2.2)
def updN (A : Nat → Value) (o : Nat) (x : F4) : Nat → Value := upd (upd (upd (upd A o (.int .i64 x.1)) (o + 1) (.int .i64 x.2.1)) (o + 2) (.int .i64 x.2.2.1)) (o + 3) (.int .i64 x.2.2.2)
theorem put {w : World} {g n k : Nat} {A : Nat → Value} (h : Blk w g (n * 4) A) (hk : k < n) (x : F4) : Blk (wN w g (k * 4) x) g (n * 4) (updN A (k * 4) x) :=
  (((h.set (by omega) _).set (by omega) _).set (by omega) _).set (by omega) _
theorem put_other {w : World} {g g' n o : Nat} {A : Nat → Value} (h : Blk w g n A) (hg : g ≠ g') (x : F4) : Blk (wN w g' o x) g n A :=
  (((h.other hg _).other hg _).other hg _).other hg _
theorem below_wN {B : Nat} {w w' : World} (h : Below B w w') {g : Nat} (hg : B ≤ g) (o : Nat) (x : F4) : Below B w (wN w' g o x) :=
  (((h.setCell (p := ⟨g, o, none⟩) hg _).setCell (p := ⟨g, o + 1, none⟩) hg _).setCell (p := ⟨g, o + 2, none⟩) hg _).setCell (p := ⟨g, o + 3, none⟩) hg _
/-- The cells hold the first elements of a list. -/
def Holds (A : Nat → Value) (k : Nat) (l : List F4) : Prop := ∀ i, i < k → A (i * 4) = .int .i64 (l.getD i zz).1 ∧ A (i * 4 + 1) = .int .i64 (l.getD i zz).2.1 ∧ A (i * 4 + 2) = .int .i64 (l.getD i zz).2.2.1 ∧ A (i * 4 + 3) = .int .i64 (l.getD i zz).2.2.2
theorem Holds.put {A : Nat → Value} {k : Nat} {l : List F4} (h : Holds A k l) {x : F4} (hx : x = l.getD k zz) : Holds (updN A (k * 4) x) (k + 1) l := by
  intro j hj
  by_cases e : j = k
  · subst e
    rw [← hx]
    unfold updN upd
    refine ⟨?_, ?_, ?_, ?_⟩
    · rw [if_neg (by omega), if_neg (by omega), if_neg (by omega), if_pos rfl]
    · rw [if_neg (by omega), if_neg (by omega), if_pos rfl]
    · rw [if_neg (by omega), if_pos rfl]
    · rw [if_pos rfl]
  · obtain ⟨e0, e1, e2, e3⟩ := h j (by omega)
    have f : ∀ i, i < 4 → updN A (k * 4) x (j * 4 + i) = A (j * 4 + i) := fun i hi => by
      unfold updN upd
      rw [if_neg (by omega), if_neg (by omega), if_neg (by omega), if_neg (by omega)]
    exact ⟨(f 0 (by omega)).trans e0, (f 1 (by omega)).trans e1, (f 2 (by omega)).trans e2, (f 3 (by omega)).trans e3⟩
theorem row {w : World} {g n cap : Nat} {A : Nat → Value} {l : List F4} (h : Blk w g (n * 4) A) (hl : l.length = n) (hc : n ≤ cap) (e : Holds A n l) : Row w (some ⟨g, 0, none⟩) cap g l := by
  refine ⟨fun _ => rfl, by omega, fun i hi => ?_, fun _ i => h.free i⟩
  obtain ⟨e0, e1, e2, e3⟩ := e i (by omega)
  exact ⟨by rw [h.cell _ (by omega), e0], by rw [h.cell _ (by omega), e1], by rw [h.cell _ (by omega), e2], by rw [h.cell _ (by omega), e3]⟩
end Go.Proofs.YtcpglphhhmgjkaaDoor.four
