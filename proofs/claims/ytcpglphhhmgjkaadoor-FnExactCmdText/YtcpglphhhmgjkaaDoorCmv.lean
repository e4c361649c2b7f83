/-
  Plain helpers of this seat's proofs: commands as values. Conditions: none.
-/
import Derived.Test.YtcpglphhhmgjkaaDoorOpI4
import Derived.Test.YtcpglphhhmgjkaaDoorBxs
import Derived.Test.YtcpglphhhmgjkaaDoorLift
namespace Go.Proofs.YtcpglphhhmgjkaaDoor.cm
open Go.ChangeShapes Go.WideShapes Go.ChangeAt Go.RowKit
open gen
open four (F4)
/-- The cells of a command but the items. -/
structure Sc where
  k : Int
  key : ByteArray
  a : Int
  b : Int
  c : Int
  d : Int
  e : Int
  f : Int
/-- A command in block b. -/
structure CB (w : World) (b : Nat) (s : Sc) (ai : Option Addr) (ni ci : Nat) : Prop where
  c0 : w.cell? ⟨b, 0, none⟩ = some (.int .i64 s.k)
  c1 : w.cell? ⟨b, 1, none⟩ = some (.string s.key)
  c2 : w.cell? ⟨b, 2, none⟩ = some (.int .i64 s.a)
  c3 : w.cell? ⟨b, 3, none⟩ = some (.int .i64 s.b)
  c4 : w.cell? ⟨b, 4, none⟩ = some (.int .i64 s.c)
  c5 : w.cell? ⟨b, 5, none⟩ = some (.int .i64 s.d)
  c6 : w.cell? ⟨b, 6, none⟩ = some (.int .i64 s.e)
  c7 : w.cell? ⟨b, 7, none⟩ = some (.int .i64 s.f)
  c8 : w.cell? ⟨b, 8, none⟩ = some (.slice ai ni ci)
theorem cell_lt {w : World} {g i : Nat} {v : Value} (h : w.cell? ⟨g, i, none⟩ = some v) : g < w.heap.size := by
  unfold World.cell? at h
  cases hh : w.heap[g]? with
  | none => simp [hh] at h
  | some o => exact (Array.getElem?_eq_some_iff.1 hh).1
theorem CB.lt {w : World} {b : Nat} {s : Sc} {ai : Option Addr} {ni ci : Nat} (h : CB w b s ai ni ci) : b < w.heap.size := cell_lt h.c0
theorem CB.keep {w w' : World} {b : Nat} {s : Sc} {ai : Option Addr} {ni ci : Nat} (h : CB w b s ai ni ci) (e : w'.heap[b]? = w.heap[b]?) : CB w' b s ai ni ci :=
  ⟨(World.cell?_of_block (w := w) (a := ⟨b, 0, none⟩) e).trans h.c0, (World.cell?_of_block (w := w) (a := ⟨b, 1, none⟩) e).trans h.c1, (World.cell?_of_block (w := w) (a := ⟨b, 2, none⟩) e).trans h.c2, (World.cell?_of_block (w := w) (a := ⟨b, 3, none⟩) e).trans h.c3, (World.cell?_of_block (w := w) (a := ⟨b, 4, none⟩) e).trans h.c4, (World.cell?_of_block (w := w) (a := ⟨b, 5, none⟩) e).trans h.c5, (World.cell?_of_block (w := w) (a := ⟨b, 6, none⟩) e).trans h.c6, (World.cell?_of_block (w := w) (a := ⟨b, 7, none⟩) e).trans h.c7, (World.cell?_of_block (w := w) (a := ⟨b, 8, none⟩) e).trans h.c8⟩
theorem CB.new (w : World) (s : Sc) (ai : Option Addr) (ni ci : Nat) (t : TypeId) : CB (w.alloc (.cells #[.int .i64 s.k, .string s.key, .int .i64 s.a, .int .i64 s.b, .int .i64 s.c, .int .i64 s.d, .int .i64 s.e, .int .i64 s.f, .slice ai ni ci] t)) w.heap.size s ai ni ci :=
  ⟨box_cell (box_refl w _) 0 rfl, box_cell (box_refl w _) 1 rfl, box_cell (box_refl w _) 2 rfl, box_cell (box_refl w _) 3 rfl, box_cell (box_refl w _) 4 rfl, box_cell (box_refl w _) 5 rfl, box_cell (box_refl w _) 6 rfl, box_cell (box_refl w _) 7 rfl, box_cell (box_refl w _) 8 rfl⟩
section
variable {H : Type} {enc : TypeId × Value → H} {P : Program} {w : World}
theorem open_gen {α : Type} {n : Nat} {t e : TypeId} {fuel : Nat} {cs : List Value} {x0 : DataW H × List MemPlace} (ht : P.underlying t = some (.slice e)) (s : P.cellsOf e = n) (hn : 0 < n) (R : List Value → α → Prop) (z : α)
    (op : ∀ {m : Nat} {cs : List Value} {x : DataW H × List MemPlace}, DataW.trod enc P w 0 (fun _ => true) true m e cs = some x → ∃ y, R cs y)
    (h : DataW.trod enc P w 0 (fun _ => true) true fuel t cs = some x0) :
    ∃ a cap, ∃ l : List α, cs = [.slice a l.length cap] ∧ l.length ≤ maxLen ∧ ∀ i, i < l.length → ∃ c off : Nat, a = some ⟨c, off, none⟩ ∧ ∃ cs', R cs' (l.getD i z) ∧ ∀ j, j < n → w.cell? ⟨c, off + (i * n + j), none⟩ = cs'[j]? := by
  rcases Go.Deep.open_slice ht h with ⟨rfl, _⟩ | ⟨x, len, cap, m, k, D, Pl, rfl, _, hl, hm, hmm, _, hx⟩
  · exact ⟨none, 0, [], rfl, Nat.zero_le _, fun i hi => absurd hi (by simp)⟩
  · simp at hmm
    subst hmm
    rw [s] at hx
    have each : ∀ i : Nat, ∃ y : α × List Value, i < m → R y.2 y.1 ∧ y.2.length = n ∧ ∀ j, j < n → w.cell? (x.add (i * n + j)) = y.2[j]? := by
      intro i
      by_cases hi : i < m
      · obtain ⟨cs', h1, h2⟩ := hx i hi
        obtain ⟨y, hy⟩ := op h2
        obtain ⟨_, hlen, hcell⟩ := World.cells?_some h1
        exact ⟨(y, cs'), fun _ => ⟨hy, hlen, fun j hj => by rw [← Go.Deep.add_add]; exact hcell j hj⟩⟩
      · exact ⟨(z, []), fun h => absurd h hi⟩
    obtain ⟨Y, hY⟩ := Classical.axiomOfChoice each
    obtain ⟨b, off, spot⟩ := x
    refine ⟨some ⟨b, off, spot⟩, m, (List.range len).map fun i => (Y i).1, (by simp), (by simp; exact Nat.le_trans hl hm), fun i hi => ?_⟩
    simp at hi
    have e : ((List.range len).map fun i => (Y i).1).getD i z = (Y i).1 := by
      rw [List.getD_eq_getElem?_getD, List.getElem?_map, List.getElem?_range hi]; rfl
    rw [e]
    obtain ⟨h1, h2, h3⟩ := hY i (by omega)
    have sp : spot = none := by
      obtain ⟨_, q2, q3⟩ := hY 0 (by omega)
      have h0 := q3 0 hn
      rw [List.getElem?_eq_getElem (by omega : 0 < (Y 0).2.length)] at h0
      have := cell_spot h0
      simpa [Addr.add] using this
    subst sp
    have fix : ∀ j, (⟨b, off, none⟩ : Addr).add j = ⟨b, off + j, none⟩ := fun j => by
      unfold Addr.add
      by_cases hj : j = 0 <;> simp [hj]
    exact ⟨b, off, rfl, (Y i).2, h1, fun j hj => by rw [← fix]; exact h3 j hj⟩
end
section
variable {H : Type} {enc : TypeId × Value → H} {w : World}
theorem open_items {fuel : Nat} {cs : List Value} {x0 : DataW H × List MemPlace} (h : DataW.trod enc Tryd.prog w 0 (fun _ => true) true fuel 22 cs = some x0) :
    ∃ a cap, ∃ l : List F4, cs = [.slice a l.length cap] ∧ l.length ≤ maxLen ∧ four.Inp w a l := by
  obtain ⟨a, cap, l, e, hl, hc⟩ := open_gen (P := Tryd.prog) (n := 4) Tryd.underlying22 four.cP (by omega) (fun cs (y : F4) => cs = [.int .i64 y.1, .int .i64 y.2.1, .int .i64 y.2.2.1, .int .i64 y.2.2.2]) four.zz (fun h => by obtain ⟨y, e, _⟩ := four.part_cells h; exact ⟨y, e⟩) h
  refine ⟨a, cap, l, e, hl, fun i hi => ?_⟩
  obtain ⟨c, off, rfl, cs', rfl, hj⟩ := hc i hi
  have q0 := hj 0 (by omega)
  have q1 := hj 1 (by omega)
  have q2 := hj 2 (by omega)
  have q3 := hj 3 (by omega)
  refine ⟨c, off, rfl, ⟨?_, ?_, ?_, ?_⟩⟩
  · simpa using q0
  · rw [Nat.add_assoc]; simpa using q1
  · rw [Nat.add_assoc]; simpa using q2
  · rw [Nat.add_assoc]; simpa using q3
theorem cIs : Tryd.prog.cellsOf 22 = 1 := by kernel_rfl
theorem c9 : Tryd.prog.cellsOf 9 = 1 := by kernel_rfl
theorem cCm : Tryd.prog.cellsOf 24 = 9 := by kernel_rfl
set_option maxRecDepth 100000 in
set_option maxHeartbeats 2000000 in
/-- A command that came in. -/
theorem cmd_cells {fuel : Nat} {cs : List Value} {x0 : DataW H × List MemPlace} (h : DataW.trod enc Tryd.prog w 0 (fun _ => true) true fuel 24 cs = some x0) :
    ∃ (s : Sc) (ai : Option Addr) (ci : Nat) (l : List F4),
      cs = [.int .i64 s.k, .string s.key, .int .i64 s.a, .int .i64 s.b, .int .i64 s.c, .int .i64 s.d, .int .i64 s.e, .int .i64 s.f, .slice ai l.length ci] ∧ s.key.size ≤ maxLen ∧
      l.length ≤ maxLen ∧ four.Inp w ai l := by
  obtain ⟨xs, n, _, _, hl, hxl, hf⟩ := DataW.trod_struct Tryd.underlying24 h
  rw [cCm] at hl
  match cs, hl, xs, hxl with
  | [v0, v1, v2, v3, v4, v5, v6, v7, v8], _, [y0, y1, y2, y3, y4, y5, y6, y7, y8], _ =>
    have g0 := hf 0 _ rfl
    have g1 := hf 1 _ rfl
    have g2 := hf 2 _ rfl
    have g3 := hf 3 _ rfl
    have g4 := hf 4 _ rfl
    have g5 := hf 5 _ rfl
    have g6 := hf 6 _ rfl
    have g7 := hf 7 _ rfl
    have g8 := hf 8 _ rfl
    simp [four.c2, cIs, c9] at g0 g1 g2 g3 g4 g5 g6 g7 g8
    obtain ⟨a0, e0, _, _⟩ := DataW.trod_int Tryd.underlying2 g0
    obtain ⟨a2, e2, _, _⟩ := DataW.trod_int Tryd.underlying2 g2
    obtain ⟨a3, e3, _, _⟩ := DataW.trod_int Tryd.underlying2 g3
    obtain ⟨a4, e4, _, _⟩ := DataW.trod_int Tryd.underlying2 g4
    obtain ⟨a5, e5, _, _⟩ := DataW.trod_int Tryd.underlying2 g5
    obtain ⟨a6, e6, _, _⟩ := DataW.trod_int Tryd.underlying2 g6
    obtain ⟨a7, e7, _, _⟩ := DataW.trod_int Tryd.underlying2 g7
    obtain ⟨key, e1, _, hk⟩ := DataW.trod_string Tryd.underlying9 g1
    obtain ⟨ai, ci, l, e8, l8, h8⟩ := open_items g8
    simp at e0 e1 e2 e3 e4 e5 e6 e7 e8
    exact ⟨⟨a0, key, a2, a3, a4, a5, a6, a7⟩, ai, ci, l, by rw [e0, e1, e2, e3, e4, e5, e6, e7, e8], hk, l8, h8⟩
set_option maxRecDepth 100000 in
theorem open_cmd {base : Nat} {v : Value} {d : DataW H} {q : List MemPlace} (hok : Value.okWide Tryd.prog w .any base 24 v) (h : DataW.Trod enc Tryd.prog w 0 (fun _ => true) true 24 v d q) :
    ∃ (s : Sc) (ai : Option Addr) (ci : Nat) (l : List F4),
      v = .agg #[.int .i64 s.k, .string s.key, .int .i64 s.a, .int .i64 s.b, .int .i64 s.c, .int .i64 s.d, .int .i64 s.e, .int .i64 s.f, .slice ai l.length ci] ∧ s.key.size ≤ maxLen ∧ l.length ≤ maxLen ∧ four.Inp w ai l := by
  obtain ⟨cs, rfl, _⟩ := okWide_struct Tryd.underlying24 hok
  obtain ⟨fuel, hf⟩ := h
  obtain ⟨s, ai, ci, l, e, r⟩ := cmd_cells hf
  refine ⟨s, ai, ci, l, ?_, r⟩
  have e' : cs.toList = _ := e
  obtain ⟨l⟩ := cs
  simp at e'
  rw [e']
end
end Go.Proofs.YtcpglphhhmgjkaaDoor.cm
