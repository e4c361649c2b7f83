/-
  Plain helpers of this seat's proofs: what the listed table of currencies gives to a walk, and the contracts of the small functions over it. Conditions: none.
-/
import Derived.Test.YtlpeadkkkmpccaaDoorCards
import Derived.Test.YtlpeadkkkmpccaaDoorTie
import Derived.Test.YtlpeadkkkmpccaaDoorLift
namespace Go.Proofs.YtlpeadkkkmpccaaDoor.base
open Go.ChangeShapes Go.WideShapes Go.ChangeAt Go.RowKit

theorem own : ownKnob Tryd.prog.godebug = none := by kernel_rfl
theorem laidOut : laidOutB Tryd.prog = true := by kernel_rfl
theorem gCur : Tryd.prog.globalNamed "loop.example/g00714/impl.currencies" = some 0 := by kernel_rfl
theorem tCur : (Tryd.prog.globals[0]?).map (·.type) = some 51 := by kernel_rfl
theorem cells9 : Tryd.prog.cellsOf 9 = 1 := by kernel_rfl
theorem cells2 : Tryd.prog.cellsOf 2 = 1 := by kernel_rfl
theorem cells50 : Tryd.prog.cellsOf 50 = 2 := by kernel_rfl
theorem cells51 : Tryd.prog.cellsOf 51 = 12 := by kernel_rfl

/-- What a pair of the table reads as says what its two cells hold. -/
theorem pair_cells {H : Type} {enc : TypeId × Value → H} {w : World} {base : Nat} {sp : Nat → Bool} {held : Bool} {m : Nat} {l : List Value} {y : DataW H × List MemPlace} {bs : List UInt8} {n : Int}
    (h : DataW.trod enc Tryd.prog w base sp held m 50 l = some y) (e : y.1 = .agg [.lit (.string bs), .lit (.int .i64 n)]) : l = [.string ⟨bs.toArray⟩, .int .i64 n] := by
  obtain ⟨y0, y1, k, rfl, hl, h0, h1⟩ := trod_struct2 Tryd.underlying50 h
  obtain ⟨s, e0, e0', _⟩ := DataW.trod_string Tryd.underlying9 h0
  obtain ⟨z, e1, e1', _⟩ := DataW.trod_int Tryd.underlying2 h1
  rw [cells50] at hl
  rw [cells9] at e0
  rw [cells2] at e1
  subst e0' e1'
  simp only [DataW.agg.injEq, List.cons.injEq, DataW.lit.injEq, Lit.string.injEq, Lit.int.injEq, true_and, and_true] at e
  obtain ⟨rfl, rfl⟩ := e
  match l, hl with
  | [a, b], _ =>
    simp at e0 e1
    subst e0 e1
    rfl

/-- The table in memory: a code and its places for each currency. -/
structure Cur (w : World) : Prop where
  lt : 0 < w.heap.size
  c0 : w.cell? ⟨0, 0, none⟩ = some (.string ⟨#[69, 85, 82]⟩)
  c1 : w.cell? ⟨0, 1, none⟩ = some (.int .i64 2)
  c2 : w.cell? ⟨0, 2, none⟩ = some (.string ⟨#[85, 83, 68]⟩)
  c3 : w.cell? ⟨0, 3, none⟩ = some (.int .i64 2)
  c4 : w.cell? ⟨0, 4, none⟩ = some (.string ⟨#[74, 80, 89]⟩)
  c5 : w.cell? ⟨0, 5, none⟩ = some (.int .i64 0)
  c6 : w.cell? ⟨0, 6, none⟩ = some (.string ⟨#[71, 66, 80]⟩)
  c7 : w.cell? ⟨0, 7, none⟩ = some (.int .i64 2)
  c8 : w.cell? ⟨0, 8, none⟩ = some (.string ⟨#[75, 87, 68]⟩)
  c9 : w.cell? ⟨0, 9, none⟩ = some (.int .i64 3)
  c10 : w.cell? ⟨0, 10, none⟩ = some (.string ⟨#[67, 72, 70]⟩)
  c11 : w.cell? ⟨0, 11, none⟩ = some (.int .i64 2)

theorem at_two {cs : List Value} {i : Nat} {a b : Value} (h : (cs.drop i).take 2 = [a, b]) : cs[i]? = some a ∧ cs[i + 1]? = some b := by
  have h0 : ((cs.drop i).take 2)[0]? = some a := by rw [h]; rfl
  have h1 : ((cs.drop i).take 2)[1]? = some b := by rw [h]; rfl
  simp [List.getElem?_drop] at h0 h1
  exact ⟨h0, h1⟩

theorem cur_of {W : World} {rest : List (String × DataW Unit)} {ps : List MemPlace} (h : DataW.LaidVars Tryd.prog W (("loop.example/g00714/impl.currencies", Rows.laid_loop_example_g00714_impl_currencies) :: rest) ps) : Cur W := by
  obtain ⟨g0, t0, cs0, f0, p0, q0, hg0, ht0, hv0, hd0, _⟩ := h
  obtain rfl := Option.some.inj (gCur.symm.trans hg0)
  obtain rfl := Option.some.inj (tCur.symm.trans ht0)
  obtain ⟨xs, m, rfl, hx, hlen, hn, hel⟩ := DataW.trod_array Tryd.underlying51 hd0
  rw [cells50] at hel
  rw [cells51] at hlen
  simp only [Prod.mk.injEq, Rows.laid_loop_example_g00714_impl_currencies, DataW.agg.injEq] at hx
  have hc := fun i => World.var?_cell hg0 hv0 i
  match xs, hn, hx with
  | [x0, x1, x2, x3, x4, x5], _, hx =>
    simp only [List.map_cons, List.map_nil, List.cons.injEq] at hx
    obtain ⟨⟨k0, k1, k2, k3, k4, k5, _⟩, _⟩ := hx
    have a0 := at_two (pair_cells (y := x0) (hel 0 (by decide)) k0.symm)
    have a1 := at_two (pair_cells (y := x1) (hel 1 (by decide)) k1.symm)
    have a2 := at_two (pair_cells (y := x2) (hel 2 (by decide)) k2.symm)
    have a3 := at_two (pair_cells (y := x3) (hel 3 (by decide)) k3.symm)
    have a4 := at_two (pair_cells (y := x4) (hel 4 (by decide)) k4.symm)
    have a5 := at_two (pair_cells (y := x5) (hel 5 (by decide)) k5.symm)
    simp only [Array.getElem?_toList] at a0 a1 a2 a3 a4 a5
    have e0 := (hc 0).trans a0.1
    have lt : 0 < W.heap.size := by
      unfold World.cell? at e0
      cases hh : W.heap[0]? with
      | none => simp [hh] at e0
      | some o => exact (Array.getElem?_eq_some_iff.1 hh).1
    exact ⟨lt, e0, (hc _).trans a0.2, (hc _).trans a1.1, (hc _).trans a1.2, (hc _).trans a2.1, (hc _).trans a2.2, (hc _).trans a3.1, (hc _).trans a3.2, (hc _).trans a4.1, (hc _).trans a4.2, (hc _).trans a5.1, (hc _).trans a5.2⟩

/-- The row's list of one. -/
theorem cur_one {W : World} (h : laidMetH Tryd.prog Rows.fnCodesRow.laid W) : Cur W := by
  rw [MakeChecks.laidMetH_plain _ _ _ (by kernel_rfl)] at h
  obtain ⟨ps, h, _⟩ := h
  exact cur_of h

/-- The table stays where nothing old turns. -/
theorem Cur.below {B : Nat} {w w' : World} (c : Cur w) (hb : Below B w w') (hB : 0 < B) : Cur w' :=
  ⟨Nat.lt_of_lt_of_le c.lt hb.size, (hb.cell hB).trans c.c0, (hb.cell hB).trans c.c1, (hb.cell hB).trans c.c2, (hb.cell hB).trans c.c3, (hb.cell hB).trans c.c4, (hb.cell hB).trans c.c5, (hb.cell hB).trans c.c6, (hb.cell hB).trans c.c7, (hb.cell hB).trans c.c8, (hb.cell hB).trans c.c9, (hb.cell hB).trans c.c10, (hb.cell hB).trans c.c11⟩

end Go.Proofs.YtlpeadkkkmpccaaDoor.base
