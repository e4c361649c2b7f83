/-
  Plain helpers of this seat's proofs: what the listed table of the kinds gives to a walk. Conditions: none.
-/
import Derived.Test.YtcpglphhhmgjkaaDoorCmm
namespace Go.Proofs.YtcpglphhhmgjkaaDoor.cm
open Go.ChangeShapes Go.WideShapes Go.ChangeAt Go.RowKit
open gen
theorem gFrm : Tryd.prog.globalNamed "loop.example/g00714/impl.cmdForms" = some 0 := by kernel_rfl
theorem tFrm : (Tryd.prog.globals[0]?).map (·.type) = some 55 := by kernel_rfl
theorem cells9 : Tryd.prog.cellsOf 9 = 1 := by kernel_rfl
theorem cells3 : Tryd.prog.cellsOf 3 = 1 := by kernel_rfl
theorem cellsF : Tryd.prog.cellsOf 54 = 2 := by kernel_rfl
set_option maxRecDepth 100000 in
theorem cellsA : Tryd.prog.cellsOf 55 = 28 := by kernel_rfl
set_option maxRecDepth 100000 in
theorem pair_cells {H : Type} {enc : TypeId × Value → H} {w : World} {base : Nat} {sp : Nat → Bool} {held : Bool} {m : Nat} {l : List Value} {y : DataW H × List MemPlace} {bs : List UInt8} {n : Int}
    (h : DataW.trod enc Tryd.prog w base sp held m 54 l = some y) (e : y.1 = .agg [.lit (.string bs), .lit (.int .i64 n)]) : l = [.string ⟨bs.toArray⟩, .int .i64 n] := by
  obtain ⟨y0, y1, k, rfl, hl, h0, h1⟩ := trod_struct2 Tryd.underlying54 h
  obtain ⟨s, e0, e0', _⟩ := DataW.trod_string Tryd.underlying9 h0
  obtain ⟨z, e1, e1', _⟩ := DataW.trod_int Tryd.underlying3 h1
  rw [cellsF] at hl
  rw [cells9] at e0
  rw [cells3] at e1
  subst e0' e1'
  simp only [DataW.agg.injEq, List.cons.injEq, DataW.lit.injEq, Lit.string.injEq, Lit.int.injEq, true_and, and_true] at e
  obtain ⟨rfl, rfl⟩ := e
  match l, hl with
  | [a, b], _ =>
    simp at e0 e1
    subst e0 e1
    rfl
set_option maxRecDepth 100000 in
/-- How many numbers each kind has, in the table. -/
structure Frm (w : World) : Prop where
  lt : 0 < w.heap.size
  c0 : w.cell? ⟨0, 1, none⟩ = some (.int .i64 0)
  c1 : w.cell? ⟨0, 3, none⟩ = some (.int .i64 1)
  c2 : w.cell? ⟨0, 5, none⟩ = some (.int .i64 4)
  c3 : w.cell? ⟨0, 7, none⟩ = some (.int .i64 2)
  c4 : w.cell? ⟨0, 9, none⟩ = some (.int .i64 3)
  c5 : w.cell? ⟨0, 11, none⟩ = some (.int .i64 6)
  c6 : w.cell? ⟨0, 13, none⟩ = some (.int .i64 3)
  c7 : w.cell? ⟨0, 15, none⟩ = some (.int .i64 3)
  c8 : w.cell? ⟨0, 17, none⟩ = some (.int .i64 3)
  c9 : w.cell? ⟨0, 19, none⟩ = some (.int .i64 2)
  c10 : w.cell? ⟨0, 21, none⟩ = some (.int .i64 2)
  c11 : w.cell? ⟨0, 23, none⟩ = some (.int .i64 2)
  c12 : w.cell? ⟨0, 25, none⟩ = some (.int .i64 3)
  c13 : w.cell? ⟨0, 27, none⟩ = some (.int .i64 1)
theorem at_two {cs : List Value} {i : Nat} {a b : Value} (h : (cs.drop i).take 2 = [a, b]) : cs[i]? = some a ∧ cs[i + 1]? = some b := by
  have h0 : ((cs.drop i).take 2)[0]? = some a := by rw [h]; rfl
  have h1 : ((cs.drop i).take 2)[1]? = some b := by rw [h]; rfl
  simp [List.getElem?_drop] at h0 h1
  exact ⟨h0, h1⟩
set_option maxRecDepth 100000 in
theorem frm_of {W : World} {rest : List (String × DataW Unit)} {ps : List MemPlace} (h : DataW.LaidVars Tryd.prog W (("loop.example/g00714/impl.cmdForms", Rows.laid_loop_example_g00714_impl_cmdForms) :: rest) ps) : Frm W := by
  obtain ⟨g0, t0, cs0, f0, p0, q0, hg0, ht0, hv0, hd0, _⟩ := h
  obtain rfl := Option.some.inj (gFrm.symm.trans hg0)
  obtain rfl := Option.some.inj (tFrm.symm.trans ht0)
  obtain ⟨xs, m, rfl, hx, hlen, hn, hel⟩ := DataW.trod_array Tryd.underlying55 hd0
  rw [cellsF] at hel
  rw [cellsA] at hlen
  simp only [Prod.mk.injEq, Rows.laid_loop_example_g00714_impl_cmdForms, DataW.agg.injEq] at hx
  have hc := fun i => World.var?_cell hg0 hv0 i
  match xs, hn, hx with
  | [x0, x1, x2, x3, x4, x5, x6, x7, x8, x9, x10, x11, x12, x13], _, hx =>
    simp only [List.map_cons, List.map_nil, List.cons.injEq] at hx
    obtain ⟨⟨k0, k1, k2, k3, k4, k5, k6, k7, k8, k9, k10, k11, k12, k13, _⟩, _⟩ := hx
    have a0 := at_two (pair_cells (y := x0) (hel 0 (by decide)) k0.symm)
    have a1 := at_two (pair_cells (y := x1) (hel 1 (by decide)) k1.symm)
    have a2 := at_two (pair_cells (y := x2) (hel 2 (by decide)) k2.symm)
    have a3 := at_two (pair_cells (y := x3) (hel 3 (by decide)) k3.symm)
    have a4 := at_two (pair_cells (y := x4) (hel 4 (by decide)) k4.symm)
    have a5 := at_two (pair_cells (y := x5) (hel 5 (by decide)) k5.symm)
    have a6 := at_two (pair_cells (y := x6) (hel 6 (by decide)) k6.symm)
    have a7 := at_two (pair_cells (y := x7) (hel 7 (by decide)) k7.symm)
    have a8 := at_two (pair_cells (y := x8) (hel 8 (by decide)) k8.symm)
    have a9 := at_two (pair_cells (y := x9) (hel 9 (by decide)) k9.symm)
    have a10 := at_two (pair_cells (y := x10) (hel 10 (by decide)) k10.symm)
    have a11 := at_two (pair_cells (y := x11) (hel 11 (by decide)) k11.symm)
    have a12 := at_two (pair_cells (y := x12) (hel 12 (by decide)) k12.symm)
    have a13 := at_two (pair_cells (y := x13) (hel 13 (by decide)) k13.symm)
    simp only [Array.getElem?_toList] at a0 a1 a2 a3 a4 a5 a6 a7 a8 a9 a10 a11 a12 a13
    have e0 := (hc 1).trans a0.2
    exact ⟨cell_lt e0, (hc _).trans a0.2, (hc _).trans a1.2, (hc _).trans a2.2, (hc _).trans a3.2, (hc _).trans a4.2, (hc _).trans a5.2, (hc _).trans a6.2, (hc _).trans a7.2, (hc _).trans a8.2, (hc _).trans a9.2, (hc _).trans a10.2, (hc _).trans a11.2, (hc _).trans a12.2, (hc _).trans a13.2⟩
theorem Frm.below {B : Nat} {w w' : World} (c : Frm w) (hb : Below B w w') (hB : 0 < B) : Frm w' :=
  ⟨Nat.lt_of_lt_of_le c.lt hb.size, (hb.cell hB).trans c.c0, (hb.cell hB).trans c.c1, (hb.cell hB).trans c.c2, (hb.cell hB).trans c.c3, (hb.cell hB).trans c.c4, (hb.cell hB).trans c.c5, (hb.cell hB).trans c.c6, (hb.cell hB).trans c.c7, (hb.cell hB).trans c.c8, (hb.cell hB).trans c.c9, (hb.cell hB).trans c.c10, (hb.cell hB).trans c.c11, (hb.cell hB).trans c.c12, (hb.cell hB).trans c.c13⟩
theorem Frm.at {w : World} (c : Frm w) (k : Int) (h : inR k 1 13 = true) : w.cell? ⟨0, 2 * k.toNat + 1, none⟩ = some (.int .i64 (cnt k : Nat)) := by
  have q : k = 1 ∨ k = 2 ∨ k = 3 ∨ k = 4 ∨ k = 5 ∨ k = 6 ∨ k = 7 ∨ k = 8 ∨ k = 9 ∨ k = 10 ∨ k = 11 ∨ k = 12 ∨ k = 13 := by
    unfold inR at h
    simp at h
    omega
  rcases q with rfl | rfl | rfl | rfl | rfl | rfl | rfl | rfl | rfl | rfl | rfl | rfl | rfl
  · exact c.c1
  · exact c.c2
  · exact c.c3
  · exact c.c4
  · exact c.c5
  · exact c.c6
  · exact c.c7
  · exact c.c8
  · exact c.c9
  · exact c.c10
  · exact c.c11
  · exact c.c12
  · exact c.c13
end Go.Proofs.YtcpglphhhmgjkaaDoor.cm
