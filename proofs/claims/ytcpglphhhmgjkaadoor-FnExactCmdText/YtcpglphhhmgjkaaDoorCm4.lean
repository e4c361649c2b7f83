/-
  Plain helpers of this seat's proofs: the names of the kinds in the listed table. Conditions: none.
-/
import Derived.Test.YtcpglphhhmgjkaaDoorCmg
import Derived.Test.YtcpglphhhmgjkaaDoorTxm
namespace Go.Proofs.YtcpglphhhmgjkaaDoor.cm
open Go.ChangeShapes Go.WideShapes Go.ChangeAt Go.RowKit
open gen
/-- The names of the kinds, in the table. -/
structure Nms (w : World) : Prop where
  lt : 0 < w.heap.size
  c0 : w.cell? ⟨0, 0, none⟩ = some (.string ⟨#[]⟩)
  c1 : w.cell? ⟨0, 2, none⟩ = some (.string ⟨#[100, 97, 121]⟩)
  c2 : w.cell? ⟨0, 4, none⟩ = some (.string ⟨#[114, 97, 116, 101]⟩)
  c3 : w.cell? ⟨0, 6, none⟩ = some (.string ⟨#[99, 111, 110, 115, 117, 109, 101, 114]⟩)
  c4 : w.cell? ⟨0, 8, none⟩ = some (.string ⟨#[109, 101, 114, 99, 104, 97, 110, 116]⟩)
  c5 : w.cell? ⟨0, 10, none⟩ = some (.string ⟨#[111, 114, 100, 101, 114]⟩)
  c6 : w.cell? ⟨0, 12, none⟩ = some (.string ⟨#[115, 104, 105, 112]⟩)
  c7 : w.cell? ⟨0, 14, none⟩ = some (.string ⟨#[112, 97, 121]⟩)
  c8 : w.cell? ⟨0, 16, none⟩ = some (.string ⟨#[114, 101, 102, 117, 110, 100]⟩)
  c9 : w.cell? ⟨0, 18, none⟩ = some (.string ⟨#[100, 105, 115, 112, 117, 116, 101]⟩)
  c10 : w.cell? ⟨0, 20, none⟩ = some (.string ⟨#[114, 117, 108, 101]⟩)
  c11 : w.cell? ⟨0, 22, none⟩ = some (.string ⟨#[112, 97, 121, 111, 117, 116]⟩)
  c12 : w.cell? ⟨0, 24, none⟩ = some (.string ⟨#[114, 101, 108, 101, 97, 115, 101]⟩)
  c13 : w.cell? ⟨0, 26, none⟩ = some (.string ⟨#[112, 97, 121, 111, 102, 102]⟩)
set_option maxRecDepth 100000 in
theorem nms_of {W : World} {rest : List (String × DataW Unit)} {ps : List MemPlace} (h : DataW.LaidVars Tryd.prog W (("loop.example/g00714/impl.cmdForms", Rows.laid_loop_example_g00714_impl_cmdForms) :: rest) ps) : Nms W := by
  obtain ⟨g0, t0, cs0, f0, p0, q0, hg0, ht0, hv0, hd0, _⟩ := h
  obtain rfl := Option.some.inj (gFrm.symm.trans hg0)
  obtain rfl := Option.some.inj (tFrm.symm.trans ht0)
  obtain ⟨xs, m, rfl, hx, hlen, hn, hel⟩ := DataW.trod_array Tryd.underlying55 hd0
  rw [cellsF] at hel
  rw [cellsA] at hlen
  simp only [Prod.mk.injEq, Rows.laid_loop_example_g00714_impl_cmdForms, DataW.agg.injEq] at hx
  have hc := fun i => World.var?_cell hg0 hv0 i
  match xs, hn, hx with
  | [x0, x1, x2, x3, x4, x5, x6, x7, x8, x9, x10, x11, x12, x13], _, hx =>
    simp only [List.map_cons, List.map_nil, List.cons.injEq] at hx
    obtain ⟨⟨k0, k1, k2, k3, k4, k5, k6, k7, k8, k9, k10, k11, k12, k13, _⟩, _⟩ := hx
    have a0 := at_two (pair_cells (y := x0) (hel 0 (by decide)) k0.symm)
    have a1 := at_two (pair_cells (y := x1) (hel 1 (by decide)) k1.symm)
    have a2 := at_two (pair_cells (y := x2) (hel 2 (by decide)) k2.symm)
    have a3 := at_two (pair_cells (y := x3) (hel 3 (by decide)) k3.symm)
    have a4 := at_two (pair_cells (y := x4) (hel 4 (by decide)) k4.symm)
    have a5 := at_two (pair_cells (y := x5) (hel 5 (by decide)) k5.symm)
    have a6 := at_two (pair_cells (y := x6) (hel 6 (by decide)) k6.symm)
    have a7 := at_two (pair_cells (y := x7) (hel 7 (by decide)) k7.symm)
    have a8 := at_two (pair_cells (y := x8) (hel 8 (by decide)) k8.symm)
    have a9 := at_two (pair_cells (y := x9) (hel 9 (by decide)) k9.symm)
    have a10 := at_two (pair_cells (y := x10) (hel 10 (by decide)) k10.symm)
    have a11 := at_two (pair_cells (y := x11) (hel 11 (by decide)) k11.symm)
    have a12 := at_two (pair_cells (y := x12) (hel 12 (by decide)) k12.symm)
    have a13 := at_two (pair_cells (y := x13) (hel 13 (by decide)) k13.symm)
    simp only [Array.getElem?_toList] at a0 a1 a2 a3 a4 a5 a6 a7 a8 a9 a10 a11 a12 a13
    have e0 := (hc 0).trans a0.1
    exact ⟨cell_lt e0, (hc _).trans a0.1, (hc _).trans a1.1, (hc _).trans a2.1, (hc _).trans a3.1, (hc _).trans a4.1, (hc _).trans a5.1, (hc _).trans a6.1, (hc _).trans a7.1, (hc _).trans a8.1, (hc _).trans a9.1, (hc _).trans a10.1, (hc _).trans a11.1, (hc _).trans a12.1, (hc _).trans a13.1⟩
theorem Nms.below {B : Nat} {w w' : World} (c : Nms w) (hb : Below B w w') (hB : 0 < B) : Nms w' :=
  ⟨Nat.lt_of_lt_of_le c.lt hb.size, (hb.cell hB).trans c.c0, (hb.cell hB).trans c.c1, (hb.cell hB).trans c.c2, (hb.cell hB).trans c.c3, (hb.cell hB).trans c.c4, (hb.cell hB).trans c.c5, (hb.cell hB).trans c.c6, (hb.cell hB).trans c.c7, (hb.cell hB).trans c.c8, (hb.cell hB).trans c.c9, (hb.cell hB).trans c.c10, (hb.cell hB).trans c.c11, (hb.cell hB).trans c.c12, (hb.cell hB).trans c.c13⟩
theorem Nms.at {w : World} (c : Nms w) (k : Int) (h : inR k 1 13 = true) : w.cell? ⟨0, 2 * k.toNat, none⟩ = some (.string ⟨(nw k).toArray⟩) := by
  have q : k = 1 ∨ k = 2 ∨ k = 3 ∨ k = 4 ∨ k = 5 ∨ k = 6 ∨ k = 7 ∨ k = 8 ∨ k = 9 ∨ k = 10 ∨ k = 11 ∨ k = 12 ∨ k = 13 := by
    unfold inR at h
    simp at h
    omega
  rcases q with rfl | rfl | rfl | rfl | rfl | rfl | rfl | rfl | rfl | rfl | rfl | rfl | rfl
  · exact c.c1
  · exact c.c2
  · exact c.c3
  · exact c.c4
  · exact c.c5
  · exact c.c6
  · exact c.c7
  · exact c.c8
  · exact c.c9
  · exact c.c10
  · exact c.c11
  · exact c.c12
  · exact c.c13
set_option maxRecDepth 100000 in
theorem sl6h (W : World) (r c : Nat) (h : c ≤ 6) : Sem.run Tryd.prog (Instr.sliceAt 57 (.pointer (some ⟨r, 0, none⟩)) none (some (.int .i64 (c : Int))) none) W = .ok (.slice (some ⟨r, 0, none⟩) c 6) W := by
  have e1 : Tryd.prog.arrayLen 57 = 6 := by kernel_rfl
  have e2 : Tryd.prog.elem 57 = 2 := by kernel_rfl
  have e3 : (sizeOf 2).run Tryd.prog W = .ok 1 W := by first | (simp [go_sem]; done) | rfl | kernel_rfl
  have h0 := run_sliceAt_array_h (P := Tryd.prog) W 57 ⟨r, 0, none⟩ (by kernel_rfl) .i64 (c : Int) (by omega) (by rw [e1]; omega)
  rw [e1, e2] at h0
  refine h0.trans ?_
  rw [e3]
  simp [Result.andThen, slicedAt, Addr.add]
end Go.Proofs.YtcpglphhhmgjkaaDoor.cm
