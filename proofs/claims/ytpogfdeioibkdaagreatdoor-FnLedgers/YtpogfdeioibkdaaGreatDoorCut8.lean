/-
  Plain helpers of this seat's proofs: what the listed table of currencies gives to a walk, and the contracts of the small functions over it. Conditions: none.
-/
import Derived.Test.YtpogfdeioibkdaaGreatDoorRows
import Derived.Test.YtpogfdeioibkdaaGreatDoorPtm
import Derived.Test.YtpogfdeioibkdaaGreatDoorLift
namespace Go.Proofs.YtpogfdeioibkdaaGreatDoor.cur
open Go.ChangeShapes Go.WideShapes Go.ChangeAt Go.RowKit

theorem gCur : Tryz.prog.globalNamed "loop.example/g00714/impl.currencies" = some 0 := by kernel_rfl
theorem tCur : (Tryz.prog.globals[0]?).map (·.type) = some 95 := by kernel_rfl
theorem cells9 : Tryz.prog.cellsOf 9 = 1 := by kernel_rfl
theorem cells2 : Tryz.prog.cellsOf 2 = 1 := by kernel_rfl
theorem cells50 : Tryz.prog.cellsOf 94 = 2 := by kernel_rfl
theorem cells51 : Tryz.prog.cellsOf 95 = 12 := by kernel_rfl

set_option maxRecDepth 100000 in
/-- What a pair of the table reads as says what its two cells hold. -/
theorem pair_cells {H : Type} {enc : TypeId × Value → H} {w : World} {base : Nat} {sp : Nat → Bool} {held : Bool} {m : Nat} {l : List Value} {y : DataW H × List MemPlace} {bs : List UInt8} {n : Int}
    (h : DataW.trod enc Tryz.prog w base sp held m 94 l = some y) (e : y.1 = .agg [.lit (.string bs), .lit (.int .i64 n)]) : l = [.string ⟨bs.toArray⟩, .int .i64 n] := by
  obtain ⟨y0, y1, k, rfl, hl, h0, h1⟩ := trod_struct2 Tryz.underlying94 h
  obtain ⟨s, e0, e0', _⟩ := DataW.trod_string Tryz.underlying9 h0
  obtain ⟨z, e1, e1', _⟩ := DataW.trod_int Tryz.underlying2 h1
  rw [cells50] at hl
  rw [cells9] at e0
  rw [cells2] at e1
  subst e0' e1'
  simp only [DataW.agg.injEq, List.cons.injEq, DataW.lit.injEq, Lit.string.injEq, Lit.int.injEq, true_and, and_true] at e
  obtain ⟨rfl, rfl⟩ := e
  match l, hl with
  | [a, b], _ =>
    simp at e0 e1
    subst e0 e1
    rfl

/-- The table in memory: a code and its places for each currency. -/
structure Cur (w : World) : Prop where
  lt : 0 < w.heap.size
  c0 : w.cell? ⟨0, 0, none⟩ = some (.string ⟨#[69, 85, 82]⟩)
  c1 : w.cell? ⟨0, 1, none⟩ = some (.int .i64 2)
  c2 : w.cell? ⟨0, 2, none⟩ = some (.string ⟨#[85, 83, 68]⟩)
  c3 : w.cell? ⟨0, 3, none⟩ = some (.int .i64 2)
  c4 : w.cell? ⟨0, 4, none⟩ = some (.string ⟨#[74, 80, 89]⟩)
  c5 : w.cell? ⟨0, 5, none⟩ = some (.int .i64 0)
  c6 : w.cell? ⟨0, 6, none⟩ = some (.string ⟨#[71, 66, 80]⟩)
  c7 : w.cell? ⟨0, 7, none⟩ = some (.int .i64 2)
  c8 : w.cell? ⟨0, 8, none⟩ = some (.string ⟨#[75, 87, 68]⟩)
  c9 : w.cell? ⟨0, 9, none⟩ = some (.int .i64 3)
  c10 : w.cell? ⟨0, 10, none⟩ = some (.string ⟨#[67, 72, 70]⟩)
  c11 : w.cell? ⟨0, 11, none⟩ = some (.int .i64 2)

theorem at_two {cs : List Value} {i : Nat} {a b : Value} (h : (cs.drop i).take 2 = [a, b]) : cs[i]? = some a ∧ cs[i + 1]? = some b := by
  have h0 : ((cs.drop i).take 2)[0]? = some a := by rw [h]; rfl
  have h1 : ((cs.drop i).take 2)[1]? = some b := by rw [h]; rfl
  simp [List.getElem?_drop] at h0 h1
  exact ⟨h0, h1⟩

theorem cur_of {W : World} {rest : List (String × DataW Unit)} {ps : List MemPlace} (h : DataW.LaidVars Tryz.prog W (("loop.example/g00714/impl.currencies", Rows.laid_loop_example_g00714_impl_currencies) :: rest) ps) : Cur W := by
  obtain ⟨g0, t0, cs0, f0, p0, q0, hg0, ht0, hv0, hd0, _⟩ := h
  obtain rfl := Option.some.inj (gCur.symm.trans hg0)
  obtain rfl := Option.some.inj (tCur.symm.trans ht0)
  obtain ⟨xs, m, rfl, hx, hlen, hn, hel⟩ := DataW.trod_array Tryz.underlying95 hd0
  rw [cells50] at hel
  rw [cells51] at hlen
  simp only [Prod.mk.injEq, Rows.laid_loop_example_g00714_impl_currencies, DataW.agg.injEq] at hx
  have hc := fun i => World.var?_cell hg0 hv0 i
  match xs, hn, hx with
  | [x0, x1, x2, x3, x4, x5], _, hx =>
    simp only [List.map_cons, List.map_nil, List.cons.injEq] at hx
    obtain ⟨⟨k0, k1, k2, k3, k4, k5, _⟩, _⟩ := hx
    have a0 := at_two (pair_cells (y := x0) (hel 0 (by decide)) k0.symm)
    have a1 := at_two (pair_cells (y := x1) (hel 1 (by decide)) k1.symm)
    have a2 := at_two (pair_cells (y := x2) (hel 2 (by decide)) k2.symm)
    have a3 := at_two (pair_cells (y := x3) (hel 3 (by decide)) k3.symm)
    have a4 := at_two (pair_cells (y := x4) (hel 4 (by decide)) k4.symm)
    have a5 := at_two (pair_cells (y := x5) (hel 5 (by decide)) k5.symm)
    simp only [Array.getElem?_toList] at a0 a1 a2 a3 a4 a5
    have e0 := (hc 0).trans a0.1
    have lt : 0 < W.heap.size := by
      unfold World.cell? at e0
      cases hh : W.heap[0]? with
      | none => simp [hh] at e0
      | some o => exact (Array.getElem?_eq_some_iff.1 hh).1
    exact ⟨lt, e0, (hc _).trans a0.2, (hc _).trans a1.1, (hc _).trans a1.2, (hc _).trans a2.1, (hc _).trans a2.2, (hc _).trans a3.1, (hc _).trans a3.2, (hc _).trans a4.1, (hc _).trans a4.2, (hc _).trans a5.1, (hc _).trans a5.2⟩

/-- The table stays where nothing old turns. -/
theorem Cur.below {B : Nat} {w w' : World} (c : Cur w) (hb : Below B w w') (hB : 0 < B) : Cur w' :=
  ⟨Nat.lt_of_lt_of_le c.lt hb.size, (hb.cell hB).trans c.c0, (hb.cell hB).trans c.c1, (hb.cell hB).trans c.c2, (hb.cell hB).trans c.c3, (hb.cell hB).trans c.c4, (hb.cell hB).trans c.c5, (hb.cell hB).trans c.c6, (hb.cell hB).trans c.c7, (hb.cell hB).trans c.c8, (hb.cell hB).trans c.c9, (hb.cell hB).trans c.c10, (hb.cell hB).trans c.c11⟩


theorem ret_int {a b : Int} (h : a = b) : Ending.returned (.int .i64 a) = .returned (.int .i64 b) := by rw [h]

set_option maxHeartbeats 1000000 in
theorem curI (s : ByteArray) (w : World) (c : Cur w) : Calls Tryz.prog 53 #[.string s] w fun e w' => e = .returned (.int .i64 (ptm.curIx s.toList)) ∧ w = w' := by
  obtain ⟨lt, c0, c1, c2, c3, c4, c5, c6, c7, c8, c9, c10, c11⟩ := c
  go_enter Tryz.func53, Tryz.ntmps53
  go_wp2
  go_loop [4] (fun i => ∃ k : Nat, k ≤ 6 ∧ i = .int .i64 k ∧ ∀ j, j < k → s.toList ≠ ptm.cod j) (fun i => 6 - (intOf i).toNat)
  case atStart => exact ⟨0, by omega, rfl, fun j h => by omega⟩
  case round =>
    obtain ⟨k, hk, rfl, hne⟩ := hrel
    obtain rfl | hk : k = 6 ∨ k < 6 := by omega
    · have HN := Lib.hid hne; clear hne
      go_wp2
      go_ret
      exact ⟨ret_int (ptm.curIx_none HN.out).symm, rfl⟩
    · by_cases he : s.toList = ptm.cod k
      · have HI := Lib.hid (ptm.ix_eq hk he)
        have hb : (ptm.cod k == s.toList) = true := by simp [he]
        clear hne he
        obtain rfl | rfl | rfl | rfl | rfl | rfl : k = 0 ∨ k = 1 ∨ k = 2 ∨ k = 3 ∨ k = 4 ∨ k = 5 := by omega
        all_goals
          simp only [ptm.cod] at hb
          go_wp2
          go_ret
          exact ⟨ret_int HI.out.symm, rfl⟩
      · have hb : (ptm.cod k == s.toList) = false := by
          have := Ne.symm (a := s.toList) he
          simpa using this
        have HN := Lib.hid (ptm.ne_succ hne he)
        clear hne he
        obtain rfl | rfl | rfl | rfl | rfl | rfl : k = 0 ∨ k = 1 ∨ k = 2 ∨ k = 3 ∨ k = 4 ∨ k = 5 := by omega
        all_goals
          simp only [ptm.cod] at hb
          go_wp2
          exact ⟨⟨_, by omega, by go_num, HN.out⟩, by simp [intOf]⟩

set_option maxHeartbeats 1000000 in
theorem curS (s : ByteArray) (w : World) : Calls Tryz.prog 57 #[.string s] w fun e w' => e = .returned (.int .i64 (ptm.curIx s.toList)) ∧ Below w.heap.size w w' := by
  go_enter Tryz.func57, Tryz.ntmps57
  go_wp2
  go_loopw [3] (fun i wr => Below w.heap.size w wr ∧ ∃ k : Nat, k ≤ 6 ∧ i = .int .i64 k ∧ ∀ j, j < k → s.toList ≠ ptm.cod j) (fun i _ => 6 - (intOf i).toNat)
  case atStart => exact ⟨Below.refl _ _, 0, by omega, rfl, fun j h => by omega⟩
  case round =>
    obtain ⟨hB, k, hk, rfl, hne⟩ := hrel
    obtain rfl | hk : k = 6 ∨ k < 6 := by omega
    · have HN := Lib.hid hne; clear hne
      go_wp2
      go_ret
      exact ⟨ret_int (ptm.curIx_none HN.out).symm, hB⟩
    · by_cases he : s.toList = ptm.cod k
      · have HI := Lib.hid (ptm.ix_eq hk he)
        have hb : (ptm.cod k == s.toList) = true := by simp [he]
        clear hne he
        obtain rfl | rfl | rfl | rfl | rfl | rfl : k = 0 ∨ k = 1 ∨ k = 2 ∨ k = 3 ∨ k = 4 ∨ k = 5 := by omega
        all_goals
          simp only [ptm.cod] at hb
          go_wp2
          go_ret
          exact ⟨ret_int HI.out.symm, Below.alloc hB hB.size _⟩
      · have hb : (ptm.cod k == s.toList) = false := by
          have := Ne.symm (a := s.toList) he
          simpa using this
        have HN := Lib.hid (ptm.ne_succ hne he)
        clear hne he
        obtain rfl | rfl | rfl | rfl | rfl | rfl : k = 0 ∨ k = 1 ∨ k = 2 ∨ k = 3 ∨ k = 4 ∨ k = 5 := by omega
        all_goals
          simp only [ptm.cod] at hb
          go_wp2
          exact ⟨⟨Below.alloc hB hB.size _, _, by omega, by go_num, HN.out⟩, by simp [intOf]⟩

def cdL (k : Int) : List UInt8 := if 0 ≤ k ∧ k ≤ 5 then ptm.cod k.toNat else []

theorem out_walk {F : FuncId} {v : Value} (n : Int) (w : World) (h : Calls Tryz.prog F #[.int .i64 n] w fun e w' => e = .returned v ∧ w = w') : Calls Tryz.prog F #[.int .i64 n] w fun e w' => e = .returned v ∧ Below w.heap.size w w' :=
  h.mono fun _ _ q => ⟨q.1, q.2 ▸ Below.refl _ _⟩
theorem code_impl (k : Int) (w : World) (c : Cur w) : Calls Tryz.prog 40 #[.int .i64 k] w fun e w' => e = .returned (.string ⟨(cdL k).toArray⟩) ∧ w = w' := by
  unfold cdL
  by_cases h : 0 ≤ k ∧ k ≤ 5
  · rw [if_pos h]
    obtain ⟨lt, c0, c1, c2, c3, c4, c5, c6, c7, c8, c9, c10, c11⟩ := c
    rcases (show k = 0 ∨ k = 1 ∨ k = 2 ∨ k = 3 ∨ k = 4 ∨ k = 5 by omega) with rfl | rfl | rfl | rfl | rfl | rfl <;>
      (clear h; go_enter Tryz.func40, Tryz.ntmps40; go_wp2; go_ret; exact ⟨rfl, rfl⟩)
  · rw [if_neg h]
    by_cases h1 : k < 0
    · have t1 : decide (0 ≤ k) = false := by simp; omega
      clear h
      go_enter Tryz.func40, Tryz.ntmps40
      go_wp2
      go_ret
      exact ⟨rfl, rfl⟩
    · have t1 : decide (0 ≤ k) = true := by simp; omega
      have t2 : decide (k < 6) = false := by simp; omega
      clear h
      go_enter Tryz.func40, Tryz.ntmps40
      go_wp2
      go_ret
      exact ⟨rfl, rfl⟩
theorem code_spec (k : Int) (w : World) : Calls Tryz.prog 61 #[.int .i64 k] w fun e w' => e = .returned (.string ⟨(cdL k).toArray⟩) ∧ Below w.heap.size w w' := by
  unfold cdL
  by_cases h : 0 ≤ k ∧ k ≤ 5
  · rw [if_pos h]
    rcases (show k = 0 ∨ k = 1 ∨ k = 2 ∨ k = 3 ∨ k = 4 ∨ k = 5 by omega) with rfl | rfl | rfl | rfl | rfl | rfl <;>
      (clear h; go_enter Tryz.func61, Tryz.ntmps61; go_wp2; go_ret; exact ⟨rfl, by repeat (first | exact Below.refl _ _ | refine Below.alloc ?_ (by simp) _)⟩)
  · rw [if_neg h]
    by_cases h1 : k < 0
    · have t1 : decide (0 ≤ k) = false := by simp; omega
      clear h
      go_enter Tryz.func61, Tryz.ntmps61
      go_wp2
      go_ret
      exact ⟨rfl, Below.refl _ _⟩
    · have t1 : decide (0 ≤ k) = true := by simp; omega
      have t2 : decide (k ≤ 5) = false := by simp; omega
      clear h
      go_enter Tryz.func61, Tryz.ntmps61
      go_wp2
      go_ret
      exact ⟨rfl, Below.refl _ _⟩
end Go.Proofs.YtpogfdeioibkdaaGreatDoor.cur
