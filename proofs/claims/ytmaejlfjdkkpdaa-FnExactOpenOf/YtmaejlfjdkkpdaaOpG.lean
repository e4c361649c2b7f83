/-
  Plain helpers of this seat's proofs: slices whatever their elements are, and orders, as they came in. Conditions: none.
-/
import Derived.Test.YtmaejlfjdkkpdaaPls
import Derived.Test.YtmaejlfjdkkpdaaOrd
import Derived.Test.YtmaejlfjdkkpdaaOp7
import Derived.Test.YtmaejlfjdkkpdaaOpI4
namespace Go.Proofs.Ytmaejlfjdkkpdaa.pls
open Go.ChangeShapes Go.WideShapes Go.ChangeAt Go.RowKit
open gen
open seven (F7 zz Row Inp At)
open four (F4)
section
variable {H : Type} {enc : TypeId × Value → H} {P : Program} {w : World}
theorem open_gen {α : Type} {n : Nat} {t e : TypeId} {fuel : Nat} {cs : List Value} {x0 : DataW H × List MemPlace} (ht : P.underlying t = some (.slice e)) (s : P.cellsOf e = n) (hn : 0 < n) (R : List Value → α → Prop) (z : α)
    (op : ∀ {m : Nat} {cs : List Value} {x : DataW H × List MemPlace}, DataW.trod enc P w 0 (fun _ => true) true m e cs = some x → ∃ y, R cs y)
    (h : DataW.trod enc P w 0 (fun _ => true) true fuel t cs = some x0) :
    ∃ a cap, ∃ l : List α, cs = [.slice a l.length cap] ∧ l.length ≤ maxLen ∧ ∀ i, i < l.length → ∃ c off : Nat, a = some ⟨c, off, none⟩ ∧ ∃ cs', R cs' (l.getD i z) ∧ ∀ j, j < n → w.cell? ⟨c, off + (i * n + j), none⟩ = cs'[j]? := by
  rcases Go.Deep.open_slice ht h with ⟨rfl, _⟩ | ⟨x, len, cap, m, k, D, Pl, rfl, _, hl, hm, hmm, _, hx⟩
  · exact ⟨none, 0, [], rfl, Nat.zero_le _, fun i hi => absurd hi (by simp)⟩
  · simp at hmm
    subst hmm
    rw [s] at hx
    have each : ∀ i : Nat, ∃ y : α × List Value, i < m → R y.2 y.1 ∧ y.2.length = n ∧ ∀ j, j < n → w.cell? (x.add (i * n + j)) = y.2[j]? := by
      intro i
      by_cases hi : i < m
      · obtain ⟨cs', h1, h2⟩ := hx i hi
        obtain ⟨y, hy⟩ := op h2
        obtain ⟨_, hlen, hcell⟩ := World.cells?_some h1
        exact ⟨(y, cs'), fun _ => ⟨hy, hlen, fun j hj => by rw [← Go.Deep.add_add]; exact hcell j hj⟩⟩
      · exact ⟨(z, []), fun h => absurd h hi⟩
    obtain ⟨Y, hY⟩ := Classical.axiomOfChoice each
    obtain ⟨b, off, spot⟩ := x
    refine ⟨some ⟨b, off, spot⟩, m, (List.range len).map fun i => (Y i).1, (by simp), (by simp; exact Nat.le_trans hl hm), fun i hi => ?_⟩
    simp at hi
    have e : ((List.range len).map fun i => (Y i).1).getD i z = (Y i).1 := by
      rw [List.getD_eq_getElem?_getD, List.getElem?_map, List.getElem?_range hi]; rfl
    rw [e]
    obtain ⟨h1, h2, h3⟩ := hY i (by omega)
    have sp : spot = none := by
      obtain ⟨_, q2, q3⟩ := hY 0 (by omega)
      have h0 := q3 0 hn
      rw [List.getElem?_eq_getElem (by omega : 0 < (Y 0).2.length)] at h0
      have := cell_spot h0
      simpa [Addr.add] using this
    subst sp
    have fix : ∀ j, (⟨b, off, none⟩ : Addr).add j = ⟨b, off + j, none⟩ := fun j => by
      unfold Addr.add
      by_cases hj : j = 0 <;> simp [hj]
    exact ⟨b, off, rfl, (Y i).2, h1, fun j hj => by rw [← fix]; exact h3 j hj⟩
end
section
variable {H : Type} {enc : TypeId × Value → H} {w : World}
theorem open_items {fuel : Nat} {cs : List Value} {x0 : DataW H × List MemPlace} (h : DataW.trod enc Try.prog w 0 (fun _ => true) true fuel 22 cs = some x0) :
    ∃ a cap, ∃ l : List F4, cs = [.slice a l.length cap] ∧ l.length ≤ maxLen ∧ four.Inp w a l := by
  obtain ⟨a, cap, l, e, hl, hc⟩ := open_gen (P := Try.prog) (n := 4) Try.underlying22 four.cP (by omega) (fun cs (y : F4) => cs = [.int .i64 y.1, .int .i64 y.2.1, .int .i64 y.2.2.1, .int .i64 y.2.2.2]) four.zz (fun h => by obtain ⟨y, e, _⟩ := four.part_cells h; exact ⟨y, e⟩) h
  refine ⟨a, cap, l, e, hl, fun i hi => ?_⟩
  obtain ⟨c, off, rfl, cs', rfl, hj⟩ := hc i hi
  have q0 := hj 0 (by omega)
  have q1 := hj 1 (by omega)
  have q2 := hj 2 (by omega)
  have q3 := hj 3 (by omega)
  refine ⟨c, off, rfl, ⟨?_, ?_, ?_, ?_⟩⟩
  · simpa using q0
  · rw [Nat.add_assoc]; simpa using q1
  · rw [Nat.add_assoc]; simpa using q2
  · rw [Nat.add_assoc]; simpa using q3
theorem open_parts' {fuel : Nat} {cs : List Value} {x0 : DataW H × List MemPlace} (h : DataW.trod enc Try.prog w 0 (fun _ => true) true fuel 96 cs = some x0) :
    ∃ a cap, ∃ l : List F7, cs = [.slice a l.length cap] ∧ l.length ≤ maxLen ∧ Inp w a l := by
  obtain ⟨a, cap, l, e, hl, hc⟩ := open_gen (P := Try.prog) (n := 7) Try.underlying96 seven.cP (by omega) (fun cs (y : F7) => cs = [.int .i64 y.1, .int .i64 y.2.1, .int .i64 y.2.2.1, .int .i64 y.2.2.2.1, .int .i64 y.2.2.2.2.1, .int .i64 y.2.2.2.2.2.1, .int .i64 y.2.2.2.2.2.2]) zz (fun h => by obtain ⟨y, e, _⟩ := seven.part_cells h; exact ⟨y, e⟩) h
  refine ⟨a, cap, l, e, hl, fun i hi => ?_⟩
  obtain ⟨c, off, rfl, cs', rfl, hj⟩ := hc i hi
  have q0 := hj 0 (by omega)
  have q1 := hj 1 (by omega)
  have q2 := hj 2 (by omega)
  have q3 := hj 3 (by omega)
  have q4 := hj 4 (by omega)
  have q5 := hj 5 (by omega)
  have q6 := hj 6 (by omega)
  refine ⟨c, off, rfl, ⟨?_, ?_, ?_, ?_, ?_, ?_, ?_⟩⟩
  · simpa using q0
  · rw [Nat.add_assoc]; simpa using q1
  · rw [Nat.add_assoc]; simpa using q2
  · rw [Nat.add_assoc]; simpa using q3
  · rw [Nat.add_assoc]; simpa using q4
  · rw [Nat.add_assoc]; simpa using q5
  · rw [Nat.add_assoc]; simpa using q6
theorem cPl : Try.prog.cellsOf 98 = 1 := by kernel_rfl
theorem cPs : Try.prog.cellsOf 96 = 1 := by kernel_rfl
theorem cIs : Try.prog.cellsOf 22 = 1 := by kernel_rfl
theorem cPls : Try.prog.cellsOf 23 = 1 := by kernel_rfl
theorem cOr : Try.prog.cellsOf 25 = 13 := by kernel_rfl
set_option maxRecDepth 100000 in
theorem plan_cells {fuel : Nat} {cs : List Value} {x0 : DataW H × List MemPlace} (h : DataW.trod enc Try.prog w 0 (fun _ => true) true fuel 98 cs = some x0) :
    ∃ y : List F7, ∃ a cap, cs = [.slice a y.length cap] ∧ Inp w a y ∧ y.length ≤ maxLen := by
  obtain ⟨xs, n, _, _, hl, hxl, hf⟩ := DataW.trod_struct Try.underlying98 h
  rw [cPl] at hl
  match cs, hl, xs, hxl with
  | [v0], _, [y0], _ =>
    have g0 := hf 0 _ rfl
    simp [cPs] at g0
    obtain ⟨a, cap, l, e, h1, h2⟩ := open_parts' g0
    exact ⟨l, a, cap, e, h2, h1⟩
theorem open_plans {fuel : Nat} {cs : List Value} {x0 : DataW H × List MemPlace} (h : DataW.trod enc Try.prog w 0 (fun _ => true) true fuel 23 cs = some x0) :
    ∃ a cap, ∃ p : List (List F7), cs = [.slice a p.length cap] ∧ p.length ≤ maxLen ∧ InpP w a p ∧ ∀ i, i < p.length → (nth p i).length ≤ maxLen := by
  obtain ⟨a, cap, l, e, hl, hc⟩ := open_gen (P := Try.prog) (n := 1) Try.underlying23 cPl (by omega) (fun cs (y : List F7) => ∃ a cap, cs = [.slice a y.length cap] ∧ Inp w a y ∧ y.length ≤ maxLen) [] (fun h => plan_cells h) h
  refine ⟨a, cap, l, e, hl, fun i hi => ?_, fun i hi => by obtain ⟨_, _, _, _, ⟨_, _, _, _, h2⟩, _⟩ := hc i hi; exact h2⟩
  obtain ⟨c, off, rfl, cs', ⟨a', cap', rfl, h1, h2⟩, hj⟩ := hc i hi
  exact ⟨c, off, rfl, a', cap', by simpa [nth] using hj 0 (by omega), h1⟩
set_option maxRecDepth 100000 in
set_option maxHeartbeats 2000000 in
/-- An order that came in. -/
theorem order_cells {fuel : Nat} {cs : List Value} {x0 : DataW H × List MemPlace} (h : DataW.trod enc Try.prog w 0 (fun _ => true) true fuel 25 cs = some x0) :
    ∃ (s : ord.Sc) (ai : Option Addr) (ci : Nat) (l : List F4) (ap : Option Addr) (cp : Nat) (p : List (List F7)),
      cs = [.int .i64 s.id, .int .i64 s.co, .int .i64 s.me, .int .i64 s.cu, .int .i64 s.da, .int .i64 s.nn, .int .i64 s.ra, .int .i64 s.nu, .int .i64 s.de, .slice ai l.length ci, .slice ap p.length cp, .int .i64 s.op, .int .i64 s.up] ∧
      l.length ≤ maxLen ∧ p.length ≤ maxLen ∧ four.Inp w ai l ∧ InpP w ap p ∧ ∀ i, i < p.length → (nth p i).length ≤ maxLen := by
  obtain ⟨xs, n, _, _, hl, hxl, hf⟩ := DataW.trod_struct Try.underlying25 h
  rw [cOr] at hl
  match cs, hl, xs, hxl with
  | [v0, v1, v2, v3, v4, v5, v6, v7, v8, v9, v10, v11, v12], _, [y0, y1, y2, y3, y4, y5, y6, y7, y8, y9, y10, y11, y12], _ =>
    have g0 := hf 0 _ rfl
    have g1 := hf 1 _ rfl
    have g2 := hf 2 _ rfl
    have g3 := hf 3 _ rfl
    have g4 := hf 4 _ rfl
    have g5 := hf 5 _ rfl
    have g6 := hf 6 _ rfl
    have g7 := hf 7 _ rfl
    have g8 := hf 8 _ rfl
    have g9 := hf 9 _ rfl
    have g10 := hf 10 _ rfl
    have g11 := hf 11 _ rfl
    have g12 := hf 12 _ rfl
    simp [seven.c2, cIs, cPls] at g0 g1 g2 g3 g4 g5 g6 g7 g8 g9 g10 g11 g12
    obtain ⟨a0, e0, _, _⟩ := DataW.trod_int Try.underlying2 g0
    obtain ⟨a1, e1, _, _⟩ := DataW.trod_int Try.underlying2 g1
    obtain ⟨a2, e2, _, _⟩ := DataW.trod_int Try.underlying2 g2
    obtain ⟨a3, e3, _, _⟩ := DataW.trod_int Try.underlying2 g3
    obtain ⟨a4, e4, _, _⟩ := DataW.trod_int Try.underlying2 g4
    obtain ⟨a5, e5, _, _⟩ := DataW.trod_int Try.underlying2 g5
    obtain ⟨a6, e6, _, _⟩ := DataW.trod_int Try.underlying2 g6
    obtain ⟨a7, e7, _, _⟩ := DataW.trod_int Try.underlying2 g7
    obtain ⟨a8, e8, _, _⟩ := DataW.trod_int Try.underlying2 g8
    obtain ⟨ai, ci, l, e9, l9, h9⟩ := open_items g9
    obtain ⟨ap, cp, p, e10, l10, h10, m10⟩ := open_plans g10
    obtain ⟨a11, e11, _, _⟩ := DataW.trod_int Try.underlying2 g11
    obtain ⟨a12, e12, _, _⟩ := DataW.trod_int Try.underlying2 g12
    simp at e0 e1 e2 e3 e4 e5 e6 e7 e8 e9 e10 e11 e12
    exact ⟨⟨a0, a1, a2, a3, a4, a5, a6, a7, a8, a11, a12⟩, ai, ci, l, ap, cp, p, by rw [e0, e1, e2, e3, e4, e5, e6, e7, e8, e9, e10, e11, e12], l9, l10, h9, h10, m10⟩
set_option maxRecDepth 100000 in
theorem open_order {base : Nat} {v : Value} {d : DataW H} {q : List MemPlace} (hok : Value.okWide Try.prog w .any base 25 v) (h : DataW.Trod enc Try.prog w 0 (fun _ => true) true 25 v d q) :
    ∃ (s : ord.Sc) (ai : Option Addr) (ci : Nat) (l : List F4) (ap : Option Addr) (cp : Nat) (p : List (List F7)),
      v = .agg #[.int .i64 s.id, .int .i64 s.co, .int .i64 s.me, .int .i64 s.cu, .int .i64 s.da, .int .i64 s.nn, .int .i64 s.ra, .int .i64 s.nu, .int .i64 s.de, .slice ai l.length ci, .slice ap p.length cp, .int .i64 s.op, .int .i64 s.up] ∧
      l.length ≤ maxLen ∧ p.length ≤ maxLen ∧ four.Inp w ai l ∧ InpP w ap p ∧ ∀ i, i < p.length → (nth p i).length ≤ maxLen := by
  obtain ⟨cs, rfl, _⟩ := okWide_struct Try.underlying25 hok
  obtain ⟨fuel, hf⟩ := h
  obtain ⟨s, ai, ci, l, ap, cp, p, e, r⟩ := order_cells hf
  refine ⟨s, ai, ci, l, ap, cp, p, ?_, r⟩
  have e' : cs.toList = _ := e
  obtain ⟨l⟩ := cs
  simp at e'
  rw [e']
end
end Go.Proofs.Ytmaejlfjdkkpdaa.pls
