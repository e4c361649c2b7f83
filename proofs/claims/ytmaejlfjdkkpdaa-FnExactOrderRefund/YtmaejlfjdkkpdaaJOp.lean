/-
  Plain helpers of this seat's proofs: copies of orders. Conditions: none.
-/
import Derived.Test.YtmaejlfjdkkpdaaSev
import Derived.Test.YtmaejlfjdkkpdaaFou
import Derived.Test.YtmaejlfjdkkpdaaPls
import Derived.Test.YtmaejlfjdkkpdaaOrd
import Derived.Test.YtmaejlfjdkkpdaaTo6
import Derived.Test.YtmaejlfjdkkpdaaBxs
import Derived.Test.YtmaejlfjdkkpdaaCpI4
namespace Go.Proofs.Ytmaejlfjdkkpdaa.seven
open Go.ChangeShapes Go.WideShapes Go.ChangeAt Go.RowKit
open gen
section
variable {H : Type} {enc : TypeId × Value → H} {w : World} {base base' : Nat} {spare : Nat → Bool} {held : Bool}
theorem c2 : Try.prog.cellsOf 2 = 1 := by kernel_rfl
theorem cP : Try.prog.cellsOf 135 = 7 := by kernel_rfl
theorem part_cells {fuel : Nat} {cs : List Value} {x : DataW H × List MemPlace} (h : DataW.trod enc Try.prog w base spare held fuel 135 cs = some x) : ∃ y : F7, cs = [.int .i64 y.1, .int .i64 y.2.1, .int .i64 y.2.2.1, .int .i64 y.2.2.2.1, .int .i64 y.2.2.2.2.1, .int .i64 y.2.2.2.2.2.1, .int .i64 y.2.2.2.2.2.2] ∧ Wf y :=
  openN Try.underlying135 Try.underlying2 Try.underlying2 Try.underlying2 Try.underlying2 Try.underlying2 Try.underlying2 Try.underlying2 cP c2 c2 c2 c2 c2 c2 c2 rfl rfl rfl rfl rfl rfl rfl h
set_option maxRecDepth 100000 in
theorem open_parts {v : Value} {d : DataW H} {p : List MemPlace} (hok : Value.okWide Try.prog w .any base 96 v) (h : DataW.Trod enc Try.prog w 0 (fun _ => true) true 96 v d p) :
    ∃ a cap, ∃ l : List F7, v = .slice a l.length cap ∧ l.length ≤ maxLen ∧ Inp w a l ∧ ∀ x ∈ l, Wf x := open_rows Try.underlying96 cP part_cells hok h
end
end Go.Proofs.Ytmaejlfjdkkpdaa.seven

namespace Go.Proofs.Ytmaejlfjdkkpdaa.four
open Go.ChangeShapes Go.WideShapes Go.ChangeAt Go.RowKit
open gen
section
variable {H : Type} {enc : TypeId × Value → H} {w : World} {base base' : Nat} {spare : Nat → Bool} {held : Bool}
theorem c2 : Try.prog.cellsOf 2 = 1 := by kernel_rfl
theorem cP : Try.prog.cellsOf 103 = 4 := by kernel_rfl
theorem part_cells {fuel : Nat} {cs : List Value} {x : DataW H × List MemPlace} (h : DataW.trod enc Try.prog w base spare held fuel 103 cs = some x) : ∃ y : F4, cs = [.int .i64 y.1, .int .i64 y.2.1, .int .i64 y.2.2.1, .int .i64 y.2.2.2] ∧ Wf y :=
  openN Try.underlying103 Try.underlying2 Try.underlying2 Try.underlying2 Try.underlying2 cP c2 c2 c2 c2 rfl rfl rfl rfl h
set_option maxRecDepth 100000 in
theorem open_parts {v : Value} {d : DataW H} {p : List MemPlace} (hok : Value.okWide Try.prog w .any base 22 v) (h : DataW.Trod enc Try.prog w 0 (fun _ => true) true 22 v d p) :
    ∃ a cap, ∃ l : List F4, v = .slice a l.length cap ∧ l.length ≤ maxLen ∧ Inp w a l ∧ ∀ x ∈ l, Wf x := open_rows Try.underlying22 cP part_cells hok h
end
end Go.Proofs.Ytmaejlfjdkkpdaa.four

namespace Go.Proofs.Ytmaejlfjdkkpdaa.pls
open Go.ChangeShapes Go.WideShapes Go.ChangeAt Go.RowKit
open gen
open seven (F7 zz Row Inp At)
open four (F4)
section
variable {H : Type} {enc : TypeId × Value → H} {P : Program} {w : World}
theorem open_gen {α : Type} {n : Nat} {t e : TypeId} {fuel : Nat} {cs : List Value} {x0 : DataW H × List MemPlace} (ht : P.underlying t = some (.slice e)) (s : P.cellsOf e = n) (hn : 0 < n) (R : List Value → α → Prop) (z : α)
    (op : ∀ {m : Nat} {cs : List Value} {x : DataW H × List MemPlace}, DataW.trod enc P w 0 (fun _ => true) true m e cs = some x → ∃ y, R cs y)
    (h : DataW.trod enc P w 0 (fun _ => true) true fuel t cs = some x0) :
    ∃ a cap, ∃ l : List α, cs = [.slice a l.length cap] ∧ l.length ≤ maxLen ∧ ∀ i, i < l.length → ∃ c off : Nat, a = some ⟨c, off, none⟩ ∧ ∃ cs', R cs' (l.getD i z) ∧ ∀ j, j < n → w.cell? ⟨c, off + (i * n + j), none⟩ = cs'[j]? := by
  rcases Go.Deep.open_slice ht h with ⟨rfl, _⟩ | ⟨x, len, cap, m, k, D, Pl, rfl, _, hl, hm, hmm, _, hx⟩
  · exact ⟨none, 0, [], rfl, Nat.zero_le _, fun i hi => absurd hi (by simp)⟩
  · simp at hmm
    subst hmm
    rw [s] at hx
    have each : ∀ i : Nat, ∃ y : α × List Value, i < m → R y.2 y.1 ∧ y.2.length = n ∧ ∀ j, j < n → w.cell? (x.add (i * n + j)) = y.2[j]? := by
      intro i
      by_cases hi : i < m
      · obtain ⟨cs', h1, h2⟩ := hx i hi
        obtain ⟨y, hy⟩ := op h2
        obtain ⟨_, hlen, hcell⟩ := World.cells?_some h1
        exact ⟨(y, cs'), fun _ => ⟨hy, hlen, fun j hj => by rw [← Go.Deep.add_add]; exact hcell j hj⟩⟩
      · exact ⟨(z, []), fun h => absurd h hi⟩
    obtain ⟨Y, hY⟩ := Classical.axiomOfChoice each
    obtain ⟨b, off, spot⟩ := x
    refine ⟨some ⟨b, off, spot⟩, m, (List.range len).map fun i => (Y i).1, (by simp), (by simp; exact Nat.le_trans hl hm), fun i hi => ?_⟩
    simp at hi
    have e : ((List.range len).map fun i => (Y i).1).getD i z = (Y i).1 := by
      rw [List.getD_eq_getElem?_getD, List.getElem?_map, List.getElem?_range hi]; rfl
    rw [e]
    obtain ⟨h1, h2, h3⟩ := hY i (by omega)
    have sp : spot = none := by
      obtain ⟨_, q2, q3⟩ := hY 0 (by omega)
      have h0 := q3 0 hn
      rw [List.getElem?_eq_getElem (by omega : 0 < (Y 0).2.length)] at h0
      have := cell_spot h0
      simpa [Addr.add] using this
    subst sp
    have fix : ∀ j, (⟨b, off, none⟩ : Addr).add j = ⟨b, off + j, none⟩ := fun j => by
      unfold Addr.add
      by_cases hj : j = 0 <;> simp [hj]
    exact ⟨b, off, rfl, (Y i).2, h1, fun j hj => by rw [← fix]; exact h3 j hj⟩
end
section
variable {H : Type} {enc : TypeId × Value → H} {w : World}
theorem open_items {fuel : Nat} {cs : List Value} {x0 : DataW H × List MemPlace} (h : DataW.trod enc Try.prog w 0 (fun _ => true) true fuel 22 cs = some x0) :
    ∃ a cap, ∃ l : List F4, cs = [.slice a l.length cap] ∧ l.length ≤ maxLen ∧ four.Inp w a l := by
  obtain ⟨a, cap, l, e, hl, hc⟩ := open_gen (P := Try.prog) (n := 4) Try.underlying22 four.cP (by omega) (fun cs (y : F4) => cs = [.int .i64 y.1, .int .i64 y.2.1, .int .i64 y.2.2.1, .int .i64 y.2.2.2]) four.zz (fun h => by obtain ⟨y, e, _⟩ := four.part_cells h; exact ⟨y, e⟩) h
  refine ⟨a, cap, l, e, hl, fun i hi => ?_⟩
  obtain ⟨c, off, rfl, cs', rfl, hj⟩ := hc i hi
  have q0 := hj 0 (by omega)
  have q1 := hj 1 (by omega)
  have q2 := hj 2 (by omega)
  have q3 := hj 3 (by omega)
  refine ⟨c, off, rfl, ⟨?_, ?_, ?_, ?_⟩⟩
  · simpa using q0
  · rw [Nat.add_assoc]; simpa using q1
  · rw [Nat.add_assoc]; simpa using q2
  · rw [Nat.add_assoc]; simpa using q3
theorem open_parts' {fuel : Nat} {cs : List Value} {x0 : DataW H × List MemPlace} (h : DataW.trod enc Try.prog w 0 (fun _ => true) true fuel 96 cs = some x0) :
    ∃ a cap, ∃ l : List F7, cs = [.slice a l.length cap] ∧ l.length ≤ maxLen ∧ Inp w a l := by
  obtain ⟨a, cap, l, e, hl, hc⟩ := open_gen (P := Try.prog) (n := 7) Try.underlying96 seven.cP (by omega) (fun cs (y : F7) => cs = [.int .i64 y.1, .int .i64 y.2.1, .int .i64 y.2.2.1, .int .i64 y.2.2.2.1, .int .i64 y.2.2.2.2.1, .int .i64 y.2.2.2.2.2.1, .int .i64 y.2.2.2.2.2.2]) zz (fun h => by obtain ⟨y, e, _⟩ := seven.part_cells h; exact ⟨y, e⟩) h
  refine ⟨a, cap, l, e, hl, fun i hi => ?_⟩
  obtain ⟨c, off, rfl, cs', rfl, hj⟩ := hc i hi
  have q0 := hj 0 (by omega)
  have q1 := hj 1 (by omega)
  have q2 := hj 2 (by omega)
  have q3 := hj 3 (by omega)
  have q4 := hj 4 (by omega)
  have q5 := hj 5 (by omega)
  have q6 := hj 6 (by omega)
  refine ⟨c, off, rfl, ⟨?_, ?_, ?_, ?_, ?_, ?_, ?_⟩⟩
  · simpa using q0
  · rw [Nat.add_assoc]; simpa using q1
  · rw [Nat.add_assoc]; simpa using q2
  · rw [Nat.add_assoc]; simpa using q3
  · rw [Nat.add_assoc]; simpa using q4
  · rw [Nat.add_assoc]; simpa using q5
  · rw [Nat.add_assoc]; simpa using q6
theorem cPl : Try.prog.cellsOf 98 = 1 := by kernel_rfl
theorem cPs : Try.prog.cellsOf 96 = 1 := by kernel_rfl
theorem cIs : Try.prog.cellsOf 22 = 1 := by kernel_rfl
theorem cPls : Try.prog.cellsOf 23 = 1 := by kernel_rfl
theorem cOr : Try.prog.cellsOf 25 = 13 := by kernel_rfl
set_option maxRecDepth 100000 in
theorem plan_cells {fuel : Nat} {cs : List Value} {x0 : DataW H × List MemPlace} (h : DataW.trod enc Try.prog w 0 (fun _ => true) true fuel 98 cs = some x0) :
    ∃ y : List F7, ∃ a cap, cs = [.slice a y.length cap] ∧ Inp w a y ∧ y.length ≤ maxLen := by
  obtain ⟨xs, n, _, _, hl, hxl, hf⟩ := DataW.trod_struct Try.underlying98 h
  rw [cPl] at hl
  match cs, hl, xs, hxl with
  | [v0], _, [y0], _ =>
    have g0 := hf 0 _ rfl
    simp [cPs] at g0
    obtain ⟨a, cap, l, e, h1, h2⟩ := open_parts' g0
    exact ⟨l, a, cap, e, h2, h1⟩
theorem open_plans {fuel : Nat} {cs : List Value} {x0 : DataW H × List MemPlace} (h : DataW.trod enc Try.prog w 0 (fun _ => true) true fuel 23 cs = some x0) :
    ∃ a cap, ∃ p : List (List F7), cs = [.slice a p.length cap] ∧ p.length ≤ maxLen ∧ InpP w a p ∧ ∀ i, i < p.length → (nth p i).length ≤ maxLen := by
  obtain ⟨a, cap, l, e, hl, hc⟩ := open_gen (P := Try.prog) (n := 1) Try.underlying23 cPl (by omega) (fun cs (y : List F7) => ∃ a cap, cs = [.slice a y.length cap] ∧ Inp w a y ∧ y.length ≤ maxLen) [] (fun h => plan_cells h) h
  refine ⟨a, cap, l, e, hl, fun i hi => ?_, fun i hi => by obtain ⟨_, _, _, _, ⟨_, _, _, _, h2⟩, _⟩ := hc i hi; exact h2⟩
  obtain ⟨c, off, rfl, cs', ⟨a', cap', rfl, h1, h2⟩, hj⟩ := hc i hi
  exact ⟨c, off, rfl, a', cap', by simpa [nth] using hj 0 (by omega), h1⟩
set_option maxRecDepth 100000 in
set_option maxHeartbeats 2000000 in
/-- An order that came in. -/
theorem order_cells {fuel : Nat} {cs : List Value} {x0 : DataW H × List MemPlace} (h : DataW.trod enc Try.prog w 0 (fun _ => true) true fuel 25 cs = some x0) :
    ∃ (s : ord.Sc) (ai : Option Addr) (ci : Nat) (l : List F4) (ap : Option Addr) (cp : Nat) (p : List (List F7)),
      cs = [.int .i64 s.id, .int .i64 s.co, .int .i64 s.me, .int .i64 s.cu, .int .i64 s.da, .int .i64 s.nn, .int .i64 s.ra, .int .i64 s.nu, .int .i64 s.de, .slice ai l.length ci, .slice ap p.length cp, .int .i64 s.op, .int .i64 s.up] ∧
      l.length ≤ maxLen ∧ p.length ≤ maxLen ∧ four.Inp w ai l ∧ InpP w ap p ∧ ∀ i, i < p.length → (nth p i).length ≤ maxLen := by
  obtain ⟨xs, n, _, _, hl, hxl, hf⟩ := DataW.trod_struct Try.underlying25 h
  rw [cOr] at hl
  match cs, hl, xs, hxl with
  | [v0, v1, v2, v3, v4, v5, v6, v7, v8, v9, v10, v11, v12], _, [y0, y1, y2, y3, y4, y5, y6, y7, y8, y9, y10, y11, y12], _ =>
    have g0 := hf 0 _ rfl
    have g1 := hf 1 _ rfl
    have g2 := hf 2 _ rfl
    have g3 := hf 3 _ rfl
    have g4 := hf 4 _ rfl
    have g5 := hf 5 _ rfl
    have g6 := hf 6 _ rfl
    have g7 := hf 7 _ rfl
    have g8 := hf 8 _ rfl
    have g9 := hf 9 _ rfl
    have g10 := hf 10 _ rfl
    have g11 := hf 11 _ rfl
    have g12 := hf 12 _ rfl
    simp [seven.c2, cIs, cPls] at g0 g1 g2 g3 g4 g5 g6 g7 g8 g9 g10 g11 g12
    obtain ⟨a0, e0, _, _⟩ := DataW.trod_int Try.underlying2 g0
    obtain ⟨a1, e1, _, _⟩ := DataW.trod_int Try.underlying2 g1
    obtain ⟨a2, e2, _, _⟩ := DataW.trod_int Try.underlying2 g2
    obtain ⟨a3, e3, _, _⟩ := DataW.trod_int Try.underlying2 g3
    obtain ⟨a4, e4, _, _⟩ := DataW.trod_int Try.underlying2 g4
    obtain ⟨a5, e5, _, _⟩ := DataW.trod_int Try.underlying2 g5
    obtain ⟨a6, e6, _, _⟩ := DataW.trod_int Try.underlying2 g6
    obtain ⟨a7, e7, _, _⟩ := DataW.trod_int Try.underlying2 g7
    obtain ⟨a8, e8, _, _⟩ := DataW.trod_int Try.underlying2 g8
    obtain ⟨ai, ci, l, e9, l9, h9⟩ := open_items g9
    obtain ⟨ap, cp, p, e10, l10, h10, m10⟩ := open_plans g10
    obtain ⟨a11, e11, _, _⟩ := DataW.trod_int Try.underlying2 g11
    obtain ⟨a12, e12, _, _⟩ := DataW.trod_int Try.underlying2 g12
    simp at e0 e1 e2 e3 e4 e5 e6 e7 e8 e9 e10 e11 e12
    exact ⟨⟨a0, a1, a2, a3, a4, a5, a6, a7, a8, a11, a12⟩, ai, ci, l, ap, cp, p, by rw [e0, e1, e2, e3, e4, e5, e6, e7, e8, e9, e10, e11, e12], l9, l10, h9, h10, m10⟩
set_option maxRecDepth 100000 in
theorem open_order {base : Nat} {v : Value} {d : DataW H} {q : List MemPlace} (hok : Value.okWide Try.prog w .any base 25 v) (h : DataW.Trod enc Try.prog w 0 (fun _ => true) true 25 v d q) :
    ∃ (s : ord.Sc) (ai : Option Addr) (ci : Nat) (l : List F4) (ap : Option Addr) (cp : Nat) (p : List (List F7)),
      v = .agg #[.int .i64 s.id, .int .i64 s.co, .int .i64 s.me, .int .i64 s.cu, .int .i64 s.da, .int .i64 s.nn, .int .i64 s.ra, .int .i64 s.nu, .int .i64 s.de, .slice ai l.length ci, .slice ap p.length cp, .int .i64 s.op, .int .i64 s.up] ∧
      l.length ≤ maxLen ∧ p.length ≤ maxLen ∧ four.Inp w ai l ∧ InpP w ap p ∧ ∀ i, i < p.length → (nth p i).length ≤ maxLen := by
  obtain ⟨cs, rfl, _⟩ := okWide_struct Try.underlying25 hok
  obtain ⟨fuel, hf⟩ := h
  obtain ⟨s, ai, ci, l, ap, cp, p, e, r⟩ := order_cells hf
  refine ⟨s, ai, ci, l, ap, cp, p, ?_, r⟩
  have e' : cs.toList = _ := e
  obtain ⟨l⟩ := cs
  simp at e'
  rw [e']
end
end Go.Proofs.Ytmaejlfjdkkpdaa.pls

namespace Go.Proofs.Ytmaejlfjdkkpdaa.pls
open Go.ChangeShapes Go.WideShapes Go.ChangeAt Go.RowKit
open gen
open seven (F7 zz Row At)
open four (F4)
open pl (inR)
open ord (Sc iok)
/-- An order's copy in memory of its own. -/
def CopiedO (w : World) (s : Sc) (l : List F4) (p : List (List F7)) (e : Ending) (w' : World) : Prop := ∃ gi gp gs, e = .returned (.agg #[.int .i64 s.id, .int .i64 s.co, .int .i64 s.me, .int .i64 s.cu, .int .i64 s.da, .int .i64 s.nn, .int .i64 s.ra, .int .i64 s.nu, .int .i64 s.de, .slice (some ⟨gi, 0, none⟩) l.length l.length, .slice (some ⟨gp, 0, none⟩) p.length p.length, .int .i64 s.op, .int .i64 s.up]) ∧
  OL w' w.heap.size l p (some ⟨gi, 0, none⟩) l.length gi (some ⟨gp, 0, none⟩) p.length gp gs (fun i => (nth p i).length) ∧ w.heap.size ≤ gi ∧ gi < gp ∧ gp < w'.heap.size ∧ Below w.heap.size w w'
set_option maxRecDepth 100000 in
set_option maxHeartbeats 4000000 in
theorem toO (s : Sc) (ai : Option Addr) (ci : Nat) (l : List F4) (ap : Option Addr) (cp : Nat) (p : List (List F7)) (w : World) (h1 : four.Inp w ai l) (h2 : InpP w ap p) (hl : l.length ≤ 1048576) (hn : p.length ≤ 1048576) (hm : ∀ i, i < p.length → (nth p i).length ≤ 1048576) :
    Calls Try.prog 16 #[.agg #[.int .i64 s.id, .int .i64 s.co, .int .i64 s.me, .int .i64 s.cu, .int .i64 s.da, .int .i64 s.nn, .int .i64 s.ra, .int .i64 s.nu, .int .i64 s.de, .slice ai l.length ci, .slice ap p.length cp, .int .i64 s.op, .int .i64 s.up]] w (CopiedO w s l p) := by
  have CI := Lib.hid (fun W (hb : Below w.heap.size w W) => four.copy ai ci l W (h1.below hb) hl)
  have CP := Lib.hid (fun W (hb : Below w.heap.size w W) => copyP ap cp p W (h2.below hb) hn hm)
  clear h1 h2 hm
  have B1 := Lib.hid (show Below w.heap.size w (((w.alloc (.cells #[.int .i64 s.id, .int .i64 s.co, .int .i64 s.me, .int .i64 s.cu, .int .i64 s.da, .int .i64 s.nn, .int .i64 s.ra, .int .i64 s.nu, .int .i64 s.de, .slice ai l.length ci, .slice ap p.length cp, .int .i64 s.op, .int .i64 s.up] 25)).alloc (.cells #[.int .i64 0, .int .i64 0, .int .i64 0, .int .i64 0, .int .i64 0, .int .i64 0, .int .i64 0, .int .i64 0, .int .i64 0, .slice none 0 0, .slice none 0 0, .int .i64 0, .int .i64 0] 31)).alloc (.cells #[.int .i64 s.id, .int .i64 s.co, .int .i64 s.me, .int .i64 s.cu, .int .i64 s.da, .int .i64 s.nn, .int .i64 s.ra, .int .i64 s.nu, .int .i64 s.de, .slice none 0 0, .slice none 0 0, .int .i64 0, .int .i64 0] 31)) from bAl (bAl (bAl (Below.refl _ _) (Nat.le_refl _) _) (Nat.le_refl _) _) (Nat.le_refl _) _)
  have X0 := ((Blk.new w #[.int .i64 s.id, .int .i64 s.co, .int .i64 s.me, .int .i64 s.cu, .int .i64 s.da, .int .i64 s.nn, .int .i64 s.ra, .int .i64 s.nu, .int .i64 s.de, .slice ai l.length ci, .slice ap p.length cp, .int .i64 s.op, .int .i64 s.up] 25 13 rfl).al (.cells #[.int .i64 0, .int .i64 0, .int .i64 0, .int .i64 0, .int .i64 0, .int .i64 0, .int .i64 0, .int .i64 0, .int .i64 0, .slice none 0 0, .slice none 0 0, .int .i64 0, .int .i64 0] 31)).al (.cells #[.int .i64 s.id, .int .i64 s.co, .int .i64 s.me, .int .i64 s.cu, .int .i64 s.da, .int .i64 s.nn, .int .i64 s.ra, .int .i64 s.nu, .int .i64 s.de, .slice none 0 0, .slice none 0 0, .int .i64 0, .int .i64 0] 31)
  have X1 := (Blk.new (w.alloc (.cells #[.int .i64 s.id, .int .i64 s.co, .int .i64 s.me, .int .i64 s.cu, .int .i64 s.da, .int .i64 s.nn, .int .i64 s.ra, .int .i64 s.nu, .int .i64 s.de, .slice ai l.length ci, .slice ap p.length cp, .int .i64 s.op, .int .i64 s.up] 25)) #[.int .i64 0, .int .i64 0, .int .i64 0, .int .i64 0, .int .i64 0, .int .i64 0, .int .i64 0, .int .i64 0, .int .i64 0, .slice none 0 0, .slice none 0 0, .int .i64 0, .int .i64 0] 31 13 rfl).al (.cells #[.int .i64 s.id, .int .i64 s.co, .int .i64 s.me, .int .i64 s.cu, .int .i64 s.da, .int .i64 s.nn, .int .i64 s.ra, .int .i64 s.nu, .int .i64 s.de, .slice none 0 0, .slice none 0 0, .int .i64 0, .int .i64 0] 31)
  have X2 := Blk.new ((w.alloc (.cells #[.int .i64 s.id, .int .i64 s.co, .int .i64 s.me, .int .i64 s.cu, .int .i64 s.da, .int .i64 s.nn, .int .i64 s.ra, .int .i64 s.nu, .int .i64 s.de, .slice ai l.length ci, .slice ap p.length cp, .int .i64 s.op, .int .i64 s.up] 25)).alloc (.cells #[.int .i64 0, .int .i64 0, .int .i64 0, .int .i64 0, .int .i64 0, .int .i64 0, .int .i64 0, .int .i64 0, .int .i64 0, .slice none 0 0, .slice none 0 0, .int .i64 0, .int .i64 0] 31)) #[.int .i64 s.id, .int .i64 s.co, .int .i64 s.me, .int .i64 s.cu, .int .i64 s.da, .int .i64 s.nn, .int .i64 s.ra, .int .i64 s.nu, .int .i64 s.de, .slice none 0 0, .slice none 0 0, .int .i64 0, .int .i64 0] 31 13 rfl
  have z1 : (((w.alloc (.cells #[.int .i64 s.id, .int .i64 s.co, .int .i64 s.me, .int .i64 s.cu, .int .i64 s.da, .int .i64 s.nn, .int .i64 s.ra, .int .i64 s.nu, .int .i64 s.de, .slice ai l.length ci, .slice ap p.length cp, .int .i64 s.op, .int .i64 s.up] 25)).alloc (.cells #[.int .i64 0, .int .i64 0, .int .i64 0, .int .i64 0, .int .i64 0, .int .i64 0, .int .i64 0, .int .i64 0, .int .i64 0, .slice none 0 0, .slice none 0 0, .int .i64 0, .int .i64 0] 31)).alloc (.cells #[.int .i64 s.id, .int .i64 s.co, .int .i64 s.me, .int .i64 s.cu, .int .i64 s.da, .int .i64 s.nn, .int .i64 s.ra, .int .i64 s.nu, .int .i64 s.de, .slice none 0 0, .slice none 0 0, .int .i64 0, .int .i64 0] 31)).heap.size = w.heap.size + 1 + 1 + 1 := by simp only [sz_al]
  simp only [sz_al] at X1 X2
  go_enter Try.func16, Try.ntmps16
  go_wp2_with fail
  generalize ((w.alloc (.cells #[.int .i64 s.id, .int .i64 s.co, .int .i64 s.me, .int .i64 s.cu, .int .i64 s.da, .int .i64 s.nn, .int .i64 s.ra, .int .i64 s.nu, .int .i64 s.de, .slice ai l.length ci, .slice ap p.length cp, .int .i64 s.op, .int .i64 s.up] 25)).alloc (.cells #[.int .i64 0, .int .i64 0, .int .i64 0, .int .i64 0, .int .i64 0, .int .i64 0, .int .i64 0, .int .i64 0, .int .i64 0, .slice none 0 0, .slice none 0 0, .int .i64 0, .int .i64 0] 31)).alloc (.cells #[.int .i64 s.id, .int .i64 s.co, .int .i64 s.me, .int .i64 s.cu, .int .i64 s.da, .int .i64 s.nn, .int .i64 s.ra, .int .i64 s.nu, .int .i64 s.de, .slice none 0 0, .slice none 0 0, .int .i64 0, .int .i64 0] 31) = W1 at B1 X0 X1 X2 z1 ⊢
  refine (CI.out W1 B1.out).mono ?_
  rintro e w2 ⟨gi, rfl, r1, l1, k1, b1⟩
  have R1 := Lib.hid r1
  have B2 := Lib.hid (B1.out.trans (b1.mono B1.out.size))
  replace X0 := X0.below b1 X0.lt
  replace X1 := X1.below b1 X1.lt
  replace X2 := X2.below b1 X2.lt
  have L1 := Lib.hid (show w.heap.size + 1 + 1 + 1 ≤ gi ∧ gi < w2.heap.size from by omega)
  clear r1 b1 l1 k1 B1 z1
  have a10 : w2.cell? ⟨w.heap.size, 10, none⟩ = some (.slice ap p.length cp) := X0.cell 10 (by decide)
  have a11 : w2.cell? ⟨w.heap.size, 11, none⟩ = some (.int .i64 s.op) := X0.cell 11 (by decide)
  have a12 : w2.cell? ⟨w.heap.size, 12, none⟩ = some (.int .i64 s.up) := X0.cell 12 (by decide)
  have b9 : w2.cell? ⟨w.heap.size + 1 + 1, 9, none⟩ = some (.slice none 0 0) := X2.cell 9 (by decide)
  have f9 := X2.free 9
  have X0h := Lib.hid X0
  have X1h := Lib.hid X1
  have X2h := Lib.hid X2
  clear X0 X1 X2
  go_wp2_with fail
  have B2' := Lib.hid (B2.out.setCell (p := ⟨w.heap.size + 1 + 1, 9, none⟩) (show w.heap.size ≤ w.heap.size + 1 + 1 by omega) (.slice (some ⟨gi, 0, none⟩) l.length l.length))
  have X0 := X0h.out.other (k := 9) (g' := w.heap.size + 1 + 1) (by omega) (.slice (some ⟨gi, 0, none⟩) l.length l.length)
  have X1 := X1h.out.other (k := 9) (g' := w.heap.size + 1 + 1) (by omega) (.slice (some ⟨gi, 0, none⟩) l.length l.length)
  have X2 := X2h.out.set (k := 9) (by decide) (.slice (some ⟨gi, 0, none⟩) l.length l.length)
  have R2 := Lib.hid (R1.out.keep (w' := w2.setCell ⟨w.heap.size + 1 + 1, 9, none⟩ (.slice (some ⟨gi, 0, none⟩) l.length l.length)) fun _ => Below.heap_setCell _ _ _ _ (show gi ≠ w.heap.size + 1 + 1 by have := L1.out; omega))
  have L2 := Lib.hid (show w.heap.size + 1 + 1 + 1 ≤ gi ∧ gi < (w2.setCell ⟨w.heap.size + 1 + 1, 9, none⟩ (.slice (some ⟨gi, 0, none⟩) l.length l.length)).heap.size from by rw [sz_set]; exact L1.out)
  clear B2 X0h X1h X2h R1 L1 a10 a11 a12 b9 f9
  generalize w2.setCell ⟨w.heap.size + 1 + 1, 9, none⟩ (.slice (some ⟨gi, 0, none⟩) l.length l.length) = W2 at B2' X0 X1 X2 R2 L2 ⊢
  refine (CP.out W2 B2'.out).mono ?_
  rintro e w3 ⟨gp, gs, rfl, r3, l3, k3, g3, b3⟩
  have P3 := Lib.hid r3
  have R3 := Lib.hid (R2.out.keep (w' := w3) fun _ => b3.block gi L2.out.2)
  have B3 := Lib.hid (B2'.out.trans (b3.mono B2'.out.size))
  replace X0 := X0.below b3 X0.lt
  replace X1 := X1.below b3 X1.lt
  replace X2 := X2.below b3 X2.lt
  have L3 := Lib.hid (show w.heap.size + 1 + 1 + 1 ≤ gi ∧ gi < gp ∧ gp < w3.heap.size from by have := L2.out; omega)
  have G3 := Lib.hid g3
  clear r3 b3 l3 k3 g3 B2' R2 L2
  have a11 : w3.cell? ⟨w.heap.size, 11, none⟩ = some (.int .i64 s.op) := X0.cell 11 (by decide)
  have a12 : w3.cell? ⟨w.heap.size, 12, none⟩ = some (.int .i64 s.up) := X0.cell 12 (by decide)
  have b0 : w3.cell? ⟨w.heap.size + 1 + 1, 0, none⟩ = some (.int .i64 s.id) := X2.cell 0 (by decide)
  have b1 : w3.cell? ⟨w.heap.size + 1 + 1, 1, none⟩ = some (.int .i64 s.co) := X2.cell 1 (by decide)
  have b2 : w3.cell? ⟨w.heap.size + 1 + 1, 2, none⟩ = some (.int .i64 s.me) := X2.cell 2 (by decide)
  have b3 : w3.cell? ⟨w.heap.size + 1 + 1, 3, none⟩ = some (.int .i64 s.cu) := X2.cell 3 (by decide)
  have b4 : w3.cell? ⟨w.heap.size + 1 + 1, 4, none⟩ = some (.int .i64 s.da) := X2.cell 4 (by decide)
  have b5 : w3.cell? ⟨w.heap.size + 1 + 1, 5, none⟩ = some (.int .i64 s.nn) := X2.cell 5 (by decide)
  have b6 : w3.cell? ⟨w.heap.size + 1 + 1, 6, none⟩ = some (.int .i64 s.ra) := X2.cell 6 (by decide)
  have b7 : w3.cell? ⟨w.heap.size + 1 + 1, 7, none⟩ = some (.int .i64 s.nu) := X2.cell 7 (by decide)
  have b8 : w3.cell? ⟨w.heap.size + 1 + 1, 8, none⟩ = some (.int .i64 s.de) := X2.cell 8 (by decide)
  have b9 : w3.cell? ⟨w.heap.size + 1 + 1, 9, none⟩ = some (.slice (some ⟨gi, 0, none⟩) l.length l.length) := X2.cell 9 (by decide)
  have b10 : w3.cell? ⟨w.heap.size + 1 + 1, 10, none⟩ = some (.slice none 0 0) := X2.cell 10 (by decide)
  have b11 : w3.cell? ⟨w.heap.size + 1 + 1, 11, none⟩ = some (.int .i64 0) := X2.cell 11 (by decide)
  have b12 : w3.cell? ⟨w.heap.size + 1 + 1, 12, none⟩ = some (.int .i64 0) := X2.cell 12 (by decide)
  have f10 := X2.free 10
  have f11 := X2.free 11
  have f12 := X2.free 12
  have c0 : w3.cell? ⟨w.heap.size + 1, 0, none⟩ = some (.int .i64 0) := X1.cell 0 (by decide)
  have c1 : w3.cell? ⟨w.heap.size + 1, 1, none⟩ = some (.int .i64 0) := X1.cell 1 (by decide)
  have c2 : w3.cell? ⟨w.heap.size + 1, 2, none⟩ = some (.int .i64 0) := X1.cell 2 (by decide)
  have c3 : w3.cell? ⟨w.heap.size + 1, 3, none⟩ = some (.int .i64 0) := X1.cell 3 (by decide)
  have c4 : w3.cell? ⟨w.heap.size + 1, 4, none⟩ = some (.int .i64 0) := X1.cell 4 (by decide)
  have c5 : w3.cell? ⟨w.heap.size + 1, 5, none⟩ = some (.int .i64 0) := X1.cell 5 (by decide)
  have c6 : w3.cell? ⟨w.heap.size + 1, 6, none⟩ = some (.int .i64 0) := X1.cell 6 (by decide)
  have c7 : w3.cell? ⟨w.heap.size + 1, 7, none⟩ = some (.int .i64 0) := X1.cell 7 (by decide)
  have c8 : w3.cell? ⟨w.heap.size + 1, 8, none⟩ = some (.int .i64 0) := X1.cell 8 (by decide)
  have c9 : w3.cell? ⟨w.heap.size + 1, 9, none⟩ = some (.slice none 0 0) := X1.cell 9 (by decide)
  have c10 : w3.cell? ⟨w.heap.size + 1, 10, none⟩ = some (.slice none 0 0) := X1.cell 10 (by decide)
  have c11 : w3.cell? ⟨w.heap.size + 1, 11, none⟩ = some (.int .i64 0) := X1.cell 11 (by decide)
  have c12 : w3.cell? ⟨w.heap.size + 1, 12, none⟩ = some (.int .i64 0) := X1.cell 12 (by decide)
  have h0 := X1.free 0
  have h1 := X1.free 1
  have h2 := X1.free 2
  have h3 := X1.free 3
  have h4 := X1.free 4
  have h5 := X1.free 5
  have h6 := X1.free 6
  have h7 := X1.free 7
  have h8 := X1.free 8
  have h9 := X1.free 9
  have h10 := X1.free 10
  have h11 := X1.free 11
  have h12 := X1.free 12
  have Y := Lib.hid ((((((((((((((((X1.other (k := 10) (g' := w.heap.size + 1 + 1) (by omega) (.slice (some ⟨gp, 0, none⟩) p.length p.length)).other (k := 11) (g' := w.heap.size + 1 + 1) (by omega) (.int .i64 s.op)).other (k := 12) (g' := w.heap.size + 1 + 1) (by omega) (.int .i64 s.up)).set (k := 0) (by decide) (.int .i64 s.id)).set (k := 1) (by decide) (.int .i64 s.co)).set (k := 2) (by decide) (.int .i64 s.me)).set (k := 3) (by decide) (.int .i64 s.cu)).set (k := 4) (by decide) (.int .i64 s.da)).set (k := 5) (by decide) (.int .i64 s.nn)).set (k := 6) (by decide) (.int .i64 s.ra)).set (k := 7) (by decide) (.int .i64 s.nu)).set (k := 8) (by decide) (.int .i64 s.de)).set (k := 9) (by decide) (.slice (some ⟨gi, 0, none⟩) l.length l.length)).set (k := 10) (by decide) (.slice (some ⟨gp, 0, none⟩) p.length p.length)).set (k := 11) (by decide) (.int .i64 s.op)).set (k := 12) (by decide) (.int .i64 s.up))
  have BF := Lib.hid (show Below w.heap.size w ((((((((((((((((w3.setCell ⟨w.heap.size + 1 + 1, 10, none⟩ (.slice (some ⟨gp, 0, none⟩) p.length p.length)).setCell ⟨w.heap.size + 1 + 1, 11, none⟩ (.int .i64 s.op)).setCell ⟨w.heap.size + 1 + 1, 12, none⟩ (.int .i64 s.up)).setCell ⟨w.heap.size + 1, 0, none⟩ (.int .i64 s.id)).setCell ⟨w.heap.size + 1, 1, none⟩ (.int .i64 s.co)).setCell ⟨w.heap.size + 1, 2, none⟩ (.int .i64 s.me)).setCell ⟨w.heap.size + 1, 3, none⟩ (.int .i64 s.cu)).setCell ⟨w.heap.size + 1, 4, none⟩ (.int .i64 s.da)).setCell ⟨w.heap.size + 1, 5, none⟩ (.int .i64 s.nn)).setCell ⟨w.heap.size + 1, 6, none⟩ (.int .i64 s.ra)).setCell ⟨w.heap.size + 1, 7, none⟩ (.int .i64 s.nu)).setCell ⟨w.heap.size + 1, 8, none⟩ (.int .i64 s.de)).setCell ⟨w.heap.size + 1, 9, none⟩ (.slice (some ⟨gi, 0, none⟩) l.length l.length)).setCell ⟨w.heap.size + 1, 10, none⟩ (.slice (some ⟨gp, 0, none⟩) p.length p.length)).setCell ⟨w.heap.size + 1, 11, none⟩ (.int .i64 s.op)).setCell ⟨w.heap.size + 1, 12, none⟩ (.int .i64 s.up)) from ((((((((((((((((B3.out.setCell (p := ⟨w.heap.size + 1 + 1, 10, none⟩) (show w.heap.size ≤ w.heap.size + 1 + 1 by omega) _).setCell (p := ⟨w.heap.size + 1 + 1, 11, none⟩) (show w.heap.size ≤ w.heap.size + 1 + 1 by omega) _).setCell (p := ⟨w.heap.size + 1 + 1, 12, none⟩) (show w.heap.size ≤ w.heap.size + 1 + 1 by omega) _).setCell (p := ⟨w.heap.size + 1, 0, none⟩) (show w.heap.size ≤ w.heap.size + 1 by omega) _).setCell (p := ⟨w.heap.size + 1, 1, none⟩) (show w.heap.size ≤ w.heap.size + 1 by omega) _).setCell (p := ⟨w.heap.size + 1, 2, none⟩) (show w.heap.size ≤ w.heap.size + 1 by omega) _).setCell (p := ⟨w.heap.size + 1, 3, none⟩) (show w.heap.size ≤ w.heap.size + 1 by omega) _).setCell (p := ⟨w.heap.size + 1, 4, none⟩) (show w.heap.size ≤ w.heap.size + 1 by omega) _).setCell (p := ⟨w.heap.size + 1, 5, none⟩) (show w.heap.size ≤ w.heap.size + 1 by omega) _).setCell (p := ⟨w.heap.size + 1, 6, none⟩) (show w.heap.size ≤ w.heap.size + 1 by omega) _).setCell (p := ⟨w.heap.size + 1, 7, none⟩) (show w.heap.size ≤ w.heap.size + 1 by omega) _).setCell (p := ⟨w.heap.size + 1, 8, none⟩) (show w.heap.size ≤ w.heap.size + 1 by omega) _).setCell (p := ⟨w.heap.size + 1, 9, none⟩) (show w.heap.size ≤ w.heap.size + 1 by omega) _).setCell (p := ⟨w.heap.size + 1, 10, none⟩) (show w.heap.size ≤ w.heap.size + 1 by omega) _).setCell (p := ⟨w.heap.size + 1, 11, none⟩) (show w.heap.size ≤ w.heap.size + 1 by omega) _).setCell (p := ⟨w.heap.size + 1, 12, none⟩) (show w.heap.size ≤ w.heap.size + 1 by omega) _))
  have RF := Lib.hid (R3.out.keep (w' := (((((((((((((((w3.setCell ⟨w.heap.size + 1 + 1, 10, none⟩ (.slice (some ⟨gp, 0, none⟩) p.length p.length)).setCell ⟨w.heap.size + 1 + 1, 11, none⟩ (.int .i64 s.op)).setCell ⟨w.heap.size + 1 + 1, 12, none⟩ (.int .i64 s.up)).setCell ⟨w.heap.size + 1, 0, none⟩ (.int .i64 s.id)).setCell ⟨w.heap.size + 1, 1, none⟩ (.int .i64 s.co)).setCell ⟨w.heap.size + 1, 2, none⟩ (.int .i64 s.me)).setCell ⟨w.heap.size + 1, 3, none⟩ (.int .i64 s.cu)).setCell ⟨w.heap.size + 1, 4, none⟩ (.int .i64 s.da)).setCell ⟨w.heap.size + 1, 5, none⟩ (.int .i64 s.nn)).setCell ⟨w.heap.size + 1, 6, none⟩ (.int .i64 s.ra)).setCell ⟨w.heap.size + 1, 7, none⟩ (.int .i64 s.nu)).setCell ⟨w.heap.size + 1, 8, none⟩ (.int .i64 s.de)).setCell ⟨w.heap.size + 1, 9, none⟩ (.slice (some ⟨gi, 0, none⟩) l.length l.length)).setCell ⟨w.heap.size + 1, 10, none⟩ (.slice (some ⟨gp, 0, none⟩) p.length p.length)).setCell ⟨w.heap.size + 1, 11, none⟩ (.int .i64 s.op)).setCell ⟨w.heap.size + 1, 12, none⟩ (.int .i64 s.up)) fun _ => by have := L3.out; exact ((((((((((((((((Below.heap_setCell _ _ _ _ (show gi ≠ w.heap.size + 1 by omega)).trans (Below.heap_setCell _ _ _ _ (show gi ≠ w.heap.size + 1 by omega))).trans (Below.heap_setCell _ _ _ _ (show gi ≠ w.heap.size + 1 by omega))).trans (Below.heap_setCell _ _ _ _ (show gi ≠ w.heap.size + 1 by omega))).trans (Below.heap_setCell _ _ _ _ (show gi ≠ w.heap.size + 1 by omega))).trans (Below.heap_setCell _ _ _ _ (show gi ≠ w.heap.size + 1 by omega))).trans (Below.heap_setCell _ _ _ _ (show gi ≠ w.heap.size + 1 by omega))).trans (Below.heap_setCell _ _ _ _ (show gi ≠ w.heap.size + 1 by omega))).trans (Below.heap_setCell _ _ _ _ (show gi ≠ w.heap.size + 1 by omega))).trans (Below.heap_setCell _ _ _ _ (show gi ≠ w.heap.size + 1 by omega))).trans (Below.heap_setCell _ _ _ _ (show gi ≠ w.heap.size + 1 by omega))).trans (Below.heap_setCell _ _ _ _ (show gi ≠ w.heap.size + 1 by omega))).trans (Below.heap_setCell _ _ _ _ (show gi ≠ w.heap.size + 1 by omega))).trans (Below.heap_setCell _ _ _ _ (show gi ≠ w.heap.size + 1 + 1 by omega))).trans (Below.heap_setCell _ _ _ _ (show gi ≠ w.heap.size + 1 + 1 by omega))).trans (Below.heap_setCell _ _ _ _ (show gi ≠ w.heap.size + 1 + 1 by omega))))
  have PF := Lib.hid (P3.out.keep (w' := (((((((((((((((w3.setCell ⟨w.heap.size + 1 + 1, 10, none⟩ (.slice (some ⟨gp, 0, none⟩) p.length p.length)).setCell ⟨w.heap.size + 1 + 1, 11, none⟩ (.int .i64 s.op)).setCell ⟨w.heap.size + 1 + 1, 12, none⟩ (.int .i64 s.up)).setCell ⟨w.heap.size + 1, 0, none⟩ (.int .i64 s.id)).setCell ⟨w.heap.size + 1, 1, none⟩ (.int .i64 s.co)).setCell ⟨w.heap.size + 1, 2, none⟩ (.int .i64 s.me)).setCell ⟨w.heap.size + 1, 3, none⟩ (.int .i64 s.cu)).setCell ⟨w.heap.size + 1, 4, none⟩ (.int .i64 s.da)).setCell ⟨w.heap.size + 1, 5, none⟩ (.int .i64 s.nn)).setCell ⟨w.heap.size + 1, 6, none⟩ (.int .i64 s.ra)).setCell ⟨w.heap.size + 1, 7, none⟩ (.int .i64 s.nu)).setCell ⟨w.heap.size + 1, 8, none⟩ (.int .i64 s.de)).setCell ⟨w.heap.size + 1, 9, none⟩ (.slice (some ⟨gi, 0, none⟩) l.length l.length)).setCell ⟨w.heap.size + 1, 10, none⟩ (.slice (some ⟨gp, 0, none⟩) p.length p.length)).setCell ⟨w.heap.size + 1, 11, none⟩ (.int .i64 s.op)).setCell ⟨w.heap.size + 1, 12, none⟩ (.int .i64 s.up)) (fun _ => by have := L3.out; exact ((((((((((((((((Below.heap_setCell _ _ _ _ (show gp ≠ w.heap.size + 1 by omega)).trans (Below.heap_setCell _ _ _ _ (show gp ≠ w.heap.size + 1 by omega))).trans (Below.heap_setCell _ _ _ _ (show gp ≠ w.heap.size + 1 by omega))).trans (Below.heap_setCell _ _ _ _ (show gp ≠ w.heap.size + 1 by omega))).trans (Below.heap_setCell _ _ _ _ (show gp ≠ w.heap.size + 1 by omega))).trans (Below.heap_setCell _ _ _ _ (show gp ≠ w.heap.size + 1 by omega))).trans (Below.heap_setCell _ _ _ _ (show gp ≠ w.heap.size + 1 by omega))).trans (Below.heap_setCell _ _ _ _ (show gp ≠ w.heap.size + 1 by omega))).trans (Below.heap_setCell _ _ _ _ (show gp ≠ w.heap.size + 1 by omega))).trans (Below.heap_setCell _ _ _ _ (show gp ≠ w.heap.size + 1 by omega))).trans (Below.heap_setCell _ _ _ _ (show gp ≠ w.heap.size + 1 by omega))).trans (Below.heap_setCell _ _ _ _ (show gp ≠ w.heap.size + 1 by omega))).trans (Below.heap_setCell _ _ _ _ (show gp ≠ w.heap.size + 1 by omega))).trans (Below.heap_setCell _ _ _ _ (show gp ≠ w.heap.size + 1 + 1 by omega))).trans (Below.heap_setCell _ _ _ _ (show gp ≠ w.heap.size + 1 + 1 by omega))).trans (Below.heap_setCell _ _ _ _ (show gp ≠ w.heap.size + 1 + 1 by omega)))) (fun i hi => by have := L3.out; have := G3.out i hi; exact ((((((((((((((((Below.heap_setCell _ _ _ _ (show gs i ≠ w.heap.size + 1 by omega)).trans (Below.heap_setCell _ _ _ _ (show gs i ≠ w.heap.size + 1 by omega))).trans (Below.heap_setCell _ _ _ _ (show gs i ≠ w.heap.size + 1 by omega))).trans (Below.heap_setCell _ _ _ _ (show gs i ≠ w.heap.size + 1 by omega))).trans (Below.heap_setCell _ _ _ _ (show gs i ≠ w.heap.size + 1 by omega))).trans (Below.heap_setCell _ _ _ _ (show gs i ≠ w.heap.size + 1 by omega))).trans (Below.heap_setCell _ _ _ _ (show gs i ≠ w.heap.size + 1 by omega))).trans (Below.heap_setCell _ _ _ _ (show gs i ≠ w.heap.size + 1 by omega))).trans (Below.heap_setCell _ _ _ _ (show gs i ≠ w.heap.size + 1 by omega))).trans (Below.heap_setCell _ _ _ _ (show gs i ≠ w.heap.size + 1 by omega))).trans (Below.heap_setCell _ _ _ _ (show gs i ≠ w.heap.size + 1 by omega))).trans (Below.heap_setCell _ _ _ _ (show gs i ≠ w.heap.size + 1 by omega))).trans (Below.heap_setCell _ _ _ _ (show gs i ≠ w.heap.size + 1 by omega))).trans (Below.heap_setCell _ _ _ _ (show gs i ≠ w.heap.size + 1 + 1 by omega))).trans (Below.heap_setCell _ _ _ _ (show gs i ≠ w.heap.size + 1 + 1 by omega))).trans (Below.heap_setCell _ _ _ _ (show gs i ≠ w.heap.size + 1 + 1 by omega)))) (by simp only [sz_set]; exact Nat.le_refl _))
  have LF := Lib.hid (show w.heap.size + 1 + 1 + 1 ≤ gi ∧ gi < gp ∧ gp < ((((((((((((((((w3.setCell ⟨w.heap.size + 1 + 1, 10, none⟩ (.slice (some ⟨gp, 0, none⟩) p.length p.length)).setCell ⟨w.heap.size + 1 + 1, 11, none⟩ (.int .i64 s.op)).setCell ⟨w.heap.size + 1 + 1, 12, none⟩ (.int .i64 s.up)).setCell ⟨w.heap.size + 1, 0, none⟩ (.int .i64 s.id)).setCell ⟨w.heap.size + 1, 1, none⟩ (.int .i64 s.co)).setCell ⟨w.heap.size + 1, 2, none⟩ (.int .i64 s.me)).setCell ⟨w.heap.size + 1, 3, none⟩ (.int .i64 s.cu)).setCell ⟨w.heap.size + 1, 4, none⟩ (.int .i64 s.da)).setCell ⟨w.heap.size + 1, 5, none⟩ (.int .i64 s.nn)).setCell ⟨w.heap.size + 1, 6, none⟩ (.int .i64 s.ra)).setCell ⟨w.heap.size + 1, 7, none⟩ (.int .i64 s.nu)).setCell ⟨w.heap.size + 1, 8, none⟩ (.int .i64 s.de)).setCell ⟨w.heap.size + 1, 9, none⟩ (.slice (some ⟨gi, 0, none⟩) l.length l.length)).setCell ⟨w.heap.size + 1, 10, none⟩ (.slice (some ⟨gp, 0, none⟩) p.length p.length)).setCell ⟨w.heap.size + 1, 11, none⟩ (.int .i64 s.op)).setCell ⟨w.heap.size + 1, 12, none⟩ (.int .i64 s.up)).heap.size from by simp only [sz_set]; exact L3.out)
  clear X0 X1 X2 B3 R3 P3 L3
  go_wp2
  change bodyPost _ _ _ _ _ ((((((((((((((((w3.setCell ⟨w.heap.size + 1 + 1, 10, none⟩ (.slice (some ⟨gp, 0, none⟩) p.length p.length)).setCell ⟨w.heap.size + 1 + 1, 11, none⟩ (.int .i64 s.op)).setCell ⟨w.heap.size + 1 + 1, 12, none⟩ (.int .i64 s.up)).setCell ⟨w.heap.size + 1, 0, none⟩ (.int .i64 s.id)).setCell ⟨w.heap.size + 1, 1, none⟩ (.int .i64 s.co)).setCell ⟨w.heap.size + 1, 2, none⟩ (.int .i64 s.me)).setCell ⟨w.heap.size + 1, 3, none⟩ (.int .i64 s.cu)).setCell ⟨w.heap.size + 1, 4, none⟩ (.int .i64 s.da)).setCell ⟨w.heap.size + 1, 5, none⟩ (.int .i64 s.nn)).setCell ⟨w.heap.size + 1, 6, none⟩ (.int .i64 s.ra)).setCell ⟨w.heap.size + 1, 7, none⟩ (.int .i64 s.nu)).setCell ⟨w.heap.size + 1, 8, none⟩ (.int .i64 s.de)).setCell ⟨w.heap.size + 1, 9, none⟩ (.slice (some ⟨gi, 0, none⟩) l.length l.length)).setCell ⟨w.heap.size + 1, 10, none⟩ (.slice (some ⟨gp, 0, none⟩) p.length p.length)).setCell ⟨w.heap.size + 1, 11, none⟩ (.int .i64 s.op)).setCell ⟨w.heap.size + 1, 12, none⟩ (.int .i64 s.up))
  generalize (((((((((((((((w3.setCell ⟨w.heap.size + 1 + 1, 10, none⟩ (.slice (some ⟨gp, 0, none⟩) p.length p.length)).setCell ⟨w.heap.size + 1 + 1, 11, none⟩ (.int .i64 s.op)).setCell ⟨w.heap.size + 1 + 1, 12, none⟩ (.int .i64 s.up)).setCell ⟨w.heap.size + 1, 0, none⟩ (.int .i64 s.id)).setCell ⟨w.heap.size + 1, 1, none⟩ (.int .i64 s.co)).setCell ⟨w.heap.size + 1, 2, none⟩ (.int .i64 s.me)).setCell ⟨w.heap.size + 1, 3, none⟩ (.int .i64 s.cu)).setCell ⟨w.heap.size + 1, 4, none⟩ (.int .i64 s.da)).setCell ⟨w.heap.size + 1, 5, none⟩ (.int .i64 s.nn)).setCell ⟨w.heap.size + 1, 6, none⟩ (.int .i64 s.ra)).setCell ⟨w.heap.size + 1, 7, none⟩ (.int .i64 s.nu)).setCell ⟨w.heap.size + 1, 8, none⟩ (.int .i64 s.de)).setCell ⟨w.heap.size + 1, 9, none⟩ (.slice (some ⟨gi, 0, none⟩) l.length l.length)).setCell ⟨w.heap.size + 1, 10, none⟩ (.slice (some ⟨gp, 0, none⟩) p.length p.length)).setCell ⟨w.heap.size + 1, 11, none⟩ (.int .i64 s.op)).setCell ⟨w.heap.size + 1, 12, none⟩ (.int .i64 s.up) = W9 at Y BF RF PF LF ⊢
  have y0 : W9.cell? ⟨w.heap.size + 1, 0, none⟩ = some (.int .i64 s.id) := Y.out.cell 0 (by decide)
  have y1 : W9.cell? ⟨w.heap.size + 1, 1, none⟩ = some (.int .i64 s.co) := Y.out.cell 1 (by decide)
  have y2 : W9.cell? ⟨w.heap.size + 1, 2, none⟩ = some (.int .i64 s.me) := Y.out.cell 2 (by decide)
  have y3 : W9.cell? ⟨w.heap.size + 1, 3, none⟩ = some (.int .i64 s.cu) := Y.out.cell 3 (by decide)
  have y4 : W9.cell? ⟨w.heap.size + 1, 4, none⟩ = some (.int .i64 s.da) := Y.out.cell 4 (by decide)
  have y5 : W9.cell? ⟨w.heap.size + 1, 5, none⟩ = some (.int .i64 s.nn) := Y.out.cell 5 (by decide)
  have y6 : W9.cell? ⟨w.heap.size + 1, 6, none⟩ = some (.int .i64 s.ra) := Y.out.cell 6 (by decide)
  have y7 : W9.cell? ⟨w.heap.size + 1, 7, none⟩ = some (.int .i64 s.nu) := Y.out.cell 7 (by decide)
  have y8 : W9.cell? ⟨w.heap.size + 1, 8, none⟩ = some (.int .i64 s.de) := Y.out.cell 8 (by decide)
  have y9 : W9.cell? ⟨w.heap.size + 1, 9, none⟩ = some (.slice (some ⟨gi, 0, none⟩) l.length l.length) := Y.out.cell 9 (by decide)
  have y10 : W9.cell? ⟨w.heap.size + 1, 10, none⟩ = some (.slice (some ⟨gp, 0, none⟩) p.length p.length) := Y.out.cell 10 (by decide)
  have y11 : W9.cell? ⟨w.heap.size + 1, 11, none⟩ = some (.int .i64 s.op) := Y.out.cell 11 (by decide)
  have y12 : W9.cell? ⟨w.heap.size + 1, 12, none⟩ = some (.int .i64 s.up) := Y.out.cell 12 (by decide)
  refine bodyPost_ret (v := .agg #[.int .i64 s.id, .int .i64 s.co, .int .i64 s.me, .int .i64 s.cu, .int .i64 s.da, .int .i64 s.nn, .int .i64 s.ra, .int .i64 s.nu, .int .i64 s.de, .slice (some ⟨gi, 0, none⟩) l.length l.length, .slice (some ⟨gp, 0, none⟩) p.length p.length, .int .i64 s.op, .int .i64 s.up]) (by simp [results, Try.results16, go_sem, y0, y1, y2, y3, y4, y5, y6, y7, y8, y9, y10, y11, y12]) rfl ⟨gi, gp, gs, rfl, ⟨RF.out, PF.out, fun _ => by have := LF.out; omega, fun _ => by have := LF.out; omega, fun i hi => by have := LF.out; have := G3.out i hi; omega, fun _ _ => by have := LF.out; omega, fun i hi _ => by have := LF.out; have := G3.out i hi; omega⟩, by have := LF.out; omega, by have := LF.out; omega, by have := LF.out; omega, BF.out⟩
end Go.Proofs.Ytmaejlfjdkkpdaa.pls
