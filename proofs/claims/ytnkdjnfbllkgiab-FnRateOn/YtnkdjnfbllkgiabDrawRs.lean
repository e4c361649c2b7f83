/-
  Plain helpers of this seat's proofs: the contract of the function that draws a list of rates. Conditions: none.
-/
import Derived.Test.YtnkdjnfbllkgiabDrawR
import Derived.Test.YtnkdjnfbllkgiabCopy
namespace Go.Proofs.Ytnkdjnfbllkgiab.draw
open Go.ChangeShapes Go.WideShapes Go.ChangeAt Go.RowKit
open led (F5 z5)
open five (Row At Blk)

/-- The cells of a list of fives. -/
def fl : List F5 → List Value
  | [] => []
  | x :: l => .int .i64 x.1 :: .int .i64 x.2.1 :: .int .i64 x.2.2.1 :: .int .i64 x.2.2.2.1 :: .int .i64 x.2.2.2.2 :: fl l
theorem fl_app (l : List F5) (x : F5) : fl (l ++ [x]) = fl l ++ [.int .i64 x.1, .int .i64 x.2.1, .int .i64 x.2.2.1, .int .i64 x.2.2.2.1, .int .i64 x.2.2.2.2] := by
  induction l with
  | nil => rfl
  | cons y l ih => show _ :: _ :: _ :: _ :: _ :: fl (l ++ [x]) = _; rw [ih]; rfl
theorem fl_get : ∀ (l : List F5) (i j : Nat), i < l.length → j < 5 → (fl l)[i * 5 + j]? = some (cz (l.getD i z5) j)
  | [], i, _, h, _ => by simp at h
  | x :: l, 0, j, _, hj => by
    rw [Nat.zero_mul, Nat.zero_add]
    match j, hj with
    | 0, _ => rfl
    | 1, _ => rfl
    | 2, _ => rfl
    | 3, _ => rfl
    | 4, _ => rfl
  | x :: l, i + 1, j, h, hj => by
    have := fl_get l i j (by simpa using h) hj
    rw [show (i + 1) * 5 + j = (i * 5 + j) + 5 by omega]
    exact this
theorem of_owns5 {w : World} {B : Nat} {v : Value} {l : List F5} (h : w.ownsRow B 25 5 v l.length (fl l)) :
    ∃ a cap g, v = .slice a l.length cap ∧ Row w a cap g l ∧ (0 < l.length → B ≤ g ∧ g < w.heap.size) := by
  obtain ⟨h1, h2⟩ := h
  rcases h2 with ⟨rfl, h2⟩ | ⟨g, cap, cur, rfl, hg, hh, hn, hm, hs, ht⟩
  · have h0 : l.length = 0 := h2
    refine ⟨none, 0, 0, by rw [h0], ⟨fun h => by omega, by omega, fun i hi => by omega, fun h => by omega⟩, fun h => by omega⟩
  · refine ⟨_, cap, g, rfl, ⟨fun _ => rfl, hn, fun i hi => ?_, fun _ i => ?_⟩, fun _ => ⟨hg, (Array.getElem?_eq_some_iff.1 hh).1⟩⟩
    · have e : ∀ j, j < 5 → w.cell? ⟨g, i * 5 + j, none⟩ = some (cz (l.getD i z5) j) := fun j hj => by
        have q : (cur.toList.take (l.length * 5))[i * 5 + j]? = (fl l)[i * 5 + j]? := by rw [ht]
        rw [List.getElem?_take, if_pos (by omega), fl_get l i j hi hj] at q
        unfold World.cell?
        simp [hh, ← Array.getElem?_toList, q]
      exact ⟨e 0 (by omega), e 1 (by omega), e 2 (by omega), e 3 (by omega), e 4 (by omega)⟩
    · unfold World.frozen?
      simp [hh]
/-- The rates as they are drawn: the reader goes on, the list lies in memory of its own. -/
structure Ws (w wr : World) (b len : Nat) (v : Value) (l : List F5) : Prop where
  only : Only b w wr
  rd : Rd wr b len
  own : wr.ownsRow w.heap.size 25 5 v l.length (fl l)
theorem owns_only {wr wr' : World} {b : Nat} {v : Value} {n : Nat} {xs : List Value} {B : Nat} (h : wr.ownsRow B 25 5 v n xs) (o : Only b wr wr') (hb : b < B) : wr'.ownsRow B 25 5 v n xs := by
  refine ⟨h.1, ?_⟩
  rcases h.2 with hn | ⟨g, cap, cur, rfl, hg, hh, rest⟩
  · exact .inl hn
  · exact .inr ⟨g, cap, cur, rfl, hg, by rw [o.block g (Array.getElem?_eq_some_iff.1 hh).1 (by omega)]; exact hh, rest⟩
theorem Ws.next {w wr wr' : World} {b len : Nat} {v : Value} {l : List F5} (h : Ws w wr b len v l) (o : Only b wr wr') (r : Rd wr' b len) (hb : b < w.heap.size) : Ws w wr' b len v l :=
  ⟨h.only.trans o, r, owns_only h.own o hb⟩
theorem Ws.alloc {w wr : World} {b len : Nat} {v : Value} {l : List F5} (h : Ws w wr b len v l) (o : Obj) : Ws w (wr.alloc o) b len v l :=
  ⟨h.only.alloc o, h.rd.alloc o, h.own.alloc o⟩
theorem Ws.app {w wr w1 : World} {b len : Nat} {v v1 : Value} {l : List F5} {z : F5} (h : Ws w wr b len v l) (hb : b < w.heap.size) (hown : w1.ownsRow w.heap.size 25 5 v1 (l.length + 1) (fl l ++ [.int .i64 z.1, .int .i64 z.2.1, .int .i64 z.2.2.1, .int .i64 z.2.2.2.1, .int .i64 z.2.2.2.2])) (hgrow : wr.grownBy w1 v.ownBlock) : Ws w w1 b len v1 (l ++ [z]) := by
  have bl : ∀ k, v.ownBlock = some k → w.heap.size ≤ k := fun k hk => by
    rcases h.own.2 with ⟨rfl, _⟩ | ⟨g, cap, cur, rfl, hg, _⟩
    · cases hk
    · cases hk; exact hg
  have bb : Below w.heap.size wr w1 := ⟨hgrow.os, hgrow.tape, hgrow.output, hgrow.size, fun k hk => hgrow.block k (Nat.lt_of_lt_of_le hk h.only.size) (fun e => by have := bl k e.symm; omega)⟩
  refine ⟨⟨bb.os.trans h.only.os, bb.tape.trans h.only.tape, bb.output.trans h.only.output, Nat.le_trans h.only.size bb.size, fun k hk hne => (bb.block k hk).trans (h.only.block k hk hne)⟩, h.rd.below bb hb, ?_⟩
  rw [List.length_append, fl_app]; exact hown
def GotRs (w : World) (b len : Nat) (e : Ending) (w' : World) : Prop :=
  ∃ a cap g, ∃ l : List F5, e = .returned (.slice a l.length cap) ∧ Row w' a cap g l ∧ (0 < l.length → w.heap.size ≤ g ∧ g < w'.heap.size) ∧ l.length ≤ 100 ∧ Only b w w' ∧ Rd w' b len
theorem Ws.got {w wr : World} {b len : Nat} {v : Value} {l : List F5} (h : Ws w wr b len v l) (hl : l.length ≤ 100) : GotRs w b len (.returned v) wr := by
  obtain ⟨a, cap, g, rfl, R, G⟩ := of_owns5 h.own
  exact ⟨a, cap, g, l, rfl, R, G, hl, h.only, h.rd⟩
end Go.Proofs.Ytnkdjnfbllkgiab.draw
