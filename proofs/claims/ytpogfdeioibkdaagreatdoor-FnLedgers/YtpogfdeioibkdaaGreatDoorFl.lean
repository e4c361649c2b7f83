/-
  Plain helpers of this seat's proofs: a slice of fives that is made in memory of its own, as a list of cells. Conditions: none.
-/
import Derived.Test.YtpogfdeioibkdaaGreatDoorCopy
import Derived.Maps.AppendAt
namespace Go.Proofs.YtpogfdeioibkdaaGreatDoor.draw
open Go.ChangeShapes Go.WideShapes Go.ChangeAt Go.RowKit
open led (F5 z5)
open five (Row At Blk)
/-- The cells of five numbers. -/
def cz (x : F5) (j : Nat) : Value := if j = 0 then .int .i64 x.1 else if j = 1 then .int .i64 x.2.1 else if j = 2 then .int .i64 x.2.2.1 else if j = 3 then .int .i64 x.2.2.2.1 else .int .i64 x.2.2.2.2
/-- The cells of a list of fives. -/
def fl : List F5 → List Value
  | [] => []
  | x :: l => .int .i64 x.1 :: .int .i64 x.2.1 :: .int .i64 x.2.2.1 :: .int .i64 x.2.2.2.1 :: .int .i64 x.2.2.2.2 :: fl l
theorem fl_app (l : List F5) (x : F5) : fl (l ++ [x]) = fl l ++ [.int .i64 x.1, .int .i64 x.2.1, .int .i64 x.2.2.1, .int .i64 x.2.2.2.1, .int .i64 x.2.2.2.2] := by
  induction l with
  | nil => rfl
  | cons y l ih => show _ :: _ :: _ :: _ :: _ :: fl (l ++ [x]) = _; rw [ih]; rfl
theorem fl_get : ∀ (l : List F5) (i j : Nat), i < l.length → j < 5 → (fl l)[i * 5 + j]? = some (cz (l.getD i z5) j)
  | [], i, _, h, _ => by simp at h
  | x :: l, 0, j, _, hj => by
    rw [Nat.zero_mul, Nat.zero_add]
    match j, hj with
    | 0, _ => rfl
    | 1, _ => rfl
    | 2, _ => rfl
    | 3, _ => rfl
    | 4, _ => rfl
  | x :: l, i + 1, j, h, hj => by
    have := fl_get l i j (by simpa using h) hj
    rw [show (i + 1) * 5 + j = (i * 5 + j) + 5 by omega]
    exact this
theorem of_owns5 {w : World} {B : Nat} {v : Value} {l : List F5} (h : w.ownsRow B 36 5 v l.length (fl l)) :
    ∃ a cap g, v = .slice a l.length cap ∧ Row w a cap g l ∧ (0 < l.length → B ≤ g ∧ g < w.heap.size) := by
  obtain ⟨h1, h2⟩ := h
  rcases h2 with ⟨rfl, h2⟩ | ⟨g, cap, cur, rfl, hg, hh, hn, hm, hs, ht⟩
  · have h0 : l.length = 0 := h2
    refine ⟨none, 0, 0, by rw [h0], ⟨fun h => by omega, by omega, fun i hi => by omega, fun h => by omega⟩, fun h => by omega⟩
  · refine ⟨_, cap, g, rfl, ⟨fun _ => rfl, hn, fun i hi => ?_, fun _ i => ?_⟩, fun _ => ⟨hg, (Array.getElem?_eq_some_iff.1 hh).1⟩⟩
    · have e : ∀ j, j < 5 → w.cell? ⟨g, i * 5 + j, none⟩ = some (cz (l.getD i z5) j) := fun j hj => by
        have q : (cur.toList.take (l.length * 5))[i * 5 + j]? = (fl l)[i * 5 + j]? := by rw [ht]
        rw [List.getElem?_take, if_pos (by omega), fl_get l i j hi hj] at q
        unfold World.cell?
        simp [hh, ← Array.getElem?_toList, q]
      exact ⟨e 0 (by omega), e 1 (by omega), e 2 (by omega), e 3 (by omega), e 4 (by omega)⟩
    · unfold World.frozen?
      simp [hh]
theorem of_owns5n {w : World} {B : Nat} {v : Value} {l : List F5} (h : w.ownsRow B 36 5 v l.length (fl l)) (hv : v ≠ .slice none 0 0) :
    ∃ cap g, v = .slice (some ⟨g, 0, none⟩) l.length cap ∧ Row w (some ⟨g, 0, none⟩) cap g l ∧ B ≤ g ∧ g < w.heap.size := by
  have h2 := h.2
  rcases h2 with ⟨e, _⟩ | ⟨g, cap, cur, rfl, hg, hh, _⟩
  · exact absurd e hv
  · obtain ⟨a, cap', g', e, R, G⟩ := of_owns5 h
    injection e with e1 e2 e3
    subst e1 e3
    refine ⟨cap, g, rfl, ⟨fun _ => rfl, R.room, fun i hi => ?_, fun h0 => ?_⟩, hg, (Array.getElem?_eq_some_iff.1 hh).1⟩
    · have e := R.addr (by omega)
      injection e with e; injection e with e
      subst e
      exact R.cells i hi
    · have e := R.addr h0
      injection e with e; injection e with e
      subst e
      exact R.free h0
theorem owns_keep {wr wr' : World} {v : Value} {n : Nat} {xs : List Value} {B : Nat} (h : wr.ownsRow B 36 5 v n xs) (o : ∀ g, v.ownBlock = some g → wr'.heap[g]? = wr.heap[g]?) : wr'.ownsRow B 36 5 v n xs := by
  refine ⟨h.1, ?_⟩
  rcases h.2 with hn | ⟨g, cap, cur, rfl, hg, hh, rest⟩
  · exact .inl hn
  · exact .inr ⟨g, cap, cur, rfl, hg, by rw [o g rfl]; exact hh, rest⟩
theorem own_ge {w : World} {B e s n : Nat} {v : Value} {xs : List Value} (h : w.ownsRow B e s v n xs) : ∀ k, v.ownBlock = some k → B ≤ k := fun k hk => by
  rcases h.2 with ⟨rfl, _⟩ | ⟨g, cap, cur, rfl, hg, _⟩
  · cases hk
  · cases hk; exact hg
theorem own_lt {w : World} {B e s n : Nat} {v : Value} {xs : List Value} (h : w.ownsRow B e s v n xs) : ∀ k, v.ownBlock = some k → k < w.heap.size := fun k hk => by
  rcases h.2 with ⟨rfl, _⟩ | ⟨g, cap, cur, rfl, _, hh, _⟩
  · cases hk
  · cases hk; exact (Array.getElem?_eq_some_iff.1 hh).1
theorem news5 (w : World) (x : led.F5) : ∀ j u, [Value.int .i64 x.1, .int .i64 x.2.1, .int .i64 x.2.2.1, .int .i64 x.2.2.2.1, .int .i64 x.2.2.2.2][j]? = some u → (w.alloc (.cells #[.int .i64 x.1, .int .i64 x.2.1, .int .i64 x.2.2.1, .int .i64 x.2.2.2.1, .int .i64 x.2.2.2.2] 36)).cell? ((⟨w.heap.size, 0, none⟩ : Addr).add j) = some u := by
  intro j u hj
  match j, hj with
  | 0, hj => simp at hj; subst hj; simp [Addr.add]
  | 1, hj => simp at hj; subst hj; simp [Addr.add]
  | 2, hj => simp at hj; subst hj; simp [Addr.add]
  | 3, hj => simp at hj; subst hj; simp [Addr.add]
  | 4, hj => simp at hj; subst hj; simp [Addr.add]
theorem one5 (x : led.F5) : ∀ u ∈ [Value.int .i64 x.1, .int .i64 x.2.1, .int .i64 x.2.2.1, .int .i64 x.2.2.2.1, .int .i64 x.2.2.2.2], u.oneCell' = true := by
  intro u hu; simp at hu; rcases hu with rfl | rfl | rfl | rfl | rfl <;> rfl
end Go.Proofs.YtpogfdeioibkdaaGreatDoor.draw
