/-
  Plain helpers of this seat's proofs: a slice of Parts that is made in memory of its own, as a list of cells; copies. Conditions: none.
-/
import Derived.Test.YtchpjojndkkmeaaDoorCp7
import Derived.Maps.AppendAt
import Derived.WalkSpells
namespace Go.Proofs.YtchpjojndkkmeaaDoor.seven
open Go.ChangeShapes Go.WideShapes Go.ChangeAt Go.RowKit
open gen
/-- The cells of a Part. -/
def cz (x : F7) (j : Nat) : Value := if j = 0 then .int .i64 x.1 else if j = 1 then .int .i64 x.2.1 else if j = 2 then .int .i64 x.2.2.1 else if j = 3 then .int .i64 x.2.2.2.1 else if j = 4 then .int .i64 x.2.2.2.2.1 else if j = 5 then .int .i64 x.2.2.2.2.2.1 else .int .i64 x.2.2.2.2.2.2
/-- The cells of a list of Parts. -/
def fl : List F7 → List Value
  | [] => []
  | x :: l => .int .i64 x.1 :: .int .i64 x.2.1 :: .int .i64 x.2.2.1 :: .int .i64 x.2.2.2.1 :: .int .i64 x.2.2.2.2.1 :: .int .i64 x.2.2.2.2.2.1 :: .int .i64 x.2.2.2.2.2.2 :: fl l
theorem fl_app (l : List F7) (x : F7) : fl (l ++ [x]) = fl l ++ [.int .i64 x.1, .int .i64 x.2.1, .int .i64 x.2.2.1, .int .i64 x.2.2.2.1, .int .i64 x.2.2.2.2.1, .int .i64 x.2.2.2.2.2.1, .int .i64 x.2.2.2.2.2.2] := by
  induction l with
  | nil => rfl
  | cons y l ih => show _ :: _ :: _ :: _ :: _ :: _ :: _ :: fl (l ++ [x]) = _; rw [ih]; rfl
theorem fl_get : ∀ (l : List F7) (i j : Nat), i < l.length → j < 7 → (fl l)[i * 7 + j]? = some (cz (l.getD i zz) j)
  | [], i, _, h, _ => by simp at h
  | x :: l, 0, j, _, hj => by
    rw [Nat.zero_mul, Nat.zero_add]
    match j, hj with
    | 0, _ => rfl
    | 1, _ => rfl
    | 2, _ => rfl
    | 3, _ => rfl
    | 4, _ => rfl
    | 5, _ => rfl
    | 6, _ => rfl
  | x :: l, i + 1, j, h, hj => by
    have := fl_get l i j (by simpa using h) hj
    rw [show (i + 1) * 7 + j = (i * 7 + j) + 7 by omega]
    exact this
theorem of_ownsN {w : World} {B : Nat} {v : Value} {l : List F7} (h : w.ownsRow B 35 7 v l.length (fl l)) :
    ∃ a cap g, v = .slice a l.length cap ∧ Row w a cap g l ∧ (0 < l.length → B ≤ g ∧ g < w.heap.size) := by
  obtain ⟨h1, h2⟩ := h
  rcases h2 with ⟨rfl, h2⟩ | ⟨g, cap, cur, rfl, hg, hh, hn, hm, hs, ht⟩
  · have h0 : l.length = 0 := h2
    refine ⟨none, 0, 0, by rw [h0], ⟨fun h => by omega, by omega, fun i hi => by omega, fun h => by omega⟩, fun h => by omega⟩
  · refine ⟨_, cap, g, rfl, ⟨fun _ => rfl, hn, fun i hi => ?_, fun _ i => ?_⟩, fun _ => ⟨hg, (Array.getElem?_eq_some_iff.1 hh).1⟩⟩
    · have e : ∀ j, j < 7 → w.cell? ⟨g, i * 7 + j, none⟩ = some (cz (l.getD i zz) j) := fun j hj => by
        have q : (cur.toList.take (l.length * 7))[i * 7 + j]? = (fl l)[i * 7 + j]? := by rw [ht]
        rw [List.getElem?_take, if_pos (by omega), fl_get l i j hi hj] at q
        unfold World.cell?
        simp [hh, ← Array.getElem?_toList, q]
      exact ⟨e 0 (by omega), e 1 (by omega), e 2 (by omega), e 3 (by omega), e 4 (by omega), e 5 (by omega), e 6 (by omega)⟩
    · unfold World.frozen?
      simp [hh]
theorem of_ownsNn {w : World} {B : Nat} {v : Value} {l : List F7} (h : w.ownsRow B 35 7 v l.length (fl l)) (hv : v ≠ .slice none 0 0) :
    ∃ cap g, v = .slice (some ⟨g, 0, none⟩) l.length cap ∧ Row w (some ⟨g, 0, none⟩) cap g l ∧ B ≤ g ∧ g < w.heap.size := by
  have h2 := h.2
  rcases h2 with ⟨e, _⟩ | ⟨g, cap, cur, rfl, hg, hh, _⟩
  · exact absurd e hv
  · obtain ⟨a, cap', g', e, R, G⟩ := of_ownsN h
    injection e with e1 e2 e3
    subst e1 e3
    refine ⟨cap, g, rfl, ⟨fun _ => rfl, R.room, fun i hi => ?_, fun h0 => ?_⟩, hg, (Array.getElem?_eq_some_iff.1 hh).1⟩
    · have e := R.addr (by omega)
      injection e with e; injection e with e
      subst e
      exact R.cells i hi
    · have e := R.addr h0
      injection e with e; injection e with e
      subst e
      exact R.free h0
theorem own_ge {w : World} {B e s n : Nat} {v : Value} {xs : List Value} (h : w.ownsRow B e s v n xs) : ∀ k, v.ownBlock = some k → B ≤ k := fun k hk => by
  rcases h.2 with ⟨rfl, _⟩ | ⟨g, cap, cur, rfl, hg, _⟩
  · cases hk
  · cases hk; exact hg
theorem fl_len (l : List F7) : (fl l).length = l.length * 7 := by
  induction l with
  | nil => rfl
  | cons x l ih => show (fl l).length + 1 + 1 + 1 + 1 + 1 + 1 + 1 = _; rw [ih, List.length_cons]; omega
theorem fl_one : ∀ (l : List F7), ∀ u ∈ fl l, u.oneCell' = true
  | [], u, h => by simp [fl] at h
  | x :: l, u, h => by
    simp only [fl, List.mem_cons] at h
    rcases h with rfl | rfl | rfl | rfl | rfl | rfl | rfl | h
    all_goals first | rfl | exact fl_one l u h
theorem add0 (g j : Nat) : (⟨g, 0, none⟩ : Addr).add j = ⟨g, j, none⟩ := by
  unfold Addr.add
  by_cases h : j = 0 <;> simp [h]
theorem fl_news {w : World} {g : Nat} {l : List F7} (hc : ∀ i, i < l.length → At w g (i * 7) (l.getD i zz)) : ∀ j u, (fl l)[j]? = some u → w.cell? ((⟨g, 0, none⟩ : Addr).add j) = some u := by
  intro j u hj
  rw [add0]
  have hlt : j < l.length * 7 := by rw [← fl_len]; exact (List.getElem?_eq_some_iff.1 hj).1
  have e : j / 7 * 7 + j % 7 = j := by omega
  have m : j % 7 < 7 := Nat.mod_lt _ (by omega)
  have h1 := fl_get l (j / 7) (j % 7) (by omega) m
  have ha := hc (j / 7) (by omega)
  have key : w.cell? ⟨g, j / 7 * 7 + j % 7, none⟩ = some (cz (l.getD (j / 7) zz) (j % 7)) := by
    generalize j % 7 = k at m
    match k, m with
    | 0, _ => exact ha.c0
    | 1, _ => exact ha.c1
    | 2, _ => exact ha.c2
    | 3, _ => exact ha.c3
    | 4, _ => exact ha.c4
    | 5, _ => exact ha.c5
    | 6, _ => exact ha.c6
  rw [e] at h1 key
  rw [hj] at h1
  rw [key, ← h1]
theorem own0 {W : World} {B g : Nat} (hh : W.heap[g]? = some (.cells #[] 35 (0, 0))) (hg : B ≤ g) : W.ownsRow B 35 7 (.slice (some ⟨g, 0, none⟩) 0 0) 0 (fl []) :=
  ⟨rfl, .inr ⟨g, 0, #[], rfl, hg, hh, Nat.le_refl _, Nat.zero_le _, rfl, rfl⟩⟩
theorem heap_new (w : World) (o : Obj) : (w.alloc o).heap[w.heap.size]? = some o := by
  show (w.heap.push o)[w.heap.size]? = some o
  simp
/-- A list of Parts in a block of its own, never nil. -/
def Made (w : World) (l : List F7) (v : Value) (w' : World) : Prop := ∃ cap g, v = .slice (some ⟨g, 0, none⟩) l.length cap ∧ Row w' (some ⟨g, 0, none⟩) cap g l ∧ w.heap.size ≤ g ∧ g < w'.heap.size ∧ Below w.heap.size w w'
theorem nilEq (w : World) (ad : Addr) (n c : Nat) : (binOp .eql 22 (.slice (some ad) n c) (.slice none 0 0)).run Tryd.prog w = .ok (.bool false) w := by
  exact Lib.run_eql_slice_nil _ _ _ _ _ _ _ _ Tryd.underlying22
set_option maxRecDepth 20000 in
set_option maxHeartbeats 1000000 in
theorem cpI (w : World) (g cap : Nat) (l : List F7) (r : Row w (some ⟨g, 0, none⟩) cap g l) (hn : l.length ≤ 1048577) : Calls Tryd.prog 40 #[.slice (some ⟨g, 0, none⟩) l.length cap] w fun e w' => ∃ v, e = .returned v ∧ Made w l v w' := by
  have OW := Lib.hid (show (w.alloc (.cells #[] 35)).ownsRow w.heap.size 35 7 (.slice (some ⟨w.heap.size, 0, none⟩) 0 0) 0 (fl []) from own0 (heap_new w _) (Nat.le_refl _))
  have B1 := Lib.hid (show Below w.heap.size w (w.alloc (.cells #[] 35)) from (Below.refl _ _).alloc (Nat.le_refl _) _)
  have NEWS := Lib.hid (fl_news (w := w.alloc (.cells #[] 35)) (g := g) (l := l) (fun i hi => (r.cells i hi).keep (B1.out.block g (r.lt (by omega)))))
  have HN := Lib.hid hn
  clear r
  obtain ⟨i5, hi2, hz20, hz21, hz22⟩ := info_parts infoE
  have NE : ∀ w : World, (binOp .eql 22 (.slice (some ⟨g, 0, none⟩) l.length cap) (.slice none 0 0)).run Tryd.prog w = .ok (.bool false) w := fun w => nilEq w _ _ _
  go_enter Tryd.func40, Tryd.ntmps40
  go_wp2_with (at_builtin; refine wpList_append_own_at _ rfl _ _ 22 rfl w.heap.size 35 i5 (.agg #[.int .i64 0, .int .i64 0, .int .i64 0, .int .i64 0, .int .i64 0, .int .i64 0, .int .i64 0]) 7 56 Tryd.underlying22 hi2 hz20 hz21 hz22 rfl (by decide) _ _ _ rfl OW.out ⟨g, 0, none⟩ l.length cap (fl l) rfl (fl_len l) NEWS.out (fl_one l) (by unfold maxLen; omega) (by omega) (by simp) ?_)
  intro v3 w3 hown3 hgrow3 hnil3 _
  have OB3 := Lib.hid (B1.out.grown hgrow3 B1.out.size (own_ge OW.out))
  have OW3 := Lib.hid (show w3.ownsRow w.heap.size 35 7 v3 l.length (fl l) from by first | exact hown3 | (rw [Nat.zero_add] at hown3; exact hown3))
  have NN3 := Lib.hid (show v3 ≠ .slice none 0 0 from fun h => by first | exact hnil3 h | (have := (hnil3.1 h).1; cases this))
  clear hown3 hgrow3 hnil3 hi2 hz20 hz21 hz22
  go_wp2
  go_ret
  obtain ⟨cap', g', e, R, G, L⟩ := of_ownsNn OW3.out NN3.out
  exact ⟨_, rfl, cap', g', e, R, G, L, OB3.out⟩
end Go.Proofs.YtchpjojndkkmeaaDoor.seven
