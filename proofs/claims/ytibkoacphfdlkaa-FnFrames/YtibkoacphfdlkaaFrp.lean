/-
  Plain helpers of this seat's proofs: frames written again, one more of them, and fewer. Conditions: none.
-/
import Derived.Test.YtibkoacphfdlkaaFrm
namespace Go.Proofs.Ytibkoacphfdlkaa.frm
open Go.ChangeShapes Go.WideShapes Go.ChangeAt Go.RowKit
open crc (le4 be4 sum frame)
/-- The frames of the first so many data, one behind the other. -/
def cats (l : List UInt8) : Nat → List UInt8
  | 0 => []
  | k + 1 => cats l k ++ frame (dat l (pos l k))
theorem frame_good {l : List UInt8} {p : Nat} (g : Good l p) : frame (dat l p) = (l.drop p).take (8 + sz l p) := by
  have dl := dat_len g.2.2.1
  have h8 := (good_iff g.1 g.2.1 g.2.2.1).1 g
  unfold frame
  rw [if_neg (by have := g.2.1; omega), h8, List.take_add, List.drop_drop]
  rfl
theorem cats_take {l : List UInt8} : ∀ {k : Nat}, Run l k → cats l k = l.take (pos l k)
  | 0, _ => by simp [cats, pos]
  | k + 1, h => by
    rw [cats, cats_take (fun i hi => h i (by omega)), frame_good (h k (by omega)), pos, ← List.take_add, Nat.add_assoc]
/-- What a place tells hangs on the bytes from it on alone. -/
theorem bt_take {l : List UInt8} {n i : Nat} (h : i < n) : bt (l.take n) i = bt l i := by
  unfold bt; rw [List.getD_eq_getElem?_getD, List.getElem?_take, if_pos h, ← List.getD_eq_getElem?_getD]
theorem bt_app {l m : List UInt8} {i : Nat} (h : i < l.length) : bt (l ++ m) i = bt l i := by
  unfold bt; rw [List.getD_eq_getElem?_getD, List.getElem?_append_left h, ← List.getD_eq_getElem?_getD]
theorem sz_app {l m : List UInt8} {p : Nat} (h : p + 4 ≤ l.length) : sz (l ++ m) p = sz l p := by
  unfold sz; rw [bt_app (by omega), bt_app (by omega), bt_app (by omega), bt_app (by omega)]
theorem drop_take_app {l m : List UInt8} {p n : Nat} (h : p + n ≤ l.length) : ((l ++ m).drop p).take n = (l.drop p).take n := by
  rw [List.drop_append_of_le_length (by omega), List.take_append_of_le_length (by simp; omega)]
theorem dat_app {l m : List UInt8} {p : Nat} (h : p + 8 + sz l p ≤ l.length) : dat (l ++ m) p = dat l p := by
  unfold dat; rw [sz_app (by omega), drop_take_app (by omega)]
/-- What is good stays good with more behind it. -/
theorem good_app {l : List UInt8} (m : List UInt8) {p : Nat} (g : Good l p) : Good (l ++ m) p ∧ sz (l ++ m) p = sz l p ∧ dat (l ++ m) p = dat l p := by
  obtain ⟨h1, h2, h3, h4⟩ := g
  have e1 : sz (l ++ m) p = sz l p := sz_app (by omega)
  have e2 : dat (l ++ m) p = dat l p := dat_app h3
  refine ⟨⟨by rw [List.length_append]; omega, by rw [e1]; exact h2, by rw [e1, List.length_append]; omega, ?_⟩, e1, e2⟩
  rw [e2, h4, drop_take_app (by omega)]
/-- What is good within the first part is good there. -/
theorem good_pref {v m : List UInt8} {p : Nat} (h : p + 8 + sz (v ++ m) p ≤ v.length) (g : Good (v ++ m) p) : Good v p ∧ sz v p = sz (v ++ m) p ∧ dat v p = dat (v ++ m) p := by
  have e1 : sz v p = sz (v ++ m) p := (sz_app (by omega)).symm
  have e2 : dat v p = dat (v ++ m) p := (dat_app (by rw [e1]; exact h)).symm
  obtain ⟨h1, h2, h3, h4⟩ := g
  refine ⟨⟨by omega, by rw [e1]; exact h2, by rw [e1]; exact h, ?_⟩, e1, e2⟩
  rw [e2, h4, drop_take_app (by omega)]
theorem run_app {l : List UInt8} (m : List UInt8) : ∀ {k : Nat}, Run l k → Run (l ++ m) k ∧ ∀ i, i ≤ k → pos (l ++ m) i = pos l i
  | 0, _ => ⟨fun i hi => by omega, fun i hi => by rw [Nat.le_zero.1 hi]; rfl⟩
  | k + 1, h => by
    obtain ⟨a, b⟩ := run_app m (k := k) (fun i hi => h i (by omega))
    have g := good_app m (h k (by omega))
    have ek := b k (Nat.le_refl _)
    refine ⟨run_succ a (by rw [ek]; exact g.1), fun i hi => ?_⟩
    by_cases e : i = k + 1
    · subst e; rw [pos, pos, ek, g.2.1]
    · exact b i (by omega)
theorem outs_app {l : List UInt8} (m : List UInt8) {k : Nat} (h : Run l k) {i : Nat} (hi : i < k) : dat (l ++ m) (pos (l ++ m) i) = dat l (pos l i) := by
  rw [(run_app m h).2 i (by omega)]; exact (good_app m (h i hi)).2.2
/-- A frame alone. -/
theorem good_frame {t : List UInt8} (h : t.length ≤ 100000) : Good (frame t) 0 ∧ sz (frame t) 0 = t.length ∧ dat (frame t) 0 = t := by
  have f : frame t = be4 t.length ++ le4 (sum t) ++ t := by unfold frame; rw [if_neg (by omega)]
  have b0 : bt (frame t) 0 = t.length / 16777216 % 256 := by rw [f]; unfold bt be4; simp
  have b1 : bt (frame t) 1 = t.length / 65536 % 256 := by rw [f]; unfold bt be4; simp
  have b2 : bt (frame t) 2 = t.length / 256 % 256 := by rw [f]; unfold bt be4; simp
  have b3 : bt (frame t) 3 = t.length % 256 := by rw [f]; unfold bt be4; simp
  have e : sz (frame t) 0 = t.length := by
    unfold sz n4
    rw [Nat.zero_add, Nat.zero_add, Nat.zero_add, b0, b1, b2, b3]; omega
  have fl : (frame t).length = 8 + t.length := by rw [f]; simp [be4, le4]; omega
  have d : dat (frame t) 0 = t := by
    unfold dat
    rw [e, f]
    simp [be4, le4]
  refine ⟨⟨by omega, by omega, by omega, ?_⟩, e, d⟩
  rw [d, f]
  simp [be4, le4]
theorem sz_behind {l m : List UInt8} : sz (l ++ m) l.length = sz m 0 := by
  have b : ∀ i, bt (l ++ m) (l.length + i) = bt m i := fun i => by
    unfold bt; rw [List.getD_eq_getElem?_getD, List.getElem?_append_right (by omega), show l.length + i - l.length = i by omega, ← List.getD_eq_getElem?_getD]
  unfold sz
  have := b 0
  rw [Nat.add_zero] at this
  rw [this, b, b, b]
theorem good_behind {l m : List UInt8} (g : Good m 0) : Good (l ++ m) l.length ∧ dat (l ++ m) l.length = dat m 0 := by
  have d : ∀ q, (l ++ m).drop (l.length + q) = m.drop q := fun q => by rw [List.drop_append]; simp
  have e : dat (l ++ m) l.length = dat m 0 := by unfold dat; rw [sz_behind, d, Nat.zero_add]
  obtain ⟨h1, h2, h3, h4⟩ := g
  refine ⟨⟨by rw [List.length_append]; omega, by rw [sz_behind]; exact h2, by rw [sz_behind, List.length_append]; omega, ?_⟩, e⟩
  rw [e, h4, d]
/-- One frame more. -/
theorem fr_more {l t : List UInt8} {k : Nat} (h : Fr l k) (ht : t.length ≤ 100000) : Fr (cats l k ++ frame t) (k + 1) ∧ pos (cats l k ++ frame t) (k + 1) = pos l k + (frame t).length ∧
    dat (cats l k ++ frame t) (pos (cats l k ++ frame t) k) = t ∧ (cats l k).length = pos l k := by
  have rp := run_pos h.1
  have ec := cats_take h.1
  have el : (cats l k).length = pos l k := by rw [ec]; simp; omega
  have f := good_frame ht
  have fl : (frame t).length = 8 + t.length := by unfold frame; rw [if_neg (by omega)]; simp [be4, le4]; omega
  -- the first frames, in what is written again
  have hr : Run (cats l k) k ∧ ∀ i, i ≤ k → pos (cats l k) i = pos l i := by
    have key : ∀ j, j ≤ k → Run (cats l k) j ∧ ∀ i, i ≤ j → pos (cats l k) i = pos l i := by
      intro j
      induction j with
      | zero => intro _; exact ⟨fun i hi => by omega, fun i hi => by rw [Nat.le_zero.1 hi]; rfl⟩
      | succ j ih =>
        intro hj
        obtain ⟨a, b⟩ := ih (by omega)
        have ej := b j (Nat.le_refl _)
        have g := h.1 j (by omega)
        have mono : pos l (j + 1) ≤ pos l k := by
          have : ∀ d, j + 1 + d ≤ k → pos l (j + 1) ≤ pos l (j + 1 + d) := by
            intro d
            induction d with
            | zero => intro _; exact Nat.le_refl _
            | succ d ihd => intro hd; have := ihd (by omega); show pos l (j + 1) ≤ pos l (j + 1 + d) + 8 + sz l (pos l (j + 1 + d)); omega
          have := this (k - (j + 1)) (by omega)
          rw [show j + 1 + (k - (j + 1)) = k by omega] at this
          exact this
        rw [pos] at mono
        have le : cats l k ++ l.drop (pos l k) = l := by rw [ec, List.take_append_drop]
        have gp := good_pref (v := cats l k) (m := l.drop (pos l k)) (p := pos l j)
        rw [le] at gp
        obtain ⟨G, s1, _⟩ := gp (by rw [el]; omega) g
        refine ⟨run_succ a (by rw [ej]; exact G), fun i hi => ?_⟩
        by_cases e : i = j + 1
        · subst e; rw [pos, pos, ej, s1]
        · exact b i (by omega)
    exact key k (Nat.le_refl _)
  have ra := run_app (frame t) hr.1
  have ek : pos (cats l k ++ frame t) k = (cats l k).length := by rw [ra.2 k (Nat.le_refl _), hr.2 k (Nat.le_refl _), el]
  have gb := good_behind (l := cats l k) f.1
  have sb := sz_behind (l := cats l k) (m := frame t)
  have run : Run (cats l k ++ frame t) (k + 1) := run_succ ra.1 (by rw [ek]; exact gb.1)
  have pk : pos (cats l k ++ frame t) (k + 1) = pos l k + (frame t).length := by rw [pos, ek, sb, f.2.1, el, fl]; omega
  refine ⟨⟨run, fun g => ?_⟩, pk, by rw [ek, gb.2, f.2.2], el⟩
  have := g.1
  rw [pk, List.length_append, el] at this
  omega
/-- Fewer bytes. -/
theorem fr_few {l : List UInt8} {k j n : Nat} (h : Fr l k) (hj : Fr ((cats l k).take n) j) : j ≤ k ∧ ∀ i, i < j → dat ((cats l k).take n) (pos ((cats l k).take n) i) = dat l (pos l i) := by
  have le : l = (cats l k).take n ++ ((cats l k).drop n ++ l.drop (pos l k)) := by
    rw [← List.append_assoc, List.take_append_drop, cats_take h.1, List.take_append_drop]
  obtain ⟨m, hm⟩ : ∃ m, m = (cats l k).drop n ++ l.drop (pos l k) := ⟨_, rfl⟩
  obtain ⟨v, hv⟩ : ∃ v, v = (cats l k).take n := ⟨_, rfl⟩
  rw [← hm, ← hv] at le
  rw [← hv] at hj ⊢
  have ra := run_app m hj.1
  have oa := fun i (hi : i < j) => outs_app m hj.1 hi
  rw [← le] at ra oa
  refine ⟨?_, fun i hi => (oa i hi).symm⟩
  rcases Nat.lt_or_ge k j with c | c
  · exact absurd (ra.1 k c) h.2
  · exact c
end Go.Proofs.Ytibkoacphfdlkaa.frm
