/-
  Plain helpers of this seat's proofs: the mathematics of paying a plan, of cutting it and of giving back. Conditions: none.
-/
import Derived.Test.YtchpjojndkkmeaaDoorPd
namespace Go.Proofs.YtchpjojndkkmeaaDoor.base
open Go.ChangeShapes Go.WideShapes Go.ChangeAt Go.RowKit
open seven (F7 zz Row At)
open pl (inR prOk pok)
open gen
/-- One debt is paid out of what is left. -/
def pst (q : List F7 × Int) (p : Nat × Int) : List F7 × Int := (ap q.1 (p.1, min q.2 p.2), q.2 - min q.2 p.2)
/-- The plan and what is left when these debts have been paid as far as the money goes. -/
def py (L : List F7) (m : Int) (pre : List (Nat × Int)) : List F7 × Int := pre.foldl pst (L, m)
theorem py_snoc (L : List F7) (m : Int) (pre : List (Nat × Int)) (x : Nat × Int) : py L m (pre ++ [x]) = pst (py L m pre) x := by simp [py]
theorem py_app (L : List F7) (m : Int) (a b : List (Nat × Int)) : py L m (a ++ b) = py (py L m a).1 (py L m a).2 b := by simp [py]
theorem py_len : ∀ (pre : List (Nat × Int)) (L : List F7) (m : Int), (py L m pre).1.length = L.length
  | [], _, _ => rfl
  | p :: pre, L, m => by
    show (py (pst (L, m) p).1 (pst (L, m) p).2 pre).1.length = _
    rw [py_len pre]; simp [pst, ap]
theorem bump_zero (x : F7) (j : Nat) : bump x j 0 = x := by
  obtain ⟨x0, x1, x2, x3, x4, x5, x6⟩ := x
  unfold bump
  split
  · simp
  · split <;> simp
theorem set_get {l : List F7} {k : Nat} (h : k < l.length) : l.set k (l.getD k zz) = l := by
  rw [List.getD_eq_getElem?_getD, List.getElem?_eq_getElem h]; simp
theorem ap_zero {L : List F7} {o : Nat} (h : o / 7 < L.length) : ap L (o, 0) = L := by
  unfold ap
  dsimp only
  rw [bump_zero, set_get h]
theorem pst_none {L : List F7} {m : Int} {p : Nat × Int} (h : p.1 / 7 < L.length) (hm : min m p.2 = 0) : pst (L, m) p = (L, m) := by
  unfold pst
  dsimp only
  rw [hm, ap_zero h]; simp
theorem py_stop : ∀ (pre : List (Nat × Int)) (L : List F7), (∀ p ∈ pre, p.1 / 7 < L.length ∧ 0 ≤ p.2) → py L 0 pre = (L, 0)
  | [], _, _ => rfl
  | p :: pre, L, h => by
    show py (pst (L, 0) p).1 (pst (L, 0) p).2 pre = _
    have := h p List.mem_cons_self
    rw [pst_none this.1 (by omega)]
    exact py_stop pre L fun q hq => h q (List.mem_cons_of_mem _ hq)
/-- A payment on one Part. -/
def payN (m : Int) (x : F7) : F7 × Int := ((pl.pay (m, 0, 0, 0) x).1, (pl.pay (m, 0, 0, 0) x).2.1)
theorem py_one {L : List F7} {m : Int} {o : Nat} {v : Int} (ho : o / 7 < L.length) (hv : 0 ≤ v) (hm : 0 ≤ m) : py L m (if 0 < v then [(o, v)] else []) = pst (L, m) (o, v) := by
  split
  · rfl
  · rw [pst_none ho (by dsimp only; omega)]; rfl
theorem el0 (i : Nat) (x : F7) : el i x 0 = (i * 7 + 6, x.2.2.2.1 - x.2.2.2.2.2.2) := rfl
theorem el1 (i : Nat) (x : F7) : el i x 1 = (i * 7 + 5, x.2.2.1 - x.2.2.2.2.2.1) := rfl
theorem el2 (i : Nat) (x : F7) : el i x 2 = (i * 7 + 4, x.2.1 - x.2.2.2.2.1) := rfl
theorem pst_at {L : List F7} {m : Int} {i j : Nat} {v : Int} (hj : j < 7) : pst (L, m) (i * 7 + j, v) = (L.set i (bump (L.getD i zz) j (min m v)), m - min m v) := by
  unfold pst ap
  dsimp only
  rw [show (i * 7 + j) / 7 = i by omega, show (i * 7 + j) % 7 = j by omega]
theorem py_part {L : List F7} {m : Int} {i : Nat} (hi : i < L.length) (p : pl.Pin (L.getD i zz)) (hm : 0 ≤ m) : py L m (dsTo i (L.getD i zz) 3) = (L.set i (payN m (L.getD i zz)).1, (payN m (L.getD i zz)).2) := by
  obtain ⟨x, hx⟩ : ∃ x, x = L.getD i zz := ⟨_, rfl⟩
  rw [← hx] at p ⊢
  have d3 : dsTo i x 3 = (([] ++ (if 0 < (el i x 0).2 then [el i x 0] else [])) ++ (if 0 < (el i x 1).2 then [el i x 1] else [])) ++ (if 0 < (el i x 2).2 then [el i x 2] else []) := rfl
  have p0 := p.q0; have p1 := p.q1; have p2 := p.j0; have p3 := p.j1; have p4 := p.g0; have p5 := p.g1
  rw [d3, List.nil_append, py_app, py_app, el0, el1, el2]
  dsimp only
  rw [py_one (o := i * 7 + 6) (by omega) (by omega) hm, pst_at (by omega), ← hx]
  dsimp only
  rw [py_one (o := i * 7 + 5) (by simp; omega) (by omega) (by omega), pst_at (by omega), seven.getD_set_same hi, List.set_set]
  dsimp only
  rw [py_one (o := i * 7 + 4) (by simp; omega) (by omega) (by omega), pst_at (by omega), seven.getD_set_same hi, List.set_set]
  rfl
theorem pay_1 (s : pl.S4) (x : F7) : (payN s.1 x).1 = (pl.pay s x).1 ∧ (payN s.1 x).2 = (pl.pay s x).2.1 := ⟨rfl, rfl⟩
theorem pay_left {m : Int} {x : F7} (p : pl.Pin x) (hm : 0 ≤ m) : 0 ≤ (payN m x).2 ∧ (payN m x).2 ≤ m := by
  have p0 := p.q0; have p1 := p.q1; have p2 := p.j0; have p3 := p.j1; have p4 := p.g0; have p5 := p.g1
  unfold payN pl.pay pl.pP pl.pI pl.pF
  dsimp only
  omega
theorem getD_mem {l : List F7} {x : F7} (h : x ∈ l) : ∃ i, i < l.length ∧ l.getD i zz = x := by
  obtain ⟨i, hi, e⟩ := List.getElem_of_mem h
  exact ⟨i, hi, by rw [List.getD_eq_getElem?_getD, List.getElem?_eq_getElem hi]; simpa using e⟩
theorem left_b {L : List F7} (hp : ∀ i, i < L.length → pl.Pin (L.getD i zz)) {m : Int} (hm : 0 ≤ m) (k : Nat) (hk : k ≤ L.length) : 0 ≤ pl.fs payN m L k ∧ pl.fs payN m L k ≤ m :=
  pl.fs_keep (fun s => 0 ≤ s ∧ s ≤ m) ⟨hm, Int.le_refl _⟩ (fun s x h hx => by
    obtain ⟨i, hi, rfl⟩ := getD_mem hx
    have := pay_left (hp i hi) h.1
    exact ⟨this.1, Int.le_trans this.2 h.2⟩) k hk
theorem py_DS {L : List F7} (hp : ∀ i, i < L.length → pl.Pin (L.getD i zz)) {m : Int} (hm : 0 ≤ m) : ∀ k, k ≤ L.length → py L m (DS L k) = (pl.fw payN m L k, pl.fs payN m L k)
  | 0, _ => by rw [pl.fw_zero, pl.fs_zero]; rfl
  | k + 1, hk => by
    rw [DS, py_app, py_DS hp hm k (by omega)]
    have hg := pl.fw_get payN m (l := L) (k := k) (by omega)
    have hx := py_part (L := pl.fw payN m L k) (m := pl.fs payN m L k) (i := k) (by rw [pl.fw_len]; omega) (by rw [hg]; exact hp k (by omega)) (left_b hp hm k (by omega)).1
    rw [hg] at hx
    dsimp only
    rw [hx, pl.fw_succ _ _ (by omega), pl.fs_succ _ _ (by omega)]
/-- Two walks that do the same. -/
theorem ml_sim {S T : Type} {f : S → F7 → F7 × S} {g : T → F7 → F7 × T} (r : S → T) (h1 : ∀ s x, (g (r s) x).1 = (f s x).1) (h2 : ∀ s x, (g (r s) x).2 = r (f s x).2) : ∀ (l : List F7) (s : S), pl.ml g (r s) l = ((pl.ml f s l).1, r (pl.ml f s l).2)
  | [], _ => rfl
  | x :: l, s => by
    simp only [pl.ml]
    rw [h1, h2, ml_sim r h1 h2 l]
theorem fw_sim (n : Int) (l : List F7) (k : Nat) : pl.fw payN n l k = pl.fw pl.pay (n, 0, 0, 0) l k ∧ pl.fs payN n l k = (pl.fs pl.pay (n, 0, 0, 0) l k).1 := by
  unfold pl.fw pl.fs
  rw [ml_sim (f := pl.pay) (g := payN) (fun s => s.1) (fun s x => (pay_1 s x).1) (fun s x => (pay_1 s x).2) (l.take k) (n, 0, 0, 0)]
  exact ⟨rfl, rfl⟩
/-- The state of a payment. -/
structure Pst (n : Int) (s : pl.S4) : Prop where
  a : 0 ≤ s.1
  b : 0 ≤ s.2.1
  c : 0 ≤ s.2.2.1
  d : 0 ≤ s.2.2.2
  e : s.1 + s.2.1 + s.2.2.1 + s.2.2.2 = n
theorem pay_b {x : F7} (p : pl.Pin x) {m : Int} (hm : 0 ≤ m) : (0 ≤ pl.pF m x ∧ pl.pF m x ≤ m ∧ pl.pF m x ≤ x.2.2.2.1 - x.2.2.2.2.2.2) ∧ (0 ≤ pl.pI m x ∧ pl.pI m x ≤ m - pl.pF m x ∧ pl.pI m x ≤ x.2.2.1 - x.2.2.2.2.2.1) ∧ 0 ≤ pl.pP m x ∧ pl.pP m x ≤ m - pl.pF m x - pl.pI m x ∧ pl.pP m x ≤ x.2.1 - x.2.2.2.2.1 := by
  have p0 := p.q0; have p1 := p.q1; have p2 := p.j0; have p3 := p.j1; have p4 := p.g0; have p5 := p.g1
  unfold pl.pP pl.pI pl.pF
  omega
theorem pst_b {l : List F7} (hp : ∀ i, i < l.length → pl.Pin (l.getD i zz)) {n : Int} (hn : 0 ≤ n) (k : Nat) (hk : k ≤ l.length) : Pst n (pl.fs pl.pay (n, 0, 0, 0) l k) :=
  pl.fs_keep (Pst n) ⟨hn, Int.le_refl _, Int.le_refl _, Int.le_refl _, by simp⟩ (fun s x h hx => by
    obtain ⟨i, hi, rfl⟩ := getD_mem hx
    obtain ⟨⟨a1, a2, a3⟩, ⟨b1, b2, b3⟩, c1, c2, c3⟩ := pay_b (hp i hi) h.a
    obtain ⟨h1, h2, h3, h4, h5⟩ := h
    unfold pl.pay
    constructor <;> dsimp only <;> omega) k hk
theorem ml_get {S : Type} (f : S → F7 → F7 × S) : ∀ (l : List F7) (s : S) (k : Nat), k < l.length → (pl.ml f s l).1.getD k zz = (f (pl.fs f s l k) (l.getD k zz)).1
  | [], _, _, h => absurd h (by simp)
  | x :: l, s, 0, _ => by simp [pl.ml, pl.fs]
  | x :: l, s, k + 1, h => by
    have e : pl.fs f s (x :: l) (k + 1) = pl.fs f (f s x).2 l k := by simp [pl.fs, pl.ml]
    have := ml_get f l (f s x).2 k (by simpa using h)
    rw [e]
    simpa [pl.ml] using this
theorem pay_pin {x : F7} (p : pl.Pin x) {s : pl.S4} (hm : 0 ≤ s.1) : pl.Pin (pl.pay s x).1 := by
  obtain ⟨⟨a1, a2, a3⟩, ⟨b1, b2, b3⟩, c1, c2, c3⟩ := pay_b p hm
  obtain ⟨p0, p1, p2, p3, p4, p5, p6, p7, p8, p9, q0, q1, q2, q3⟩ := p
  unfold pl.pay
  constructor <;> dsimp only <;> omega
/-- A paid plan is a plan. -/
theorem pay_pv {l : List F7} (h : pl.PV l) {n : Int} (hn : 0 ≤ n) : pl.PV (pl.ml pl.pay (n, 0, 0, 0) l).1 := by
  refine ⟨by rw [pl.ml_len]; exact h.1, fun i hi => ?_⟩
  rw [pl.ml_len] at hi
  have hp := fun i hi => h.pin (i := i) hi
  refine ⟨?_, fun hi0 => ?_⟩
  · rw [ml_get _ _ _ _ hi]
    exact pl.pok_iff.2 (pay_pin (hp i hi) (pst_b hp hn i (by omega)).a)
  · rw [ml_get _ _ _ _ hi, ml_get _ _ _ _ (by omega)]
    exact (h.2 i hi).up hi0
/-- What the sums of a paid plan say. -/
theorem pay_sum {l : List F7} (n : Int) : ∀ k, k ≤ l.length → (pl.sumTo (pl.ml pl.pay (n, 0, 0, 0) l).1 k).2.2.2.2.1 - (pl.sumTo l k).2.2.2.2.1 = (pl.fs pl.pay (n, 0, 0, 0) l k).2.2.2 ∧ (pl.sumTo (pl.ml pl.pay (n, 0, 0, 0) l).1 k).2.2.2.2.2.1 - (pl.sumTo l k).2.2.2.2.2.1 = (pl.fs pl.pay (n, 0, 0, 0) l k).2.2.1 ∧ (pl.sumTo (pl.ml pl.pay (n, 0, 0, 0) l).1 k).2.2.2.2.2.2 - (pl.sumTo l k).2.2.2.2.2.2 = (pl.fs pl.pay (n, 0, 0, 0) l k).2.1
  | 0, _ => by rw [pl.fs_zero]; simp [pl.sumTo]
  | k + 1, hk => by
    obtain ⟨a, b, c⟩ := pay_sum (l := l) n k (by omega)
    rw [pl.sumTo, pl.sumTo, pl.fs_succ _ _ (by omega), ml_get _ _ _ _ (by omega)]
    generalize pl.sumTo (pl.ml pl.pay (n, 0, 0, 0) l).1 k = A at a b c ⊢
    unfold pl.add
    dsimp only
    generalize pl.fs pl.pay (n, 0, 0, 0) l k = S at a b c ⊢
    unfold pl.pay
    dsimp only
    refine ⟨by omega, by omega, by omega⟩
noncomputable def pyOk (l : List F7) (n : Int) : Bool := pl.pv l && inR n 0 1000000000000
noncomputable def pyL (l : List F7) (n : Int) : List F7 := if pyOk l n then pl.fw pl.pay (n, 0, 0, 0) l l.length else []
noncomputable def pyS (l : List F7) (n : Int) : pl.S4 := if pyOk l n then pl.fs pl.pay (n, 0, 0, 0) l l.length else (0, 0, 0, 0)
theorem py_no {l : List F7} {n : Int} (h : pyOk l n = false) : pyL l n = [] ∧ pyS l n = (0, 0, 0, 0) := by unfold pyL pyS; rw [h]; exact ⟨rfl, rfl⟩
theorem py_yes {l : List F7} {n : Int} (h : pyOk l n = true) : pyL l n = pl.fw pl.pay (n, 0, 0, 0) l l.length ∧ pyS l n = pl.fs pl.pay (n, 0, 0, 0) l l.length := by unfold pyL pyS; rw [h]; exact ⟨rfl, rfl⟩
theorem pyL_len (l : List F7) (n : Int) : (pyL l n).length ≤ l.length := by
  unfold pyL; split
  · rw [pl.fw_len]; exact Nat.le_refl _
  · simp
/-- What has been handed on begins what is to be handed on. -/
theorem DS_pre {L : List F7} : ∀ (m k : Nat), k ≤ m → ∃ rest, DS L m = DS L k ++ rest ∧ ∀ p ∈ rest, p ∈ DS L m
  | 0, k, h => ⟨[], by obtain rfl : k = 0 := by omega
                       simp, fun p hp => by simp at hp⟩
  | m + 1, k, h => by
    by_cases e : k = m + 1
    · subst e; exact ⟨[], by simp, fun p hp => by simp at hp⟩
    · obtain ⟨rest, h1, _⟩ := DS_pre (L := L) m k (by omega)
      refine ⟨rest ++ dsTo m (L.getD m zz) 3, by rw [DS, h1, List.append_assoc], fun p hp => ?_⟩
      rw [DS, h1, List.append_assoc]
      exact List.mem_append_right _ hp
theorem dsTo_pre {i : Nat} {x : F7} : ∀ (m j : Nat), j ≤ m → ∃ rest, dsTo i x m = dsTo i x j ++ rest
  | 0, j, h => ⟨[], by obtain rfl : j = 0 := by omega
                       simp⟩
  | m + 1, j, h => by
    by_cases e : j = m + 1
    · subst e; exact ⟨[], by simp⟩
    · obtain ⟨rest, h1⟩ := dsTo_pre (i := i) (x := x) m j (by omega)
      exact ⟨rest ++ (if 0 < (el i x m).2 then [el i x m] else []), by rw [dsTo, h1, List.append_assoc]⟩
theorem dsTo_pos {i : Nat} {x : F7} : ∀ j, ∀ p ∈ dsTo i x j, 0 < p.2
  | 0, p, h => by simp [dsTo] at h
  | j + 1, p, h => by
    rw [dsTo, List.mem_append] at h
    rcases h with h | h
    · exact dsTo_pos j p h
    · split at h
      · rename_i c
        rw [List.mem_singleton.1 h]; exact c
      · simp at h
theorem DS_pos {L : List F7} : ∀ k, ∀ p ∈ DS L k, 0 < p.2
  | 0, p, h => by simp [DS] at h
  | k + 1, p, h => by
    rw [DS, List.mem_append] at h
    rcases h with h | h
    · exact DS_pos k p h
    · exact dsTo_pos 3 p h
theorem Nx_pre {L : List F7} {pre : List (Nat × Int)} {x : Nat × Int} (h : Nx L pre x) : ∃ rest, DS L L.length = pre ++ rest := by
  obtain ⟨k, j, hk, hj, rfl, _, _⟩ := h
  obtain ⟨r1, h1, _⟩ := DS_pre (L := L) L.length (k + 1) (by omega)
  obtain ⟨r2, h2⟩ := dsTo_pre (i := k) (x := L.getD k zz) 3 j (by omega)
  exact ⟨r2 ++ r1, by rw [h1, DS, h2]; simp⟩
/-- No money is left: the rest changes nothing. -/
theorem py_end {L : List F7} {m : Int} {pre rest : List (Nat × Int)} (h : DS L L.length = pre ++ rest) (hz : (py L m pre).2 = 0) : py L m (DS L L.length) = ((py L m pre).1, 0) := by
  have hq : ∀ p ∈ rest, p.1 / 7 < L.length ∧ 0 ≤ p.2 := fun p hp => by
    have hm : p ∈ DS L L.length := by rw [h]; exact List.mem_append_right _ hp
    have h1 := DS_at _ p hm
    have h2 := DS_pos _ p hm
    exact ⟨h1, by omega⟩
  rw [h, py_app, hz]
  exact py_stop rest _ fun p hp => ⟨by rw [py_len]; exact (hq p hp).1, (hq p hp).2⟩
/-- What is left is no less than nothing. -/
theorem py_nn : ∀ (pre : List (Nat × Int)) (L : List F7) (m : Int), 0 ≤ m → (∀ p ∈ pre, 0 ≤ p.2) → 0 ≤ (py L m pre).2 ∧ (py L m pre).2 ≤ m
  | [], _, m, hm, _ => ⟨hm, Int.le_refl m⟩
  | p :: pre, L, m, hm, h => by
    have hp := h p List.mem_cons_self
    have := py_nn pre (pst (L, m) p).1 (pst (L, m) p).2 (by unfold pst; dsimp only; omega) (fun q hq => h q (List.mem_cons_of_mem _ hq))
    have e : (pst (L, m) p).2 ≤ m := by unfold pst; dsimp only; omega
    exact ⟨this.1, Int.le_trans this.2 e⟩
theorem py_other : ∀ (pre : List (Nat × Int)) (L : List F7) (m : Int) (i : Nat), (∀ p ∈ pre, p.1 / 7 ≠ i) → (py L m pre).1.getD i zz = L.getD i zz
  | [], _, _, _, _ => rfl
  | p :: pre, L, m, i, h => by
    show (py (pst (L, m) p).1 (pst (L, m) p).2 pre).1.getD i zz = _
    rw [py_other pre _ _ i (fun q hq => h q (List.mem_cons_of_mem _ hq))]
    exact ap_other (p := (p.1, min m p.2)) (h p List.mem_cons_self)
/-- The Part where the j-th debt is paid. -/
theorem bump4 (x : F7) (v : Int) : (bump x 4 v).1 = x.1 ∧ (bump x 4 v).2.2.2.2.2.1 = x.2.2.2.2.2.1 ∧ (bump x 4 v).2.2.2.2.2.2 = x.2.2.2.2.2.2 := ⟨rfl, rfl, rfl⟩
theorem bump5 (x : F7) (v : Int) : (bump x 5 v).1 = x.1 ∧ (bump x 5 v).2.2.2.2.1 = x.2.2.2.2.1 ∧ (bump x 5 v).2.2.2.2.2.2 = x.2.2.2.2.2.2 := ⟨rfl, rfl, rfl⟩
theorem bump6 (x : F7) (v : Int) : (bump x 6 v).1 = x.1 ∧ (bump x 6 v).2.2.2.2.1 = x.2.2.2.2.1 ∧ (bump x 6 v).2.2.2.2.2.1 = x.2.2.2.2.2.1 := ⟨rfl, rfl, rfl⟩
theorem py_d1 {L : List F7} {m : Int} {k : Nat} (hk : k < L.length) : (py L m (dsTo k (L.getD k zz) 1)).1.getD k zz = L.getD k zz ∨ ∃ v, (py L m (dsTo k (L.getD k zz) 1)).1.getD k zz = bump (L.getD k zz) 6 v := by
  have d1 : dsTo k (L.getD k zz) 1 = [] ++ (if 0 < (el k (L.getD k zz) 0).2 then [el k (L.getD k zz) 0] else []) := rfl
  rw [d1, List.nil_append]
  split
  · refine .inr ⟨min m (el k (L.getD k zz) 0).2, ?_⟩
    show (pst (L, m) (el k (L.getD k zz) 0)).1.getD k zz = _
    rw [el0, pst_at (by omega)]
    exact seven.getD_set_same hk _
  · exact .inl rfl
theorem py_d2 {L : List F7} {m : Int} {k : Nat} (hk : k < L.length) : ((py L m (dsTo k (L.getD k zz) 2)).1.getD k zz).2.2.2.2.1 = (L.getD k zz).2.2.2.2.1 := by
  have h1 : ((py L m (dsTo k (L.getD k zz) 1)).1.getD k zz).2.2.2.2.1 = (L.getD k zz).2.2.2.2.1 := by
    rcases py_d1 (m := m) hk with h | ⟨v, h⟩
    · rw [h]
    · rw [h]; rfl
  have d2 : dsTo k (L.getD k zz) 2 = dsTo k (L.getD k zz) 1 ++ (if 0 < (el k (L.getD k zz) 1).2 then [el k (L.getD k zz) 1] else []) := rfl
  rw [d2]
  split
  · rw [py_snoc, el1]
    have hl : k < (py L m (dsTo k (L.getD k zz) 1)).1.length := by rw [py_len]; exact hk
    have := pst_at (L := (py L m (dsTo k (L.getD k zz) 1)).1) (m := (py L m (dsTo k (L.getD k zz) 1)).2) (i := k) (j := 5) (v := (L.getD k zz).2.2.1 - (L.getD k zz).2.2.2.2.2.1) (by omega)
    rw [show pst (py L m (dsTo k (L.getD k zz) 1)) (k * 7 + 5, (L.getD k zz).2.2.1 - (L.getD k zz).2.2.2.2.2.1) = _ from this]
    dsimp only
    rw [seven.getD_set_same hl]
    exact h1
  · rw [List.append_nil]; exact h1
/-- What the place of the next debt holds. -/
theorem py_place {L : List F7} {m : Int} {k j : Nat} (hk : k < L.length) (hj : j < 3) :
    let X := (py L m (DS L k ++ dsTo k (L.getD k zz) j)).1.getD k zz
    (j = 0 → X.2.2.2.2.2.2 = (L.getD k zz).2.2.2.2.2.2) ∧ (j = 1 → X.2.2.2.2.2.1 = (L.getD k zz).2.2.2.2.2.1) ∧ (j = 2 → X.2.2.2.2.1 = (L.getD k zz).2.2.2.2.1) := by
  dsimp only
  rw [py_app]
  obtain ⟨M, hM⟩ : ∃ M, M = (py L m (DS L k)).1 := ⟨_, rfl⟩
  have e : L.getD k zz = M.getD k zz := by rw [hM, py_other _ _ _ k (fun p hp => by have := DS_at k p hp; omega)]
  have hk' : k < M.length := by rw [hM, py_len]; exact hk
  rw [← hM, e]
  match j, hj with
  | 0, _ => exact ⟨fun _ => rfl, fun h => by omega, fun h => by omega⟩
  | 1, _ =>
    refine ⟨fun h => by omega, fun _ => ?_, fun h => by omega⟩
    rcases py_d1 (m := (py L m (DS L k)).2) hk' with h | ⟨v, h⟩
    · rw [h]
    · rw [h]; rfl
  | 2, _ => exact ⟨fun h => by omega, fun h => by omega, fun _ => py_d2 hk'⟩
theorem pay_row {W : World} {a : Option Addr} {c g : Nat} {L : List F7} {m : Int} {pre : List (Nat × Int)} {x : Nat × Int} (r : Row W a c g (py L m pre).1) (hp : ∀ i, i < L.length → pl.Pin (L.getD i zz)) (hV : Nx L pre x) :
    ∃ v, 0 ≤ v ∧ v ≤ 1000000000000 ∧ W.cell? ⟨g, x.1, none⟩ = some (.int .i64 v) ∧ W.frozen? ⟨g, x.1, none⟩ = false ∧ Row (W.setCell ⟨g, x.1, none⟩ (.int .i64 (v + min (py L m pre).2 x.2))) a c g (py L m (pre ++ [x])).1 := by
  obtain ⟨k, j, hk, hj, hpre, hx, hpos⟩ := hV
  have hk' : k < (py L m pre).1.length := by rw [py_len]; exact hk
  have hf := r.free (Nat.lt_of_le_of_lt (Nat.zero_le _) hk')
  have hq := py_place (L := L) (m := m) hk hj
  dsimp only at hq
  rw [← hpre] at hq
  have hc := r.cells k hk'
  have P := hp k hk
  rw [py_snoc]
  obtain ⟨X, hX⟩ : ∃ X, X = L.getD k zz := ⟨_, rfl⟩
  rw [← hX] at hq hx P
  obtain ⟨Q, hQ⟩ : ∃ Q, Q = py L m pre := ⟨_, rfl⟩
  rw [← hQ] at hq hk' hc r ⊢
  match j, hj with
  | 0, _ =>
    have hx' : x = (k * 7 + 6, x.2) := by rw [hx]; rfl
    have hv := hq.1 rfl
    refine ⟨X.2.2.2.2.2.2, P.g0, by have := P.g1; have := P.f1; omega, by rw [← hv, hx']; exact hc.c6, hf _, ?_⟩
    rw [← hv, hx']
    have e := pst_at (L := Q.1) (m := Q.2) (i := k) (j := 6) (v := x.2) (by omega)
    rw [show pst Q (k * 7 + 6, x.2) = _ from e]
    exact seven.rowSet6 r hk' rfl _
  | 1, _ =>
    have hx' : x = (k * 7 + 5, x.2) := by rw [hx]; rfl
    have hv := hq.2.1 rfl
    refine ⟨X.2.2.2.2.2.1, P.j0, by have := P.j1; have := P.i1; omega, by rw [← hv, hx']; exact hc.c5, hf _, ?_⟩
    rw [← hv, hx']
    have e := pst_at (L := Q.1) (m := Q.2) (i := k) (j := 5) (v := x.2) (by omega)
    rw [show pst Q (k * 7 + 5, x.2) = _ from e]
    exact seven.rowSet5 r hk' rfl _
  | 2, _ =>
    have hx' : x = (k * 7 + 4, x.2) := by rw [hx]; rfl
    have hv := hq.2.2 rfl
    refine ⟨X.2.2.2.2.1, P.q0, by have := P.q1; have := P.p1; omega, by rw [← hv, hx']; exact hc.c4, hf _, ?_⟩
    rw [← hv, hx']
    have e := pst_at (L := Q.1) (m := Q.2) (i := k) (j := 4) (v := x.2) (by omega)
    rw [show pst Q (k * 7 + 4, x.2) = _ from e]
    exact seven.rowSet4 r hk' rfl _
/-- A walk backward with nothing left changes nothing. -/
theorem bw_stop {f : Int → F7 → F7 × Int} {n : Int} {l : List F7} (hz : ∀ x ∈ l, f 0 x = (x, 0)) : ∀ (j k : Nat), k ≤ l.length → j ≤ k → pl.bs f n l k = 0 → pl.bw f n l (k - j) = pl.bw f n l k ∧ pl.bs f n l (k - j) = 0
  | 0, k, _, _, h => ⟨rfl, h⟩
  | j + 1, k, hk, hj, h => by
    obtain ⟨h1, h2⟩ := bw_stop (f := f) (n := n) (l := l) hz j k hk (by omega) h
    have hlt : k - (j + 1) < l.length := by omega
    have e : k - (j + 1) + 1 = k - j := by omega
    have hx : l.getD (k - (j + 1)) zz ∈ l := by rw [List.getD_eq_getElem?_getD, List.getElem?_eq_getElem hlt]; simp
    have hg := pl.bw_get f n (l := l) (k := k - (j + 1)) hlt
    rw [e] at hg
    rw [pl.bw_succ f n hlt, pl.bs_succ f n hlt, e, h2, hz _ hx]
    dsimp only
    rw [← hg, set_get (by rw [pl.bw_len]; exact hlt)]
    exact ⟨h1, rfl⟩
theorem cut_b {x : F7} (p : pl.Pin x) {m : Int} (hm : 0 ≤ m) : 0 ≤ (pl.cut m x).2 ∧ (pl.cut m x).2 ≤ m := by
  have := p.q1
  unfold pl.cut
  dsimp only
  omega
theorem back_b {x : F7} (p : pl.Pin x) {m : Int} (hm : 0 ≤ m) : 0 ≤ (pl.back m x).2 ∧ (pl.back m x).2 ≤ m := by
  have := p.q0
  unfold pl.back
  dsimp only
  omega
theorem cut_z {x : F7} (p : pl.Pin x) : pl.cut 0 x = (x, 0) := by
  have := p.q1
  have e : min 0 (x.2.1 - x.2.2.2.2.1) = 0 := by omega
  unfold pl.cut
  rw [e]; simp
theorem back_z {x : F7} (p : pl.Pin x) : pl.back 0 x = (x, 0) := by
  have := p.q0
  have e : min 0 x.2.2.2.2.1 = 0 := by omega
  unfold pl.back
  rw [e]; simp
theorem bs_b {f : Int → F7 → F7 × Int} (hf : ∀ x m, pl.Pin x → 0 ≤ m → 0 ≤ (f m x).2 ∧ (f m x).2 ≤ m) {l : List F7} (hp : ∀ i, i < l.length → pl.Pin (l.getD i zz)) {n : Int} (hn : 0 ≤ n) {k : Nat} (hk : k ≤ l.length) : 0 ≤ pl.bs f n l k ∧ pl.bs f n l k ≤ n :=
  pl.bs_keep (fun s => 0 ≤ s ∧ s ≤ n) ⟨hn, Int.le_refl _⟩ (fun s x h hx => by
    obtain ⟨i, hi, rfl⟩ := getD_mem hx
    have := hf _ s (hp i hi) h.1
    exact ⟨this.1, Int.le_trans this.2 h.2⟩) (l.length - k) k (by omega)
noncomputable def bkL (f : Int → F7 → F7 × Int) (l : List F7) (n : Int) : List F7 := if pyOk l n then pl.bw f n l 0 else []
noncomputable def bkN (f : Int → F7 → F7 × Int) (l : List F7) (n : Int) : Int := if pyOk l n then pl.bs f n l 0 else 0
theorem bk_no {f : Int → F7 → F7 × Int} {l : List F7} {n : Int} (h : pyOk l n = false) : bkL f l n = [] ∧ bkN f l n = 0 := by unfold bkL bkN; rw [h]; exact ⟨rfl, rfl⟩
theorem bk_yes {f : Int → F7 → F7 × Int} {l : List F7} {n : Int} (h : pyOk l n = true) : bkL f l n = pl.bw f n l 0 ∧ bkN f l n = pl.bs f n l 0 := by unfold bkL bkN; rw [h]; exact ⟨rfl, rfl⟩
theorem bkL_len (f : Int → F7 → F7 × Int) (l : List F7) (n : Int) : (bkL f l n).length ≤ l.length := by
  unfold bkL; split
  · rw [pl.bw_len]; exact Nat.le_refl _
  · simp
end Go.Proofs.YtchpjojndkkmeaaDoor.base
