/-
  Plain helpers of this seat's proofs: what is taken from an order is given back whole. Conditions: none.
-/
import Derived.Test.YtmaejlfjdkkpdaaDw
import Derived.Test.YtmaejlfjdkkpdaaOrd
namespace Go.Proofs.Ytmaejlfjdkkpdaa.ob
open Go.ChangeShapes Go.WideShapes Go.ChangeAt Go.RowKit
open gen
open seven (F7 zz Row At)
open four (F4)
open pl (inR)
open pls (nth Pls OL)
open ord (Sc iok)
/-- A sum over a list. -/
def sm {α : Type} (c : α → Int) : List α → Int
  | [] => 0
  | x :: l => c x + sm c l
theorem sm_snoc {α : Type} (c : α → Int) : ∀ (l : List α) (x : α), sm c (l ++ [x]) = sm c l + c x
  | [], x => by simp [sm]
  | y :: l, x => by simp only [List.cons_append, sm, sm_snoc c l x]; omega
theorem sm_nn {α : Type} {c : α → Int} : ∀ {l : List α}, (∀ x ∈ l, 0 ≤ c x) → 0 ≤ sm c l
  | [], _ => Int.le_refl _
  | x :: l, h => by
    have := h x (by simp)
    have := sm_nn (l := l) (fun y hy => h y (by simp [hy]))
    simp only [sm]; omega
theorem sm_congr {α : Type} {c d : α → Int} : ∀ {l : List α}, (∀ x ∈ l, c x = d x) → sm c l = sm d l
  | [], _ => rfl
  | x :: l, h => by simp only [sm]; rw [h x (by simp), sm_congr (l := l) (fun y hy => h y (by simp [hy]))]
def cP (x : F7) : Int := x.2.1
def cC (x : F7) : Int := x.2.1 - x.2.2.2.2.1
def cB (x : F7) : Int := x.2.2.2.2.1
theorem sm_PCB : ∀ l : List F7, sm cP l = sm cC l + sm cB l
  | [] => rfl
  | x :: l => by simp only [sm, sm_PCB l]; unfold cP cC cB; omega
theorem sumTo_P (l : List F7) : ∀ k, k ≤ l.length → (pl.sumTo l k).2.1 = sm cP (l.take k)
  | 0, _ => rfl
  | k + 1, h => by
    rw [wk.take_snoc zz (show k < l.length by omega), sm_snoc, ← sumTo_P l k (by omega)]; rfl
theorem sums_P {l : List F7} (h : pl.pv l = true) : (pl.sums l).2.1 = sm cP l := by
  have := sumTo_P l l.length (Nat.le_refl _)
  rw [List.take_length] at this
  rw [pl.sums_t h]; exact this
theorem ps_P {p : List (List F7)} (hp : ord.PVs p) : ∀ k, k ≤ p.length → (ord.ps p k).2.1 = sm (sm cP) (p.take k)
  | 0, _ => rfl
  | k + 1, h => by
    rw [wk.take_snoc [] (show k < p.length by omega), sm_snoc, ← ps_P hp k (by omega), ← sums_P (hp k (by omega))]; rfl
theorem ps_all {p : List (List F7)} (hp : ord.PVs p) : (ord.ps p p.length).2.1 = sm (sm cC) p + sm (sm cB) p := by
  have h := ps_P hp p.length (Nat.le_refl _)
  rw [List.take_length] at h
  rw [h]
  have : ∀ p : List (List F7), sm (sm cP) p = sm (sm cC) p + sm (sm cB) p := fun p => by
    induction p with
    | nil => rfl
    | cons q p ih => simp only [sm, ih, sm_PCB q]; omega
  exact this p
/-- What a change takes at most of a Part. -/
structure Tk (g : Int → F7 → F7 × Int) (c : F7 → Int) : Prop where
  v : ∀ m x, (g m x).2 = m - min m (c x)
  nn : ∀ x, pl.Pin x → 0 ≤ c x
theorem tk_cut : Tk pl.cut cC := ⟨fun _ _ => rfl, fun x h => by have := h.q1; unfold cC; omega⟩
theorem tk_back : Tk pl.back cB := ⟨fun _ _ => rfl, fun _ h => h.q0⟩
theorem mr_v {g : Int → F7 → F7 × Int} {c : F7 → Int} (t : Tk g c) {n : Int} (hn : 0 ≤ n) : ∀ {l : List F7}, (∀ x ∈ l, pl.Pin x) → (pl.mr g n l).2 = n - min n (sm c l)
  | [], _ => by simp only [pl.mr, sm]; omega
  | x :: l, h => by
    have i := mr_v t hn (l := l) (fun y hy => h y (by simp [hy]))
    have c0 := t.nn x (h x (by simp))
    have s0 := sm_nn (c := c) (l := l) (fun y hy => t.nn y (h y (by simp [hy])))
    simp only [pl.mr, sm]
    rw [t.v, i]; omega
theorem pin_mem {q : List F7} (h : pl.pv q = true) : ∀ x ∈ q, pl.Pin x := fun x hx => by
  obtain ⟨i, hi, rfl⟩ := List.mem_iff_getElem.1 hx
  have := (pl.pv_iff.1 h).pin hi
  rwa [List.getD_eq_getElem?_getD, List.getElem?_eq_getElem hi] at this
theorem bkN_v {g : Int → F7 → F7 × Int} {c : F7 → Int} (t : Tk g c) {q : List F7} {n : Int} (h : pl.pv q = true) (h0 : 0 ≤ n) (h1 : n ≤ 1000000000000) : base.bkN g q n = n - min n (sm c q) := by
  have ok : base.pyOk q n = true := by unfold base.pyOk; rw [h, Bool.true_and]; exact pl.inR_iff.2 ⟨h0, h1⟩
  rw [(base.bk_yes ok).2, pl.bs_zero]
  exact mr_v t h0 (pin_mem h)
theorem pvs_mem {p : List (List F7)} (h : ord.PVs p) : ∀ q ∈ p, pl.pv q = true := fun q hq => by
  obtain ⟨i, hi, rfl⟩ := List.mem_iff_getElem.1 hq
  have := h i hi
  rwa [List.getD_eq_getElem?_getD, List.getElem?_eq_getElem hi] at this
theorem mrD_v {g : Int → F7 → F7 × Int} {c : F7 → Int} (t : Tk g c) {n : Int} (h0 : 0 ≤ n) (h1 : n ≤ 1000000000000) : ∀ {p : List (List F7)}, (∀ q ∈ p, pl.pv q = true) → (wk.mr (stD g) n p).2 = n - min n (sm (sm c) p)
  | [], _ => by simp only [wk.mr, sm]; omega
  | q :: p, h => by
    have i := mrD_v t h0 h1 (p := p) (fun y hy => h y (by simp [hy]))
    have s0 := sm_nn (c := sm c) (l := p) (fun y hy => sm_nn fun x hx => t.nn x (pin_mem (h y (by simp [hy])) x hx))
    have s1 := sm_nn (c := c) (l := q) (fun x hx => t.nn x (pin_mem (h q (by simp)) x hx))
    simp only [wk.mr, sm]
    show base.bkN g q (wk.mr (stD g) n p).2 = _
    rw [i, bkN_v t (h q (by simp)) (by omega) (by omega)]; omega
theorem dN_v {g : Int → F7 → F7 × Int} {c : F7 → Int} (t : Tk g c) {n : Int} (h0 : 0 ≤ n) (h1 : n ≤ 1000000000000) {p : List (List F7)} (h : ord.PVs p) : dN g p n = n - min n (sm (sm c) p) := by
  unfold dN; rw [wk.bs_zero]; exact mrD_v t h0 h1 (pvs_mem h)
theorem cut_paid (n : Int) : ∀ l : List F7, sm cB (pl.mr pl.cut n l).1 = sm cB l
  | [] => rfl
  | x :: l => by simp only [pl.mr, sm, cut_paid n l]; rfl
theorem bkL_paid {q : List F7} {n : Int} (h : pl.pv q = true) (h0 : 0 ≤ n) (h1 : n ≤ 1000000000000) : sm cB (base.bkL pl.cut q n) = sm cB q := by
  have ok : base.pyOk q n = true := by unfold base.pyOk; rw [h, Bool.true_and]; exact pl.inR_iff.2 ⟨h0, h1⟩
  rw [(base.bk_yes ok).1, pl.bw_zero, cut_paid]
theorem mrD_paid {n : Int} (h0 : 0 ≤ n) (h1 : n ≤ 1000000000000) : ∀ {p : List (List F7)}, (∀ q ∈ p, pl.pv q = true) → sm (sm cB) (wk.mr (stD pl.cut) n p).1 = sm (sm cB) p
  | [], _ => rfl
  | q :: p, h => by
    have i := mrD_paid h0 h1 (p := p) (fun y hy => h y (by simp [hy]))
    have v := mrD_v tk_cut h0 h1 (p := p) (fun y hy => h y (by simp [hy]))
    have s0 := sm_nn (c := sm cC) (l := p) (fun y hy => sm_nn fun x hx => tk_cut.nn x (pin_mem (h y (by simp [hy])) x hx))
    simp only [wk.mr, sm, i]
    show sm cB (base.bkL pl.cut q (wk.mr (stD pl.cut) n p).2) + _ = _
    rw [bkL_paid (h q (by simp)) (by omega) (by omega)]
theorem dL_paid {n : Int} (h0 : 0 ≤ n) (h1 : n ≤ 1000000000000) {p : List (List F7)} (h : ord.PVs p) : sm (sm cB) (dL pl.cut p n) = sm (sm cB) p := by
  unfold dL; rw [wk.bw_zero]; exact mrD_paid h0 h1 (pvs_mem h)
/-- The plans when m is taken, and what is given back. -/
noncomputable def tkL (p : List (List F7)) (m : Int) : List (List F7) := dL pl.back (dL pl.cut p m) (dN pl.cut p m)
noncomputable def tkN (p : List (List F7)) (m : Int) : Int := dN pl.cut p m
theorem tk_none {p : List (List F7)} {m : Int} (h : ord.PVs p) (h0 : 0 ≤ m) (h1 : m ≤ 1000000000000) (hm : m ≤ (ord.ps p p.length).2.1) : dN pl.back (dL pl.cut p m) (dN pl.cut p m) = 0 := by
  obtain ⟨a, b⟩ := dN_in gd_cut h0 h1 h
  have e1 := dN_v tk_cut h0 h1 h
  have s1 := sm_nn (c := sm cC) (l := p) (fun y hy => sm_nn fun x hx => tk_cut.nn x (pin_mem (pvs_mem h y hy) x hx))
  have s2 := sm_nn (c := sm cB) (l := p) (fun y hy => sm_nn fun x hx => tk_back.nn x (pin_mem (pvs_mem h y hy) x hx))
  rw [dN_v tk_back a (by omega) (PVs_cut h h0 h1), dL_paid h0 h1 h]
  rw [ps_all h] at hm
  omega
theorem tkL_len (p : List (List F7)) (m : Int) : (tkL p m).length = p.length := by unfold tkL; rw [dL_len, dL_len]
end Go.Proofs.Ytmaejlfjdkkpdaa.ob
