/-
  Plain helpers of this seat's proofs: the mathematics of paying off. Conditions: none.
-/
import Derived.Test.YtmnmijiikjpdnaaJTt
import Derived.Test.YtmnmijiikjpdnaaPd
namespace Go.Proofs.Ytmnmijiikjpdnaa.base
open Go.ChangeShapes Go.WideShapes Go.ChangeAt Go.RowKit
open seven (F7 zz Row At)
open pl (inR prOk pok)
open gen
theorem tot_map (f : F7 → Int) (h : F7 → F7) : ∀ l : List F7, tot f (l.map h) = tot (fun x => f (h x)) l
  | [] => rfl
  | x :: l => by
    show f (h x) + tot f (l.map h) = f (h x) + tot (fun x => f (h x)) l
    rw [tot_map f h l]
/-- What is to be paid of one Part. -/
def pq (d : Int) (x : F7) : Int := op (wvX d x)
theorem pf_take (l : List F7) (d : Int) : ∀ k, k ≤ l.length → pfTo l d k = tot (pq d) (l.take k)
  | 0, _ => rfl
  | k + 1, h => by
    rw [pfTo, pf_take l d k (by omega), pl.take_snoc (by omega), tot_snoc]; rfl
theorem pf_tot (l : List F7) (d : Int) : pfTo l d l.length = tot (pq d) l := by
  rw [pf_take l d l.length (Nat.le_refl _), List.take_length]
theorem wv_tot (d : Int) : ∀ (l : List F7) (s : Int), (pl.ml (wv d) s l).2 = s + tot (pl.woff d) l
  | [], s => by simp [pl.ml, tot]
  | x :: l, s => by
    simp only [pl.ml]
    rw [wv_tot d l]
    show s + pl.woff d x + tot (pl.woff d) l = s + (pl.woff d x + tot (pl.woff d) l)
    omega
theorem op_eq (x : F7) (p : pl.Pin x) : op x = (x.2.1 - x.2.2.2.2.1) + (x.2.2.1 - x.2.2.2.2.2.1) + (x.2.2.2.1 - x.2.2.2.2.2.2) := by
  have p0 := p.q0; have p1 := p.q1; have p2 := p.j0; have p3 := p.j1; have p4 := p.g0; have p5 := p.g1
  unfold op
  omega
theorem pq_eq {d : Int} {x : F7} (p : pl.Pin x) : pq d x = (x.2.1 - x.2.2.2.2.1) + (x.2.2.1 - x.2.2.2.2.2.1) + (x.2.2.2.1 - x.2.2.2.2.2.2) - pl.woff d x := by
  unfold pq
  rw [op_eq _ (wvX_pin p)]
  unfold wvX
  dsimp only
  omega
theorem pq_tot (d : Int) : ∀ l : List F7, (∀ x ∈ l, pl.Pin x) → tot (pq d) l + tot (pl.woff d) l = tot fP l + tot fI l + tot fF l - tot fp l - tot fi l - tot ff l ∧ 0 ≤ tot (pq d) l ∧ tot (pq d) l ≤ 3000000000000 * l.length ∧ 0 ≤ tot (pl.woff d) l ∧ tot (pl.woff d) l ≤ 1000000000000 * l.length
  | [], _ => by simp [tot]
  | x :: l, h => by
    have px := h x List.mem_cons_self
    obtain ⟨a, b, c, e, f⟩ := pq_tot d l fun y hy => h y (List.mem_cons_of_mem _ hy)
    have q := pq_eq (d := d) px
    have w := woff_in (d := d) px
    obtain ⟨p0, p1, p2, p3, p4, p5, p6, p7, p8, p9, q0, q1, q2, q3⟩ := px
    simp only [tot, fP, fI, fF, fp, fi, ff, List.length_cons] at *
    omega
theorem pq_later {d e : Int} (h : d ≤ e) : ∀ l : List F7, (∀ x ∈ l, pl.Pin x) → tot (pq d) l ≤ tot (pq e) l
  | [], _ => Int.le_refl _
  | x :: l, hp => by
    have px := hp x List.mem_cons_self
    have ih := pq_later h l fun y hy => hp y (List.mem_cons_of_mem _ hy)
    have q := pq_eq (d := d) px
    have r := pq_eq (d := e) px
    have j1 := px.j1
    have w : pl.woff e x ≤ pl.woff d x := by unfold pl.woff; split <;> split <;> omega
    simp only [tot] at *
    omega
theorem full_pin {x : F7} (p : pl.Pin x) : pl.Pin (full x) ∧ (full x).1 = x.1 ∧ (full x).2.1 = (full x).2.2.2.2.1 ∧ (full x).2.2.1 = (full x).2.2.2.2.2.1 ∧ (full x).2.2.2.1 = (full x).2.2.2.2.2.2 := by
  obtain ⟨p0, p1, p2, p3, p4, p5, p6, p7, p8, p9, q0, q1, q2, q3⟩ := p
  unfold full
  refine ⟨?_, rfl, rfl, rfl, rfl⟩
  constructor <;> dsimp only <;> omega
theorem off_pv {l : List F7} {d : Int} (h : pl.PV l) : pl.PV (offL l d) :=
  pv_same h (by unfold offL; simp) fun i hi => by
    have e : (offL l d).getD i zz = full (wvX d (l.getD i zz)) := getD_map hi
    rw [e]
    have := full_pin (wvX_pin (d := d) (h.pin hi))
    exact ⟨this.2.1, this.1⟩
theorem off_tot {d : Int} : ∀ l : List F7, (∀ x ∈ l, pl.Pin x) → tot fP (offL l d) = tot fp (offL l d) ∧ tot fI (offL l d) = tot fi (offL l d) ∧ tot fF (offL l d) = tot ff (offL l d)
  | [], _ => ⟨rfl, rfl, rfl⟩
  | x :: l, h => by
    obtain ⟨a, b, c⟩ := off_tot (d := d) l fun y hy => h y (List.mem_cons_of_mem _ hy)
    obtain ⟨-, -, e1, e2, e3⟩ := full_pin (wvX_pin (d := d) (h x List.mem_cons_self))
    unfold offL at *
    simp only [List.map_cons, tot, fP, fI, fF, fp, fi, ff] at *
    omega
theorem paid_pq {d : Int} : ∀ l : List F7, (∀ x ∈ l, pl.Pin x ∧ x.2.1 = x.2.2.2.2.1 ∧ x.2.2.1 = x.2.2.2.2.2.1 ∧ x.2.2.2.1 = x.2.2.2.2.2.2) → tot (pq d) l = 0
  | [], _ => rfl
  | x :: l, h => by
    have ih := paid_pq (d := d) l fun y hy => h y (List.mem_cons_of_mem _ hy)
    obtain ⟨p, e1, e2, e3⟩ := h x List.mem_cons_self
    have q := pq_eq (d := d) p
    have w := woff_in (d := d) p
    simp only [tot] at *
    omega
/-- What the law on paying off asks. -/
structure OffT (l m : List F7) (d n v : Int) : Prop where
  pv : pl.PV m
  n0 : 0 ≤ n
  n1 : n ≤ 72000000000000
  v0 : 0 ≤ v
  v1 : v ≤ 24000000000000
  all : n + v = tot fP l + tot fI l + tot fF l - tot fp l - tot fi l - tot ff l
  no : tot fP m + tot fI m + tot fF m - tot fp m - tot fi m - tot ff m = 0
  later : ∀ e, d ≤ e → e ≤ 100000 → n ≤ pof l e
  z : pof m d = 0
theorem off_all {l : List F7} {d : Int} (h : pl.PV l) (d0 : 0 ≤ d) (d1 : d ≤ 100000) : OffT l (poL l d) d (pof l d) (poN l d) := by
  have ok : (pl.pv l && inR d 0 100000) = true := by rw [pl.pv_t h, Bool.true_and, pl.inR_iff]; exact ⟨d0, d1⟩
  have pm := pin_mem h
  have e1 : pof l d = tot (pq d) l := by rw [pof_t (pl.pv_t h) (pl.inR_iff.2 ⟨d0, d1⟩), pf_tot]
  have e2 : poN l d = tot (pl.woff d) l := by rw [(po_yes ok).2, pl.fs_all, wv_tot]; omega
  have q := pq_tot d l pm
  have l24 := h.1
  have o := off_tot (d := d) l pm
  rw [(po_yes ok).1, e1, e2]
  refine ⟨off_pv h, q.2.1, by omega, q.2.2.2.1, by omega, q.1, by omega, fun e he he1 => ?_, ?_⟩
  · rw [pof_t (pl.pv_t h) (pl.inR_iff.2 ⟨by omega, he1⟩), pf_tot]
    exact pq_later he l pm
  · rw [pof_t (pl.pv_t (off_pv h)) (pl.inR_iff.2 ⟨d0, d1⟩), pf_tot]
    refine paid_pq _ fun x hx => ?_
    unfold offL at hx
    obtain ⟨y, hy, rfl⟩ := List.mem_map.1 hx
    have := full_pin (wvX_pin (d := d) (pm y hy))
    exact ⟨this.1, this.2.2⟩
theorem off_neg {l : List F7} {d : Int} (h : ¬ (pl.PV l ∧ 0 ≤ d ∧ d ≤ 100000)) : pof l d = -1 := by
  unfold pof
  by_cases hv : pl.PV l
  · have k : ¬ (0 ≤ d ∧ d ≤ 100000) := fun k => h ⟨hv, k⟩
    rw [pl.pv_t hv, Bool.true_and, show inR d 0 100000 = false from pl.inR_not.2 (by omega)]; rfl
  · rw [pl.pv_f hv]; rfl
end Go.Proofs.Ytmnmijiikjpdnaa.base
