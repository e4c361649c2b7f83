/-
  Plain helpers of this seat's proofs: what is done to a plan leaves a plan. Conditions: none.
-/
import Derived.Test.YtmnmijiikjpdnaaPy
import Derived.Test.YtmnmijiikjpdnaaOut
namespace Go.Proofs.Ytmnmijiikjpdnaa.base
open Go.ChangeShapes Go.WideShapes Go.ChangeAt Go.RowKit
open seven (F7 zz Row At)
open pl (inR prOk pok)
open gen
theorem pv_same {l l' : List F7} (h : pl.PV l) (hl : l'.length = l.length) (hd : ∀ i, i < l.length → (l'.getD i zz).1 = (l.getD i zz).1 ∧ pl.Pin (l'.getD i zz)) : pl.PV l' := by
  refine ⟨by rw [hl]; exact h.1, fun i hi => ?_⟩
  rw [hl] at hi
  refine ⟨pl.pok_iff.2 (hd i hi).2, fun h0 => ?_⟩
  rw [(hd i hi).1, (hd (i - 1) (by omega)).1]
  exact (h.2 i hi).up h0
theorem mr_get {S : Type} (f : S → F7 → F7 × S) : ∀ (l : List F7) (s : S) (k : Nat), k < l.length → (pl.mr f s l).1.getD k zz = (f (pl.bs f s l (k + 1)) (l.getD k zz)).1
  | [], _, _, h => absurd h (by simp)
  | x :: l, s, 0, _ => by simp [pl.mr, pl.bs]
  | x :: l, s, k + 1, h => by
    have e : pl.bs f s (x :: l) (k + 1 + 1) = pl.bs f s l (k + 1) := by simp [pl.bs]
    have := mr_get f l s k (by simpa using h)
    rw [e]
    simpa [pl.mr] using this
theorem late_pin {d f g s : Int} {x : F7} (p : pl.Pin x) (f0 : 0 ≤ f) (f1 : f ≤ 1000000000000) : pl.Pin (pl.late d f g s x).1 ∧ (pl.late d f g s x).1.1 = x.1 := by
  cases h : pl.isLate d g x with
  | false => rw [late_f h]; exact ⟨p, rfl⟩
  | true =>
    rw [late_t h]
    obtain ⟨p0, p1, p2, p3, p4, p5, p6, p7, p8, p9, q0, q1, q2, q3⟩ := p
    have e : x.2.2.2.1 = 0 := by
      unfold pl.isLate at h
      simp only [Bool.and_eq_true, beq_iff_eq] at h
      exact h.1.2
    refine ⟨⟨p0, p1, p2, p3, p4, p5, f0, f1, p8, p9, q0, q1, q2, ?_⟩, rfl⟩
    dsimp only
    omega
theorem late_pv {d f g : Int} {l : List F7} (h : pl.PV l) (f0 : 0 ≤ f) (f1 : f ≤ 1000000000000) : pl.PV (pl.ml (pl.late d f g) 0 l).1 :=
  pv_same h (pl.ml_len _ _ _) fun i hi => by
    rw [ml_get _ _ _ _ hi]
    have := late_pin (d := d) (f := f) (g := g) (s := pl.fs (pl.late d f g) 0 l i) (h.pin hi) f0 f1
    exact ⟨this.2, this.1⟩
theorem late_due {d f g : Int} {l : List F7} (h : pl.PV l) (f0 : 0 ≤ f) (f1 : f ≤ 1000000000000) {i : Nat} (hi : i < l.length) : ((pl.ml (pl.late d f g) 0 l).1.getD i zz).1 = (l.getD i zz).1 := by
  rw [ml_get _ _ _ _ hi]
  exact (late_pin (h.pin hi) f0 f1).2
theorem pay_due {n : Int} {l : List F7} {i : Nat} (hi : i < l.length) : ((pl.ml pl.pay (n, 0, 0, 0) l).1.getD i zz).1 = (l.getD i zz).1 := by
  rw [ml_get _ _ _ _ hi]; rfl
theorem cut_pin {m : Int} {x : F7} (p : pl.Pin x) (hm : 0 ≤ m) : pl.Pin (pl.cut m x).1 := by
  obtain ⟨p0, p1, p2, p3, p4, p5, p6, p7, p8, p9, q0, q1, q2, q3⟩ := p
  unfold pl.cut
  constructor <;> dsimp only <;> omega
theorem back_pin {m : Int} {x : F7} (p : pl.Pin x) (hm : 0 ≤ m) : pl.Pin (pl.back m x).1 := by
  obtain ⟨p0, p1, p2, p3, p4, p5, p6, p7, p8, p9, q0, q1, q2, q3⟩ := p
  unfold pl.back
  constructor <;> dsimp only <;> omega
theorem cut_pv {m : Int} {l : List F7} (h : pl.PV l) (hm : 0 ≤ m) : pl.PV (pl.mr pl.cut m l).1 :=
  pv_same h (pl.mr_len _ _ _) fun i hi => by
    rw [mr_get _ _ _ _ hi]
    exact ⟨rfl, cut_pin (h.pin hi) (bs_b (f := pl.cut) (fun x m hx hm => cut_b hx hm) (l := l) (fun i hi => h.pin (i := i) hi) hm (k := i + 1) hi).1⟩
theorem cut_due {m : Int} {l : List F7} {i : Nat} (hi : i < l.length) : ((pl.mr pl.cut m l).1.getD i zz).1 = (l.getD i zz).1 := by
  rw [mr_get _ _ _ _ hi]; rfl
theorem back_pv {m : Int} {l : List F7} (h : pl.PV l) (hm : 0 ≤ m) : pl.PV (pl.mr pl.back m l).1 :=
  pv_same h (pl.mr_len _ _ _) fun i hi => by
    rw [mr_get _ _ _ _ hi]
    exact ⟨rfl, back_pin (h.pin hi) (bs_b (f := pl.back) (fun x m hx hm => back_b hx hm) (l := l) (fun i hi => h.pin (i := i) hi) hm (k := i + 1) hi).1⟩
end Go.Proofs.Ytmnmijiikjpdnaa.base
