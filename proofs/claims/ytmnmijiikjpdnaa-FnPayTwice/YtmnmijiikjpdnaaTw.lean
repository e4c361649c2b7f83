/-
  Plain helpers of this seat's proofs: paying in two pieces. Conditions: none.
-/
import Derived.Test.YtmnmijiikjpdnaaJTt
namespace Go.Proofs.Ytmnmijiikjpdnaa.base
open Go.ChangeShapes Go.WideShapes Go.ChangeAt Go.RowKit
open seven (F7 zz Row At)
open pl (inR prOk pok)
open gen
theorem pay_two1 {a b : Int} {x : F7} (p : pl.Pin x) (_ha : 0 ≤ a) (_hb : 0 ≤ b) : payN (a + b) x = ((payN b (payN a x).1).1, (payN a x).2 + (payN b (payN a x).1).2) := by
  have p0 := p.q0; have p1 := p.q1; have p2 := p.j0; have p3 := p.j1; have p4 := p.g0; have p5 := p.g1
  obtain ⟨x0, x1, x2, x3, x4, x5, x6⟩ := x
  dsimp only at p0 p1 p2 p3 p4 p5
  unfold payN pl.pay pl.pP pl.pI pl.pF
  dsimp only
  simp only [Prod.mk.injEq]
  and_intros <;> first | rfl | trivial | omega
theorem pay_two : ∀ (l : List F7) (a b : Int), 0 ≤ a → 0 ≤ b → (∀ x ∈ l, pl.Pin x) → pl.ml payN (a + b) l = ((pl.ml payN b (pl.ml payN a l).1).1, (pl.ml payN a l).2 + (pl.ml payN b (pl.ml payN a l).1).2)
  | [], a, b, _, _, _ => rfl
  | x :: l, a, b, ha, hb, h => by
    have px := h x List.mem_cons_self
    have e := pay_two1 px ha hb
    have l1 := pay_left px ha
    have px1 : pl.Pin (payN a x).1 := pay_pin (s := (a, 0, 0, 0)) px ha
    have l2 := pay_left px1 hb
    have ih := pay_two l (payN a x).2 (payN b (payN a x).1).2 l1.1 l2.1 fun y hy => h y (List.mem_cons_of_mem _ hy)
    simp only [pl.ml]
    rw [e]
    dsimp only
    rw [ih]
theorem payN_all (n : Int) (l : List F7) : pl.ml payN n l = ((pl.ml pl.pay (n, 0, 0, 0) l).1, (pl.ml pl.pay (n, 0, 0, 0) l).2.1) :=
  ml_sim (f := pl.pay) (g := payN) (fun s => s.1) (fun s x => (pay_1 s x).1) (fun s x => (pay_1 s x).2) l (n, 0, 0, 0)
/-- Paid in two pieces is paid at once. -/
theorem two_pieces {l : List F7} (h : pl.PV l) {n k : Int} (k0 : 0 ≤ k) (k1 : k ≤ n) (n1 : n ≤ 1000000000000) : pyL (pyL l k) (n - k) = pyL l n ∧ (pyS l n).1 = (pyS l k).1 + (pyS (pyL l k) (n - k)).1 := by
  have okn : pyOk l n = true := by unfold pyOk; rw [pl.pv_t h, Bool.true_and, pl.inR_iff]; omega
  have okk : pyOk l k = true := by unfold pyOk; rw [pl.pv_t h, Bool.true_and, pl.inR_iff]; omega
  have hv := pay_pv h k0
  have okd : pyOk (pl.ml pl.pay (k, 0, 0, 0) l).1 (n - k) = true := by unfold pyOk; rw [pl.pv_t hv, Bool.true_and, pl.inR_iff]; omega
  have t := pay_two l k (n - k) k0 (by omega) (pin_mem h)
  rw [show k + (n - k) = n by omega, payN_all, payN_all, payN_all] at t
  dsimp only at t
  rw [Prod.mk.injEq] at t
  rw [(py_yes okk).1, (py_yes okk).2, (py_yes okn).1, (py_yes okn).2, pl.fw_all, pl.fw_all, pl.fs_all, pl.fs_all, (py_yes okd).1, (py_yes okd).2, pl.fw_all, pl.fs_all]
  exact ⟨t.1.symm, t.2⟩
end Go.Proofs.Ytmnmijiikjpdnaa.base
