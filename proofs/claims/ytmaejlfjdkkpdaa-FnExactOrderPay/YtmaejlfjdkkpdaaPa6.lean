/-
  Plain helpers of this seat's proofs: paying an order: its mathematics, and the landed method. Conditions: none.
-/
import Derived.Test.YtmaejlfjdkkpdaaAd7
import Derived.Test.YtmaejlfjdkkpdaaPlSt
import Derived.Test.YtmaejlfjdkkpdaaSi
import Derived.Test.YtmaejlfjdkkpdaaSmI
import Derived.Test.YtmaejlfjdkkpdaaPyI
import Derived.StillTailTactics
namespace Go.Proofs.Ytmaejlfjdkkpdaa.base
open Go.ChangeShapes Go.WideShapes Go.ChangeAt Go.RowKit
open seven (F7 zz Row At)
open pl (inR prOk pok)
open gen
/-- Numbers that may be added, each by itself. -/
structure Ed (M : Int) (x : F7) : Prop where
  d : True
  p0 : 0 ≤ x.2.1
  p1 : x.2.1 ≤ M
  i0 : 0 ≤ x.2.2.1
  i1 : x.2.2.1 ≤ M
  f0 : 0 ≤ x.2.2.2.1
  f1 : x.2.2.2.1 ≤ M
  q0 : 0 ≤ x.2.2.2.2.1
  q1 : x.2.2.2.2.1 ≤ M
  j0 : 0 ≤ x.2.2.2.2.2.1
  j1 : x.2.2.2.2.2.1 ≤ M
  g0 : 0 ≤ x.2.2.2.2.2.2
  g1 : x.2.2.2.2.2.2 ≤ M
set_option maxRecDepth 20000 in
set_option maxHeartbeats 2000000 in
theorem addE (w : World) (b : Nat) (s x : F7) (hA : At w b 0 s) (hf : ∀ i, w.frozen? ⟨b, i, none⟩ = false) (hs : Ed 1000000000000000 s) (hx : Ed 100000000000000 x) :
    Calls Try.prog 95 #[.pointer (some ⟨b, 0, none⟩), .agg #[.int .i64 x.1, .int .i64 x.2.1, .int .i64 x.2.2.1, .int .i64 x.2.2.2.1, .int .i64 x.2.2.2.2.1, .int .i64 x.2.2.2.2.2.1, .int .i64 x.2.2.2.2.2.2]] w fun e w' => (∃ v, e = .returned v) ∧ At w' b 0 (pl.add s x) ∧ (∀ i, w'.frozen? ⟨b, i, none⟩ = false) ∧ Turned b w w' := by
  have lb := hA.lt
  have T0 := Lib.hid ((Turned.refl b w).alloc (Nat.le_of_lt lb) (.cells #[.int .i64 x.1, .int .i64 x.2.1, .int .i64 x.2.2.1, .int .i64 x.2.2.2.1, .int .i64 x.2.2.2.2.1, .int .i64 x.2.2.2.2.2.1, .int .i64 x.2.2.2.2.2.2] 37))
  have A0 := hA.keep (Below.heap_alloc w (.cells #[.int .i64 x.1, .int .i64 x.2.1, .int .i64 x.2.2.1, .int .i64 x.2.2.2.1, .int .i64 x.2.2.2.2.1, .int .i64 x.2.2.2.2.2.1, .int .i64 x.2.2.2.2.2.2] 37) b lb)
  have F0 : ∀ i, (w.alloc (.cells #[.int .i64 x.1, .int .i64 x.2.1, .int .i64 x.2.2.1, .int .i64 x.2.2.2.1, .int .i64 x.2.2.2.2.1, .int .i64 x.2.2.2.2.2.1, .int .i64 x.2.2.2.2.2.2] 37)).frozen? ⟨b, i, none⟩ = false := fun i => by rw [World.frozen?_of_block (w := w) (a := ⟨b, i, none⟩) (Below.heap_alloc w (.cells #[.int .i64 x.1, .int .i64 x.2.1, .int .i64 x.2.2.1, .int .i64 x.2.2.2.1, .int .i64 x.2.2.2.2.1, .int .i64 x.2.2.2.2.2.1, .int .i64 x.2.2.2.2.2.2] 37) b lb)]; exact hf i
  have Q0 : At (w.alloc (.cells #[.int .i64 x.1, .int .i64 x.2.1, .int .i64 x.2.2.1, .int .i64 x.2.2.2.1, .int .i64 x.2.2.2.2.1, .int .i64 x.2.2.2.2.2.1, .int .i64 x.2.2.2.2.2.2] 37)) w.heap.size 0 x := seven.At.boxed w x _
  clear hA hf
  go_enter Try.func95, Try.ntmps95
  go_wp2_with fail
  generalize w.alloc (.cells #[.int .i64 x.1, .int .i64 x.2.1, .int .i64 x.2.2.1, .int .i64 x.2.2.2.1, .int .i64 x.2.2.2.2.1, .int .i64 x.2.2.2.2.2.1, .int .i64 x.2.2.2.2.2.2] 37) = W0 at T0 A0 F0 Q0 ⊢
  obtain ⟨bx, hbx⟩ : ∃ bx, bx = w.heap.size := ⟨_, rfl⟩
  rw [← hbx] at Q0 ⊢
  have nb : b ≠ bx := by omega
  clear hbx lb
  obtain ⟨s0, s1, s2, s3, s4, s5, s6⟩ := s
  obtain ⟨x0, x1, x2, x3, x4, x5, x6⟩ := x
  obtain ⟨_, v1, v2, v3, v4, v5, v6, v7, v8, v9, v10, v11, v12⟩ := hs
  obtain ⟨_, u1, u2, u3, u4, u5, u6, u7, u8, u9, u10, u11, u12⟩ := hx
  replace v2 : s1 ≤ 1000000000000000 := by dsimp only at v2; omega
  replace v4 : s2 ≤ 1000000000000000 := by dsimp only at v4; omega
  replace v6 : s3 ≤ 1000000000000000 := by dsimp only at v6; omega
  dsimp only at v1 v2 v3 v4 v5 v6 v7 v8 v9 v10 v11 v12 u1 u2 u3 u4 u5 u6 u7 u8 u9 u10 u11 u12
  have p1 := A0.c1
  have q1 := Q0.c1
  have f1 := F0 1
  simp only [Nat.zero_add] at p1 q1
  go_still_tail 9, (by kernel_rfl)
  change wpList _ _ _ _ _ W0.drew
  have T1 := Lib.hid ((T0.out.set 1 (.int .i64 (s1 + x1))).drew)
  have A1 : At ((W0.setCell ⟨b, 1, none⟩ (.int .i64 (s1 + x1))).drew) b 0 (s0, s1 + x1, s2, s3, s4, s5, s6) := (setAt1 A0 _).keep rfl
  have Q1 : At ((W0.setCell ⟨b, 1, none⟩ (.int .i64 (s1 + x1))).drew) bx 0 (x0, x1, x2, x3, x4, x5, x6) := Q0.keep (Below.heap_setCell W0 ⟨b, 1, none⟩ _ _ (Ne.symm nb))
  have F1 : ∀ i, ((W0.setCell ⟨b, 1, none⟩ (.int .i64 (s1 + x1))).drew).frozen? ⟨b, i, none⟩ = false := fun i => (World.frozen?_setCell W0 _ _ _).trans (F0 i)
  replace f1 : W0.drew.frozen? ⟨b, 1, none⟩ = false := f1
  replace p1 : W0.drew.cell? ⟨b, 1, none⟩ = some (.int .i64 s1) := p1
  clear q1
  go_wp2_with fail
  generalize (W0.setCell ⟨b, 1, none⟩ (.int .i64 (s1 + x1))).drew = W1 at T1 A1 Q1 F1 ⊢
  clear p1 f1 T0 A0 Q0 F0
  have p2 := A1.c2
  have q2 := Q1.c2
  have f2 := F1 2
  simp only [Nat.zero_add] at p2 q2
  go_still_tail 9, (by kernel_rfl)
  change wpList _ _ _ _ _ W1.drew
  have T2 := Lib.hid ((T1.out.set 2 (.int .i64 (s2 + x2))).drew)
  have A2 : At ((W1.setCell ⟨b, 2, none⟩ (.int .i64 (s2 + x2))).drew) b 0 (s0, s1 + x1, s2 + x2, s3, s4, s5, s6) := (setAt2 A1 _).keep rfl
  have Q2 : At ((W1.setCell ⟨b, 2, none⟩ (.int .i64 (s2 + x2))).drew) bx 0 (x0, x1, x2, x3, x4, x5, x6) := Q1.keep (Below.heap_setCell W1 ⟨b, 2, none⟩ _ _ (Ne.symm nb))
  have F2 : ∀ i, ((W1.setCell ⟨b, 2, none⟩ (.int .i64 (s2 + x2))).drew).frozen? ⟨b, i, none⟩ = false := fun i => (World.frozen?_setCell W1 _ _ _).trans (F1 i)
  replace f2 : W1.drew.frozen? ⟨b, 2, none⟩ = false := f2
  replace p2 : W1.drew.cell? ⟨b, 2, none⟩ = some (.int .i64 s2) := p2
  clear q2
  go_wp2_with fail
  generalize (W1.setCell ⟨b, 2, none⟩ (.int .i64 (s2 + x2))).drew = W2 at T2 A2 Q2 F2 ⊢
  clear p2 f2 T1 A1 Q1 F1
  have p3 := A2.c3
  have q3 := Q2.c3
  have f3 := F2 3
  simp only [Nat.zero_add] at p3 q3
  go_still_tail 9, (by kernel_rfl)
  change wpList _ _ _ _ _ W2.drew
  have T3 := Lib.hid ((T2.out.set 3 (.int .i64 (s3 + x3))).drew)
  have A3 : At ((W2.setCell ⟨b, 3, none⟩ (.int .i64 (s3 + x3))).drew) b 0 (s0, s1 + x1, s2 + x2, s3 + x3, s4, s5, s6) := (setAt3 A2 _).keep rfl
  have Q3 : At ((W2.setCell ⟨b, 3, none⟩ (.int .i64 (s3 + x3))).drew) bx 0 (x0, x1, x2, x3, x4, x5, x6) := Q2.keep (Below.heap_setCell W2 ⟨b, 3, none⟩ _ _ (Ne.symm nb))
  have F3 : ∀ i, ((W2.setCell ⟨b, 3, none⟩ (.int .i64 (s3 + x3))).drew).frozen? ⟨b, i, none⟩ = false := fun i => (World.frozen?_setCell W2 _ _ _).trans (F2 i)
  replace f3 : W2.drew.frozen? ⟨b, 3, none⟩ = false := f3
  replace p3 : W2.drew.cell? ⟨b, 3, none⟩ = some (.int .i64 s3) := p3
  clear q3
  go_wp2_with fail
  generalize (W2.setCell ⟨b, 3, none⟩ (.int .i64 (s3 + x3))).drew = W3 at T3 A3 Q3 F3 ⊢
  clear p3 f3 T2 A2 Q2 F2
  have p4 := A3.c4
  have q4 := Q3.c4
  have f4 := F3 4
  simp only [Nat.zero_add] at p4 q4
  go_still_tail 9, (by kernel_rfl)
  change wpList _ _ _ _ _ W3.drew
  have T4 := Lib.hid ((T3.out.set 4 (.int .i64 (s4 + x4))).drew)
  have A4 : At ((W3.setCell ⟨b, 4, none⟩ (.int .i64 (s4 + x4))).drew) b 0 (s0, s1 + x1, s2 + x2, s3 + x3, s4 + x4, s5, s6) := (setAt4 A3 _).keep rfl
  have Q4 : At ((W3.setCell ⟨b, 4, none⟩ (.int .i64 (s4 + x4))).drew) bx 0 (x0, x1, x2, x3, x4, x5, x6) := Q3.keep (Below.heap_setCell W3 ⟨b, 4, none⟩ _ _ (Ne.symm nb))
  have F4 : ∀ i, ((W3.setCell ⟨b, 4, none⟩ (.int .i64 (s4 + x4))).drew).frozen? ⟨b, i, none⟩ = false := fun i => (World.frozen?_setCell W3 _ _ _).trans (F3 i)
  replace f4 : W3.drew.frozen? ⟨b, 4, none⟩ = false := f4
  replace p4 : W3.drew.cell? ⟨b, 4, none⟩ = some (.int .i64 s4) := p4
  clear q4
  go_wp2_with fail
  generalize (W3.setCell ⟨b, 4, none⟩ (.int .i64 (s4 + x4))).drew = W4 at T4 A4 Q4 F4 ⊢
  clear p4 f4 T3 A3 Q3 F3
  have p5 := A4.c5
  have q5 := Q4.c5
  have f5 := F4 5
  simp only [Nat.zero_add] at p5 q5
  go_still_tail 9, (by kernel_rfl)
  change wpList _ _ _ _ _ W4.drew
  have T5 := Lib.hid ((T4.out.set 5 (.int .i64 (s5 + x5))).drew)
  have A5 : At ((W4.setCell ⟨b, 5, none⟩ (.int .i64 (s5 + x5))).drew) b 0 (s0, s1 + x1, s2 + x2, s3 + x3, s4 + x4, s5 + x5, s6) := (setAt5 A4 _).keep rfl
  have Q5 : At ((W4.setCell ⟨b, 5, none⟩ (.int .i64 (s5 + x5))).drew) bx 0 (x0, x1, x2, x3, x4, x5, x6) := Q4.keep (Below.heap_setCell W4 ⟨b, 5, none⟩ _ _ (Ne.symm nb))
  have F5 : ∀ i, ((W4.setCell ⟨b, 5, none⟩ (.int .i64 (s5 + x5))).drew).frozen? ⟨b, i, none⟩ = false := fun i => (World.frozen?_setCell W4 _ _ _).trans (F4 i)
  replace f5 : W4.drew.frozen? ⟨b, 5, none⟩ = false := f5
  replace p5 : W4.drew.cell? ⟨b, 5, none⟩ = some (.int .i64 s5) := p5
  clear q5
  go_wp2_with fail
  generalize (W4.setCell ⟨b, 5, none⟩ (.int .i64 (s5 + x5))).drew = W5 at T5 A5 Q5 F5 ⊢
  clear p5 f5 T4 A4 Q4 F4
  have p6 := A5.c6
  have q6 := Q5.c6
  have f6 := F5 6
  simp only [Nat.zero_add] at p6 q6
  go_still_tail 9, (by kernel_rfl)
  change wpList _ _ _ _ _ W5.drew
  have T6 := Lib.hid ((T5.out.set 6 (.int .i64 (s6 + x6))).drew)
  have A6 : At ((W5.setCell ⟨b, 6, none⟩ (.int .i64 (s6 + x6))).drew) b 0 (s0, s1 + x1, s2 + x2, s3 + x3, s4 + x4, s5 + x5, s6 + x6) := (setAt6 A5 _).keep rfl
  have Q6 : At ((W5.setCell ⟨b, 6, none⟩ (.int .i64 (s6 + x6))).drew) bx 0 (x0, x1, x2, x3, x4, x5, x6) := Q5.keep (Below.heap_setCell W5 ⟨b, 6, none⟩ _ _ (Ne.symm nb))
  have F6 : ∀ i, ((W5.setCell ⟨b, 6, none⟩ (.int .i64 (s6 + x6))).drew).frozen? ⟨b, i, none⟩ = false := fun i => (World.frozen?_setCell W5 _ _ _).trans (F5 i)
  replace f6 : W5.drew.frozen? ⟨b, 6, none⟩ = false := f6
  replace p6 : W5.drew.cell? ⟨b, 6, none⟩ = some (.int .i64 s6) := p6
  clear q6
  go_wp2_with fail
  generalize (W5.setCell ⟨b, 6, none⟩ (.int .i64 (s6 + x6))).drew = W6 at T6 A6 Q6 F6 ⊢
  clear p6 f6 T5 A5 Q5 F5
  go_end0
  exact ⟨⟨_, rfl⟩, A6, F6, T6.out⟩
end Go.Proofs.Ytmaejlfjdkkpdaa.base

namespace Go.Proofs.Ytmaejlfjdkkpdaa.ob
open Go.ChangeShapes Go.WideShapes Go.ChangeAt Go.RowKit
open gen
open seven (F7 zz Row At)
open four (F4)
open pl (inR)
open pls (nth Pls OL)
open ord (Sc iok)
/-- Paying one plan. -/
noncomputable def stP (S : pl.S4) (q : List F7) : List F7 × pl.S4 := (base.pyL q S.1, ((base.pyS q S.1).1, S.2.1 + (base.pyS q S.1).2.1, S.2.2.1 + (base.pyS q S.1).2.2.1, S.2.2.2 + (base.pyS q S.1).2.2.2))
noncomputable def paLs (p : List (List F7)) (n : Int) : List (List F7) := wk.fw stP (n, 0, 0, 0) p p.length
noncomputable def paNs (p : List (List F7)) (n : Int) : pl.S4 := wk.fs stP (n, 0, 0, 0) p p.length
theorem py_in {q : List F7} {n : Int} (h : pl.pv q = true) (h0 : 0 ≤ n) (h1 : n ≤ 1000000000000) : base.pyOk q n = true ∧ base.Pst n (base.pyS q n) := by
  have ok : base.pyOk q n = true := by unfold base.pyOk; rw [h, Bool.true_and]; exact pl.inR_iff.2 ⟨h0, h1⟩
  refine ⟨ok, ?_⟩
  rw [(base.py_yes ok).2]
  exact base.pst_b (fun i hi => (pl.pv_iff.1 h).pin hi) h0 q.length (Nat.le_refl _)
theorem pa_fs {n : Int} (h0 : 0 ≤ n) (h1 : n ≤ 1000000000000) {p : List (List F7)} (hp : ord.PVs p) : ∀ k, k ≤ p.length → base.Pst n (wk.fs stP (n, 0, 0, 0) p k)
  | 0, _ => by rw [wk.fs_zero]; exact ⟨h0, Int.le_refl _, Int.le_refl _, Int.le_refl _, by simp⟩
  | k + 1, hk => by
    have g := pa_fs h0 h1 hp k (by omega)
    rw [wk.fs_succ [] _ _ (show k < p.length by omega)]
    generalize wk.fs stP (n, 0, 0, 0) p k = S at g ⊢
    obtain ⟨a, b, c, d, e⟩ := g
    obtain ⟨_, a', b', c', d', e'⟩ := py_in (n := S.1) (hp k (by omega)) a (by omega)
    unfold stP
    constructor <;> dsimp only <;> omega
set_option maxRecDepth 40000 in
set_option maxHeartbeats 8000000 in
theorem payI (m : Int) (w : World) (b : Nat) (s : Sc) (ai : Option Addr) (ni ci : Nat) (cp gp : Nat) (p : List (List F7)) (gs cs : Nat → Nat) (hb : OB w b s ai ni ci (some ⟨gp, 0, none⟩) p.length cp) (rp : Pls w (some ⟨gp, 0, none⟩) cp gp p gs cs) (hgp : gp < w.heap.size) (hne : b ≠ gp) (pv : ord.PVs p) (hn : p.length ≤ 8) (hm0 : 0 ≤ m) (hm1 : m ≤ 1000000000000) :
    Calls Try.prog 66 #[.pointer (some ⟨b, 0, none⟩), .int .i64 m] w fun e w' => ∃ gs' cs', e = .returned (.tuple #[.agg #[.int .i64 0, .int .i64 0, .int .i64 0, .int .i64 0, .int .i64 (paNs p m).2.2.2, .int .i64 (paNs p m).2.2.1, .int .i64 (paNs p m).2.1], .int .i64 (paNs p m).1]) ∧ Pls w' (some ⟨gp, 0, none⟩) cp gp (paLs p m) gs' cs' ∧ (∀ i, i < p.length → w.heap.size ≤ gs' i) ∧ base.Turned gp w w' := by
  have R := Lib.hid rp
  have PV := Lib.hid pv
  have m1 := rp.room
  have bl := hb.lt
  have B3 := Lib.hid (show Below w.heap.size w (((w.alloc (.cells #[.int .i64 0, .int .i64 0, .int .i64 0, .int .i64 0, .int .i64 0, .int .i64 0, .int .i64 0] 37)).alloc (.cells #[.int .i64 0, .int .i64 0, .int .i64 0, .int .i64 0, .int .i64 0, .int .i64 0, .int .i64 0] 37)).alloc (.cells #[.int .i64 0, .int .i64 0, .int .i64 0, .int .i64 0, .int .i64 0, .int .i64 0, .int .i64 0] 37)) from bAl (bAl (bAl (Below.refl _ _) (Nat.le_refl _) _) (Nat.le_refl _) _) (Nat.le_refl _) _)
  have OBh := Lib.hid (hb.keep (B3.out.block b bl))
  have y10 := OBh.out.c10
  have x0 := ((base.Bx.zero w).keep (Below.heap_alloc (w.alloc (.cells #[.int .i64 0, .int .i64 0, .int .i64 0, .int .i64 0, .int .i64 0, .int .i64 0, .int .i64 0] 37)) (.cells #[.int .i64 0, .int .i64 0, .int .i64 0, .int .i64 0, .int .i64 0, .int .i64 0, .int .i64 0] 37) w.heap.size (by simp))).keep (w' := ((w.alloc (.cells #[.int .i64 0, .int .i64 0, .int .i64 0, .int .i64 0, .int .i64 0, .int .i64 0, .int .i64 0] 37)).alloc (.cells #[.int .i64 0, .int .i64 0, .int .i64 0, .int .i64 0, .int .i64 0, .int .i64 0, .int .i64 0] 37)).alloc (.cells #[.int .i64 0, .int .i64 0, .int .i64 0, .int .i64 0, .int .i64 0, .int .i64 0, .int .i64 0] 37)) (Below.heap_alloc _ _ _ (by simp; omega))
  have x1 := (base.Bx.zero (w.alloc (.cells #[.int .i64 0, .int .i64 0, .int .i64 0, .int .i64 0, .int .i64 0, .int .i64 0, .int .i64 0] 37))).keep (w' := ((w.alloc (.cells #[.int .i64 0, .int .i64 0, .int .i64 0, .int .i64 0, .int .i64 0, .int .i64 0, .int .i64 0] 37)).alloc (.cells #[.int .i64 0, .int .i64 0, .int .i64 0, .int .i64 0, .int .i64 0, .int .i64 0, .int .i64 0] 37)).alloc (.cells #[.int .i64 0, .int .i64 0, .int .i64 0, .int .i64 0, .int .i64 0, .int .i64 0, .int .i64 0] 37)) (Below.heap_alloc _ _ _ (by simp))
  have x2 := base.Bx.zero ((w.alloc (.cells #[.int .i64 0, .int .i64 0, .int .i64 0, .int .i64 0, .int .i64 0, .int .i64 0, .int .i64 0] 37)).alloc (.cells #[.int .i64 0, .int .i64 0, .int .i64 0, .int .i64 0, .int .i64 0, .int .i64 0, .int .i64 0] 37))
  have z3 : (((w.alloc (.cells #[.int .i64 0, .int .i64 0, .int .i64 0, .int .i64 0, .int .i64 0, .int .i64 0, .int .i64 0] 37)).alloc (.cells #[.int .i64 0, .int .i64 0, .int .i64 0, .int .i64 0, .int .i64 0, .int .i64 0, .int .i64 0] 37)).alloc (.cells #[.int .i64 0, .int .i64 0, .int .i64 0, .int .i64 0, .int .i64 0, .int .i64 0, .int .i64 0] 37)).heap.size = w.heap.size + 1 + 1 + 1 := by simp only [sz_al]
  simp only [sz_al] at x1 x2
  have X0 := Lib.hid x0
  have X1 := Lib.hid x1
  have X2 := Lib.hid x2
  unfold paNs paLs
  clear rp hb pv x0 x1 x2
  obtain ⟨n, hnz⟩ : ∃ n, n = p.length := ⟨_, rfl⟩
  rw [← hnz] at hn m1 y10 ⊢
  have HNZ := Lib.hid hnz
  clear hnz
  go_enter Try.func66, Try.ntmps66
  go_wp2_with fail
  generalize ((w.alloc (.cells #[.int .i64 0, .int .i64 0, .int .i64 0, .int .i64 0, .int .i64 0, .int .i64 0, .int .i64 0] 37)).alloc (.cells #[.int .i64 0, .int .i64 0, .int .i64 0, .int .i64 0, .int .i64 0, .int .i64 0, .int .i64 0] 37)).alloc (.cells #[.int .i64 0, .int .i64 0, .int .i64 0, .int .i64 0, .int .i64 0, .int .i64 0, .int .i64 0] 37) = W3 at B3 OBh X0 X1 X2 z3 y10 ⊢
  have R3 := Lib.hid (R.out.below B3.out)
  go_loopw [8, 17] (fun a i wr => ∃ (k : Nat) (gs3 cs3 : Nat → Nat) (y : F7), k ≤ n ∧ i = .int .i64 k ∧ a = .int .i64 (wk.fs stP (m, 0, 0, 0) p k).1 ∧ Pls wr (some ⟨gp, 0, none⟩) cp gp (wk.fw stP (m, 0, 0, 0) p k) gs3 cs3 ∧ base.Turned gp w wr ∧ w.heap.size + 1 + 1 + 1 ≤ wr.heap.size ∧ base.Bx wr (w.heap.size) zz ∧ base.Bx wr (w.heap.size + 1) (0, 0, 0, 0, (wk.fs stP (m, 0, 0, 0) p k).2.2.2, (wk.fs stP (m, 0, 0, 0) p k).2.2.1, (wk.fs stP (m, 0, 0, 0) p k).2.1) ∧ base.Bx wr (w.heap.size + 1 + 1) y ∧ ∀ j, j < n → (j < k → w.heap.size + 1 + 1 + 1 ≤ gs3 j) ∧ (k ≤ j → gs3 j = gs j)) (fun _ i _ => n - (intOf i).toNat)
  case atStart => exact ⟨0, gs, cs, zz, by omega, rfl, by rw [wk.fs_zero], by rw [wk.fw_zero]; exact R3.out, pls.Turned.of (base.Turned.refl _ _) B3.out (Nat.le_of_lt hgp), by omega, X0.out, by rw [wk.fs_zero]; exact X1.out, X2.out, fun j _ => ⟨fun h => by omega, fun _ => rfl⟩⟩
  case round =>
    obtain ⟨k, gs3, cs3, y, hk, rfl, rfl, hP, hT, hz, hX0, hX1, hX2, hG⟩ := hrel
    have PP := Lib.hid hP
    have TT := Lib.hid hT
    have GG := Lib.hid hG
    have Y0 := Lib.hid hX0
    have Y1 := Lib.hid hX1
    have Y2 := Lib.hid hX2
    have PS := pa_fs hm0 hm1 PV.out (p := p) k (by rw [← HNZ.out]; exact hk)
    obtain ⟨S, hS⟩ : ∃ S, S = wk.fs stP (m, 0, 0, 0) p k := ⟨_, rfl⟩
    rw [← hS] at PS Y1 ⊢
    have HS := Lib.hid hS
    obtain ⟨SL, SF, SI, SP⟩ := S
    dsimp only at PS Y1 ⊢
    obtain ⟨e0, e1, e2, e3, e4⟩ := PS
    dsimp only at e0 e1 e2 e3 e4
    have y10 : wr.cell? ⟨b, 10, none⟩ = some (.slice (some ⟨gp, 0, none⟩) n cp) := pls.cell_keep (y10) ((hT.2 b hne bl).trans (B3.out.block b bl).symm)
    clear hS hX0 hX1 hX2
    by_cases hlt : k < n
    · have HLT := Lib.hid (show k < p.length from by rw [← HNZ.out]; exact hlt)
      have FL := Lib.hid (show k < (wk.fw stP (m, 0, 0, 0) p k).length from by rw [wk.fw_len]; exact HLT.out)
      have NK : nth (wk.fw stP (m, 0, 0, 0) p k) k = nth p k := wk.fw_get [] _ _ HLT.out
      have q1 := hP.cells k FL.out
      have q2 := hP.rows k FL.out
      rw [NK] at q1 q2
      obtain ⟨OK, PT⟩ := py_in (n := SL) (show pl.pv (nth p k) = true from PV.out k HLT.out) e0 (by omega)
      have FS : wk.fs stP (m, 0, 0, 0) p (k + 1) = ((base.pyS (nth p k) SL).1, SF + (base.pyS (nth p k) SL).2.1, SI + (base.pyS (nth p k) SL).2.2.1, SP + (base.pyS (nth p k) SL).2.2.2) := by rw [wk.fs_succ [] _ _ HLT.out, ← HS.out]; rfl
      have FW : wk.fw stP (m, 0, 0, 0) p (k + 1) = (wk.fw stP (m, 0, 0, 0) p k).set k (base.pyL (nth p k) SL) := by rw [wk.fw_succ [] _ _ HLT.out, ← HS.out]; rfl
      have C := base.ppI SL wr (cs3 k) (gs3 k) (nth p k) q2 (Nat.le_trans (show (nth p k).length ≤ 24 from (pl.pv_iff.1 (PV.out k HLT.out)).1) (by omega))
      obtain ⟨P, hP'⟩ : ∃ P, P = base.pyL (nth p k) SL := ⟨_, rfl⟩
      obtain ⟨t, ht⟩ : ∃ t, t = base.pyS (nth p k) SL := ⟨_, rfl⟩
      rw [← hP'] at C FW
      rw [← ht] at C FS PT
      rw [OK] at C
      obtain ⟨t1, t2, t3, t4⟩ := t
      unfold base.Out3 at C
      dsimp only at C FS
      obtain ⟨f0, f1, f2, f3, f4⟩ := PT
      dsimp only at f0 f1 f2 f3 f4
      have FSh := Lib.hid FS
      have FWh := Lib.hid FW
      have CH := Lib.hid C
      clear FS FW C hP' ht OK NK q2 hP hT hG
      generalize (nth p k).length = ln at q1 CH
      generalize gs3 k = gk at q1 CH
      generalize cs3 k = ck at q1 CH
      have z1' : (k : Int) < (n : Int) := by omega
      have v1 : decide (k < n) = true := by simp; omega
      go_wp2_with fail
      refine CH.out.mono ?_
      rintro e w1 ⟨a1, c1, g1, rfl, r1, -, b1, o1⟩
      obtain ⟨rfl, l1, k1⟩ := o1 (by trivial)
      have P1 := Lib.hid (PP.out.below b1)
      have R1 := Lib.hid r1
      have T1 := Lib.hid (pls.Turned.of TT.out b1 (Nat.le_of_lt (Nat.lt_of_lt_of_le hgp TT.out.1.size)))
      have xx1 := P1.out.cells k FL.out
      have ff1 := P1.out.free (by have := FL.out; omega) k
      have L1 := Lib.hid (show wr.heap.size ≤ g1 ∧ g1 < w1.heap.size from ⟨l1, k1⟩)
      have U0 := Lib.hid (Y0.out.keep (b1.block (w.heap.size) (by omega)))
      have U1 := Lib.hid (Y1.out.keep (b1.block (w.heap.size + 1) (by omega)))
      have U2 := Lib.hid (Y2.out.keep (b1.block (w.heap.size + 1 + 1) (by omega)))
      obtain ⟨h0, h1, h2, h3, h4, h5, h6⟩ := U2.out.at_
      have j0 := U2.out.free 0
      have j1 := U2.out.free 1
      have j2 := U2.out.free 2
      have j3 := U2.out.free 3
      have j4 := U2.out.free 4
      have j5 := U2.out.free 5
      have j6 := U2.out.free 6
      simp only [Nat.zero_add] at h0 h1 h2 h3 h4 h5 h6
      have zz1 := b1.size
      clear r1 b1 o1 q1 CH l1 k1
      go_wp2_with fail
      have hw := TT.out.1.size
      have nl := L1.out
      have VP := Lib.hid (P1.out.set FL.out R1.out L1.out.2 (by omega) (fun i hi hne' => by have := PP.out.lt i hi; omega))
      have VT := Lib.hid (pls.Turned.trans T1.out ((base.Turned.refl gp w1).set k (.slice (some ⟨g1, 0, none⟩) P.length c1)))
      have V0 := Lib.hid (U0.out.keep (w' := (w1.setCell ⟨gp, k, none⟩ (.slice (some ⟨g1, 0, none⟩) P.length c1))) (Below.heap_setCell w1 ⟨gp, k, none⟩ _ _ (show w.heap.size ≠ gp by omega)))
      have V1 := Lib.hid (U1.out.keep (w' := (w1.setCell ⟨gp, k, none⟩ (.slice (some ⟨g1, 0, none⟩) P.length c1))) (Below.heap_setCell w1 ⟨gp, k, none⟩ _ _ (show w.heap.size + 1 ≠ gp by omega)))
      have V2 := Lib.hid (U2.out.keep (w' := (w1.setCell ⟨gp, k, none⟩ (.slice (some ⟨g1, 0, none⟩) P.length c1))) (Below.heap_setCell w1 ⟨gp, k, none⟩ _ _ (show w.heap.size + 1 + 1 ≠ gp by omega)))
      have zv : ((w1.setCell ⟨gp, k, none⟩ (.slice (some ⟨g1, 0, none⟩) P.length c1))).heap.size = w1.heap.size := by simp [World.setCell]
      change Calls _ _ _ (base.st7 (w1.setCell ⟨gp, k, none⟩ (.slice (some ⟨g1, 0, none⟩) P.length c1)) (w.heap.size + 1 + 1) (0, 0, 0, 0, t4, t3, t2)) _
      clear U0 U1 U2 h0 h1 h2 h3 h4 h5 h6 j0 j1 j2 j3 j4 j5 j6 xx1 ff1
      generalize (w1.setCell ⟨gp, k, none⟩ (.slice (some ⟨g1, 0, none⟩) P.length c1)) = V at VP VT V0 V1 V2 zv ⊢
      have ot : ∀ c, c ≠ w.heap.size + 1 + 1 → (base.st7 V (w.heap.size + 1 + 1) (0, 0, 0, 0, t4, t3, t2)).heap[c]? = V.heap[c]? := fun c hc => base.st7_other' V _ _ c hc
      have sz := base.st7_size' V (w.heap.size + 1 + 1) (0, 0, 0, 0, t4, t3, t2)
      have fz : ∀ i, (base.st7 V (w.heap.size + 1 + 1) (0, 0, 0, 0, t4, t3, t2)).frozen? ⟨w.heap.size + 1 + 1, i, none⟩ = false := fun i => by unfold base.st7; simp only [World.frozen?_setCell]; exact V2.out.free i
      have LN := Lib.hid (show ((wk.fw stP (m, 0, 0, 0) p k).set k P).length = n from by rw [List.length_set, wk.fw_len]; exact HNZ.out.symm)
      have NG := Lib.hid (show ∀ i, i < n → pls.up gs3 k g1 i < w.heap.size ∨ w.heap.size + 1 + 1 + 1 ≤ pls.up gs3 k g1 i from fun i hi => by
        unfold pls.up
        by_cases e : i = k
        · rw [if_pos e]; omega
        · rw [if_neg e]
          by_cases e2 : i < k
          · exact Or.inr ((GG.out i hi).1 e2)
          · left
            rw [(GG.out i hi).2 (by omega)]
            exact R.out.lt i (by rw [← HNZ.out]; exact hi))
      have S2 := Lib.hid (show base.Bx (base.st7 V (w.heap.size + 1 + 1) (0, 0, 0, 0, t4, t3, t2)) (w.heap.size + 1 + 1) (0, 0, 0, 0, t4, t3, t2) from ⟨base.st7_at V2.out.at_ _, fz⟩)
      have S1 := Lib.hid (V1.out.keep (ot (w.heap.size + 1) (by omega)))
      have S0 := Lib.hid (V0.out.keep (ot w.heap.size (by omega)))
      have SPl := Lib.hid (VP.out.keep (fun h => ot gp (by omega)) (fun i hi => ot _ (by have := NG.out i (by rw [LN.out] at hi; exact hi); omega)) (Nat.le_of_eq sz.symm))
      have STu := Lib.hid (show base.Turned gp w (base.st7 V (w.heap.size + 1 + 1) (0, 0, 0, 0, t4, t3, t2)) from ⟨base.st7_below VT.out.1 (by omega) _, fun c hc hl => (ot c (by omega)).trans (VT.out.2 c hc hl)⟩)
      clear V0 V1 V2 VP VT ot fz
      generalize base.st7 V (w.heap.size + 1 + 1) (0, 0, 0, 0, t4, t3, t2) = W9 at S0 S1 S2 SPl STu sz ⊢
      refine (base.addE W9 (w.heap.size + 1) (0, 0, 0, 0, SP, SI, SF) (0, 0, 0, 0, t4, t3, t2) S1.out.at_ S1.out.free ?_ ?_).mono ?_
      · constructor <;> first | trivial | (dsimp only; omega)
      · constructor <;> first | trivial | (dsimp only; omega)
      rintro e w5 ⟨⟨v, rfl⟩, A5, F5, T5⟩
      have M1 := Lib.hid (show base.Bx w5 (w.heap.size + 1) (0, 0, 0, 0, SP + t4, SI + t3, SF + t2) from ⟨A5, F5⟩)
      have M0 := Lib.hid (S0.out.keep (T5.2 w.heap.size (by omega) (by omega)))
      have M2 := Lib.hid (S2.out.keep (T5.2 (w.heap.size + 1 + 1) (by omega) (by omega)))
      have z5 := T5.1.size
      have MP := Lib.hid (SPl.out.turned T5 (fun _ => by omega) (fun i hi => by have := NG.out i (by rw [LN.out] at hi; exact hi); omega))
      have MT := Lib.hid (show base.Turned gp w w5 from ⟨STu.out.1.trans (T5.1.mono (by omega)), fun c hc hl => (T5.2 c (by omega) (by omega)).trans (STu.out.2 c hc hl)⟩)
      have T5h := Lib.hid T5
      clear A5 F5 T5
      go_wp2
      go_roundw
      case rel =>
        refine ⟨k + 1, pls.up gs3 k g1, pls.up cs3 k c1, (0, 0, 0, 0, t4, t3, t2), by omega, by go_num, by rw [FSh.out], ?_, MT.out, by omega, M0.out, by rw [FSh.out]; exact M1.out, M2.out, fun j hj => ⟨fun h => ?_, fun h => ?_⟩⟩
        · show Pls _ _ _ _ (wk.fw stP (m, 0, 0, 0) p (k + 1)) _ _
          rw [show wk.fw stP (m, 0, 0, 0) p (k + 1) = (wk.fw stP (m, 0, 0, 0) p k).set k P from FWh.out]
          exact MP.out
        · unfold pls.up
          by_cases e : j = k
          · rw [if_pos e]; have := L1.out; omega
          · rw [if_neg e]; exact (GG.out j hj).1 (by omega)
        · unfold pls.up
          rw [if_neg (by omega)]; exact (GG.out j hj).2 (by omega)
      case measure => simp [intOf]; omega
    · have v1 : decide (k < n) = false := by simp; omega
      obtain rfl : k = n := by omega
      have OA := Y1.out.at_
      obtain ⟨h0, h1, h2, h3, h4, h5, h6⟩ := OA
      simp only [Nat.zero_add] at h0 h1 h2 h3 h4 h5 h6
      obtain ⟨r0, r1, r2, r3, r4, r5, r6⟩ := Y0.out.at_
      simp only [Nat.zero_add] at r0 r1 r2 r3 r4 r5 r6
      have j0 := Y0.out.free 0
      have j1 := Y0.out.free 1
      have j2 := Y0.out.free 2
      have j3 := Y0.out.free 3
      have j4 := Y0.out.free 4
      have j5 := Y0.out.free 5
      have j6 := Y0.out.free 6
      clear hP hT hG
      go_wp2_with fail
      change bodyPost _ _ _ _ _ (base.st7 wr w.heap.size (0, 0, 0, 0, SP, SI, SF))
      have S := base.st7_at Y0.out.at_ (0, 0, 0, 0, SP, SI, SF)
      have sz := base.st7_size' wr w.heap.size (0, 0, 0, 0, SP, SI, SF)
      have ot : ∀ c, c ≠ w.heap.size → (base.st7 wr w.heap.size (0, 0, 0, 0, SP, SI, SF)).heap[c]? = wr.heap[c]? := fun c hc => base.st7_other' wr _ _ c hc
      have SPl := Lib.hid (PP.out.keep (fun h => ot gp (by omega)) (fun i hi => ot _ (by have := (GG.out i (by rw [wk.fw_len, ← HNZ.out] at hi; exact hi)).1 (by rw [wk.fw_len, ← HNZ.out] at hi; exact hi); omega)) (Nat.le_of_eq sz.symm))
      have STu := Lib.hid (show base.Turned gp w (base.st7 wr w.heap.size (0, 0, 0, 0, SP, SI, SF)) from ⟨base.st7_below TT.out.1 (by omega) _, fun c hc hl => (ot c (by omega)).trans (TT.out.2 c hc hl)⟩)
      clear ot sz
      generalize (base.st7 wr w.heap.size (0, 0, 0, 0, SP, SI, SF)) = W9 at S SPl STu ⊢
      obtain ⟨c0, c1, c2, c3, c4, c5, c6⟩ := S
      simp only [Nat.zero_add] at c0 c1 c2 c3 c4 c5 c6
      exact bodyPost_ret (v := .tuple #[.agg #[.int .i64 0, .int .i64 0, .int .i64 0, .int .i64 0, .int .i64 SP, .int .i64 SI, .int .i64 SF], .int .i64 SL]) (by simp [results, Try.f66, go_sem, c0, c1, c2, c3, c4, c5, c6]) rfl ⟨gs3, cs3, by rw [← HS.out], SPl.out, fun i hi => by have := (GG.out i hi).1 hi; omega, STu.out⟩
end Go.Proofs.Ytmaejlfjdkkpdaa.ob
