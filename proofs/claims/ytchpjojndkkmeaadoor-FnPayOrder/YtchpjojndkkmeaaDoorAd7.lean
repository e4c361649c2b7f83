/-
  Plain helpers of this seat's proofs: the contract of the method that adds a Part. Conditions: none.
-/
import Derived.Test.YtchpjojndkkmeaaDoorSm
import Derived.StillTailTactics
namespace Go.Proofs.YtchpjojndkkmeaaDoor.base
open Go.ChangeShapes Go.WideShapes Go.ChangeAt Go.RowKit
open seven (F7 zz Row At)
open pl (inR prOk pok)
open gen
/-- Numbers that may be added. -/
structure Bd (x : F7) : Prop where
  d0 : True
  d1 : True
  p0 : 0 ≤ x.2.1
  p1 : x.2.1 ≤ 100000000000000
  i0 : 0 ≤ x.2.2.1
  i1 : x.2.2.1 ≤ 100000000000000
  f0 : 0 ≤ x.2.2.2.1
  f1 : x.2.2.2.1 ≤ 100000000000000
  q0 : 0 ≤ x.2.2.2.2.1
  q1 : x.2.2.2.2.1 ≤ x.2.1
  j0 : 0 ≤ x.2.2.2.2.2.1
  j1 : x.2.2.2.2.2.1 ≤ x.2.2.1
  g0 : 0 ≤ x.2.2.2.2.2.2
  g1 : x.2.2.2.2.2.2 ≤ x.2.2.2.1
theorem Bd.pin {x : F7} (h : pl.Pin x) : Bd x := by
  obtain ⟨c0, c1, c2, c3, c4, c5, c6, c7, c8, c9, d0, d1, d2, d3⟩ := h
  constructor <;> first | trivial | omega
theorem Bd.sin {x : F7} (h : pl.Sin 24 x) : Bd x := by
  obtain ⟨c1, c2, c3, c4, c5, c6, c7, c8, c9, d0, d1, d2, d3⟩ := h
  constructor <;> first | trivial | omega
/-- Block b alone has turned, of those that lay. -/
def Turned (b : Nat) (w w' : World) : Prop := Below b w w' ∧ ∀ k, k ≠ b → k < w.heap.size → w'.heap[k]? = w.heap[k]?
theorem Turned.refl (b : Nat) (w : World) : Turned b w w := ⟨Below.refl _ _, fun _ _ _ => rfl⟩
theorem Turned.set {b : Nat} {w w' : World} (h : Turned b w w') (o : Nat) (v : Value) : Turned b w (w'.setCell ⟨b, o, none⟩ v) :=
  ⟨h.1.setCell (p := ⟨b, o, none⟩) (Nat.le_refl _) _, fun k hk hl => (Below.heap_setCell _ _ _ _ hk).trans (h.2 k hk hl)⟩
theorem Turned.alloc {b : Nat} {w w' : World} (h : Turned b w w') (hb : b ≤ w.heap.size) (o : Obj) : Turned b w (w'.alloc o) :=
  ⟨h.1.alloc (Nat.le_trans hb h.1.size) o, fun k hk hl => (Below.heap_alloc _ _ _ (Nat.lt_of_lt_of_le hl h.1.size)).trans (h.2 k hk hl)⟩
theorem Turned.drew {b : Nat} {w w' : World} (h : Turned b w w') : Turned b w w'.drew := ⟨h.1.drew, h.2⟩
theorem Turned.below {b B : Nat} {w w' : World} (h : Turned b w w') (hB : B ≤ b) : Below B w w' := h.1.mono hB
theorem setAt0 {w : World} {b : Nat} {x : F7} (h : At w b 0 x) (v : Int) : At (w.setCell ⟨b, 0, none⟩ (.int .i64 v)) b 0 (v, x.2.1, x.2.2.1, x.2.2.2.1, x.2.2.2.2.1, x.2.2.2.2.2.1, x.2.2.2.2.2.2) := by
  constructor
  · have q := World.cell?_setCell_same' w ⟨b, 0, none⟩ (.int .i64 v) (by have := h.c0; rw [this]; rfl); simpa using q
  · have q := (World.cell?_setCell_other w ⟨b, 0, none⟩ ⟨b, 0 + 1, none⟩ (.int .i64 v) (fun q => by injection q with q1 q2; omega)).trans h.c1; exact q
  · have q := (World.cell?_setCell_other w ⟨b, 0, none⟩ ⟨b, 0 + 2, none⟩ (.int .i64 v) (fun q => by injection q with q1 q2; omega)).trans h.c2; exact q
  · have q := (World.cell?_setCell_other w ⟨b, 0, none⟩ ⟨b, 0 + 3, none⟩ (.int .i64 v) (fun q => by injection q with q1 q2; omega)).trans h.c3; exact q
  · have q := (World.cell?_setCell_other w ⟨b, 0, none⟩ ⟨b, 0 + 4, none⟩ (.int .i64 v) (fun q => by injection q with q1 q2; omega)).trans h.c4; exact q
  · have q := (World.cell?_setCell_other w ⟨b, 0, none⟩ ⟨b, 0 + 5, none⟩ (.int .i64 v) (fun q => by injection q with q1 q2; omega)).trans h.c5; exact q
  · have q := (World.cell?_setCell_other w ⟨b, 0, none⟩ ⟨b, 0 + 6, none⟩ (.int .i64 v) (fun q => by injection q with q1 q2; omega)).trans h.c6; exact q
theorem setAt1 {w : World} {b : Nat} {x : F7} (h : At w b 0 x) (v : Int) : At (w.setCell ⟨b, 1, none⟩ (.int .i64 v)) b 0 (x.1, v, x.2.2.1, x.2.2.2.1, x.2.2.2.2.1, x.2.2.2.2.2.1, x.2.2.2.2.2.2) := by
  constructor
  · have q := (World.cell?_setCell_other w ⟨b, 1, none⟩ ⟨b, 0, none⟩ (.int .i64 v) (fun q => by injection q with q1 q2; omega)).trans h.c0; exact q
  · have q := World.cell?_setCell_same' w ⟨b, 1, none⟩ (.int .i64 v) (by have := h.c1; simp only [Nat.zero_add] at this; rw [this]; rfl); simpa using q
  · have q := (World.cell?_setCell_other w ⟨b, 1, none⟩ ⟨b, 0 + 2, none⟩ (.int .i64 v) (fun q => by injection q with q1 q2; omega)).trans h.c2; exact q
  · have q := (World.cell?_setCell_other w ⟨b, 1, none⟩ ⟨b, 0 + 3, none⟩ (.int .i64 v) (fun q => by injection q with q1 q2; omega)).trans h.c3; exact q
  · have q := (World.cell?_setCell_other w ⟨b, 1, none⟩ ⟨b, 0 + 4, none⟩ (.int .i64 v) (fun q => by injection q with q1 q2; omega)).trans h.c4; exact q
  · have q := (World.cell?_setCell_other w ⟨b, 1, none⟩ ⟨b, 0 + 5, none⟩ (.int .i64 v) (fun q => by injection q with q1 q2; omega)).trans h.c5; exact q
  · have q := (World.cell?_setCell_other w ⟨b, 1, none⟩ ⟨b, 0 + 6, none⟩ (.int .i64 v) (fun q => by injection q with q1 q2; omega)).trans h.c6; exact q
theorem setAt2 {w : World} {b : Nat} {x : F7} (h : At w b 0 x) (v : Int) : At (w.setCell ⟨b, 2, none⟩ (.int .i64 v)) b 0 (x.1, x.2.1, v, x.2.2.2.1, x.2.2.2.2.1, x.2.2.2.2.2.1, x.2.2.2.2.2.2) := by
  constructor
  · have q := (World.cell?_setCell_other w ⟨b, 2, none⟩ ⟨b, 0, none⟩ (.int .i64 v) (fun q => by injection q with q1 q2; omega)).trans h.c0; exact q
  · have q := (World.cell?_setCell_other w ⟨b, 2, none⟩ ⟨b, 0 + 1, none⟩ (.int .i64 v) (fun q => by injection q with q1 q2; omega)).trans h.c1; exact q
  · have q := World.cell?_setCell_same' w ⟨b, 2, none⟩ (.int .i64 v) (by have := h.c2; simp only [Nat.zero_add] at this; rw [this]; rfl); simpa using q
  · have q := (World.cell?_setCell_other w ⟨b, 2, none⟩ ⟨b, 0 + 3, none⟩ (.int .i64 v) (fun q => by injection q with q1 q2; omega)).trans h.c3; exact q
  · have q := (World.cell?_setCell_other w ⟨b, 2, none⟩ ⟨b, 0 + 4, none⟩ (.int .i64 v) (fun q => by injection q with q1 q2; omega)).trans h.c4; exact q
  · have q := (World.cell?_setCell_other w ⟨b, 2, none⟩ ⟨b, 0 + 5, none⟩ (.int .i64 v) (fun q => by injection q with q1 q2; omega)).trans h.c5; exact q
  · have q := (World.cell?_setCell_other w ⟨b, 2, none⟩ ⟨b, 0 + 6, none⟩ (.int .i64 v) (fun q => by injection q with q1 q2; omega)).trans h.c6; exact q
theorem setAt3 {w : World} {b : Nat} {x : F7} (h : At w b 0 x) (v : Int) : At (w.setCell ⟨b, 3, none⟩ (.int .i64 v)) b 0 (x.1, x.2.1, x.2.2.1, v, x.2.2.2.2.1, x.2.2.2.2.2.1, x.2.2.2.2.2.2) := by
  constructor
  · have q := (World.cell?_setCell_other w ⟨b, 3, none⟩ ⟨b, 0, none⟩ (.int .i64 v) (fun q => by injection q with q1 q2; omega)).trans h.c0; exact q
  · have q := (World.cell?_setCell_other w ⟨b, 3, none⟩ ⟨b, 0 + 1, none⟩ (.int .i64 v) (fun q => by injection q with q1 q2; omega)).trans h.c1; exact q
  · have q := (World.cell?_setCell_other w ⟨b, 3, none⟩ ⟨b, 0 + 2, none⟩ (.int .i64 v) (fun q => by injection q with q1 q2; omega)).trans h.c2; exact q
  · have q := World.cell?_setCell_same' w ⟨b, 3, none⟩ (.int .i64 v) (by have := h.c3; simp only [Nat.zero_add] at this; rw [this]; rfl); simpa using q
  · have q := (World.cell?_setCell_other w ⟨b, 3, none⟩ ⟨b, 0 + 4, none⟩ (.int .i64 v) (fun q => by injection q with q1 q2; omega)).trans h.c4; exact q
  · have q := (World.cell?_setCell_other w ⟨b, 3, none⟩ ⟨b, 0 + 5, none⟩ (.int .i64 v) (fun q => by injection q with q1 q2; omega)).trans h.c5; exact q
  · have q := (World.cell?_setCell_other w ⟨b, 3, none⟩ ⟨b, 0 + 6, none⟩ (.int .i64 v) (fun q => by injection q with q1 q2; omega)).trans h.c6; exact q
theorem setAt4 {w : World} {b : Nat} {x : F7} (h : At w b 0 x) (v : Int) : At (w.setCell ⟨b, 4, none⟩ (.int .i64 v)) b 0 (x.1, x.2.1, x.2.2.1, x.2.2.2.1, v, x.2.2.2.2.2.1, x.2.2.2.2.2.2) := by
  constructor
  · have q := (World.cell?_setCell_other w ⟨b, 4, none⟩ ⟨b, 0, none⟩ (.int .i64 v) (fun q => by injection q with q1 q2; omega)).trans h.c0; exact q
  · have q := (World.cell?_setCell_other w ⟨b, 4, none⟩ ⟨b, 0 + 1, none⟩ (.int .i64 v) (fun q => by injection q with q1 q2; omega)).trans h.c1; exact q
  · have q := (World.cell?_setCell_other w ⟨b, 4, none⟩ ⟨b, 0 + 2, none⟩ (.int .i64 v) (fun q => by injection q with q1 q2; omega)).trans h.c2; exact q
  · have q := (World.cell?_setCell_other w ⟨b, 4, none⟩ ⟨b, 0 + 3, none⟩ (.int .i64 v) (fun q => by injection q with q1 q2; omega)).trans h.c3; exact q
  · have q := World.cell?_setCell_same' w ⟨b, 4, none⟩ (.int .i64 v) (by have := h.c4; simp only [Nat.zero_add] at this; rw [this]; rfl); simpa using q
  · have q := (World.cell?_setCell_other w ⟨b, 4, none⟩ ⟨b, 0 + 5, none⟩ (.int .i64 v) (fun q => by injection q with q1 q2; omega)).trans h.c5; exact q
  · have q := (World.cell?_setCell_other w ⟨b, 4, none⟩ ⟨b, 0 + 6, none⟩ (.int .i64 v) (fun q => by injection q with q1 q2; omega)).trans h.c6; exact q
theorem setAt5 {w : World} {b : Nat} {x : F7} (h : At w b 0 x) (v : Int) : At (w.setCell ⟨b, 5, none⟩ (.int .i64 v)) b 0 (x.1, x.2.1, x.2.2.1, x.2.2.2.1, x.2.2.2.2.1, v, x.2.2.2.2.2.2) := by
  constructor
  · have q := (World.cell?_setCell_other w ⟨b, 5, none⟩ ⟨b, 0, none⟩ (.int .i64 v) (fun q => by injection q with q1 q2; omega)).trans h.c0; exact q
  · have q := (World.cell?_setCell_other w ⟨b, 5, none⟩ ⟨b, 0 + 1, none⟩ (.int .i64 v) (fun q => by injection q with q1 q2; omega)).trans h.c1; exact q
  · have q := (World.cell?_setCell_other w ⟨b, 5, none⟩ ⟨b, 0 + 2, none⟩ (.int .i64 v) (fun q => by injection q with q1 q2; omega)).trans h.c2; exact q
  · have q := (World.cell?_setCell_other w ⟨b, 5, none⟩ ⟨b, 0 + 3, none⟩ (.int .i64 v) (fun q => by injection q with q1 q2; omega)).trans h.c3; exact q
  · have q := (World.cell?_setCell_other w ⟨b, 5, none⟩ ⟨b, 0 + 4, none⟩ (.int .i64 v) (fun q => by injection q with q1 q2; omega)).trans h.c4; exact q
  · have q := World.cell?_setCell_same' w ⟨b, 5, none⟩ (.int .i64 v) (by have := h.c5; simp only [Nat.zero_add] at this; rw [this]; rfl); simpa using q
  · have q := (World.cell?_setCell_other w ⟨b, 5, none⟩ ⟨b, 0 + 6, none⟩ (.int .i64 v) (fun q => by injection q with q1 q2; omega)).trans h.c6; exact q
theorem setAt6 {w : World} {b : Nat} {x : F7} (h : At w b 0 x) (v : Int) : At (w.setCell ⟨b, 6, none⟩ (.int .i64 v)) b 0 (x.1, x.2.1, x.2.2.1, x.2.2.2.1, x.2.2.2.2.1, x.2.2.2.2.2.1, v) := by
  constructor
  · have q := (World.cell?_setCell_other w ⟨b, 6, none⟩ ⟨b, 0, none⟩ (.int .i64 v) (fun q => by injection q with q1 q2; omega)).trans h.c0; exact q
  · have q := (World.cell?_setCell_other w ⟨b, 6, none⟩ ⟨b, 0 + 1, none⟩ (.int .i64 v) (fun q => by injection q with q1 q2; omega)).trans h.c1; exact q
  · have q := (World.cell?_setCell_other w ⟨b, 6, none⟩ ⟨b, 0 + 2, none⟩ (.int .i64 v) (fun q => by injection q with q1 q2; omega)).trans h.c2; exact q
  · have q := (World.cell?_setCell_other w ⟨b, 6, none⟩ ⟨b, 0 + 3, none⟩ (.int .i64 v) (fun q => by injection q with q1 q2; omega)).trans h.c3; exact q
  · have q := (World.cell?_setCell_other w ⟨b, 6, none⟩ ⟨b, 0 + 4, none⟩ (.int .i64 v) (fun q => by injection q with q1 q2; omega)).trans h.c4; exact q
  · have q := (World.cell?_setCell_other w ⟨b, 6, none⟩ ⟨b, 0 + 5, none⟩ (.int .i64 v) (fun q => by injection q with q1 q2; omega)).trans h.c5; exact q
  · have q := World.cell?_setCell_same' w ⟨b, 6, none⟩ (.int .i64 v) (by have := h.c6; simp only [Nat.zero_add] at this; rw [this]; rfl); simpa using q
set_option maxRecDepth 20000 in
set_option maxHeartbeats 2000000 in
theorem addI (w : World) (b : Nat) (s x : F7) (hA : At w b 0 s) (hf : ∀ i, w.frozen? ⟨b, i, none⟩ = false) (hs : pl.Sin 1000 s) (hx : Bd x) :
    Calls Tryd.prog 36 #[.pointer (some ⟨b, 0, none⟩), .agg #[.int .i64 x.1, .int .i64 x.2.1, .int .i64 x.2.2.1, .int .i64 x.2.2.2.1, .int .i64 x.2.2.2.2.1, .int .i64 x.2.2.2.2.2.1, .int .i64 x.2.2.2.2.2.2]] w fun e w' => (∃ v, e = .returned v) ∧ At w' b 0 (pl.add s x) ∧ (∀ i, w'.frozen? ⟨b, i, none⟩ = false) ∧ Turned b w w' := by
  have lb := hA.lt
  have T0 := Lib.hid ((Turned.refl b w).alloc (Nat.le_of_lt lb) (.cells #[.int .i64 x.1, .int .i64 x.2.1, .int .i64 x.2.2.1, .int .i64 x.2.2.2.1, .int .i64 x.2.2.2.2.1, .int .i64 x.2.2.2.2.2.1, .int .i64 x.2.2.2.2.2.2] 35))
  have A0 := hA.keep (Below.heap_alloc w (.cells #[.int .i64 x.1, .int .i64 x.2.1, .int .i64 x.2.2.1, .int .i64 x.2.2.2.1, .int .i64 x.2.2.2.2.1, .int .i64 x.2.2.2.2.2.1, .int .i64 x.2.2.2.2.2.2] 35) b lb)
  have F0 : ∀ i, (w.alloc (.cells #[.int .i64 x.1, .int .i64 x.2.1, .int .i64 x.2.2.1, .int .i64 x.2.2.2.1, .int .i64 x.2.2.2.2.1, .int .i64 x.2.2.2.2.2.1, .int .i64 x.2.2.2.2.2.2] 35)).frozen? ⟨b, i, none⟩ = false := fun i => by rw [World.frozen?_of_block (w := w) (a := ⟨b, i, none⟩) (Below.heap_alloc w (.cells #[.int .i64 x.1, .int .i64 x.2.1, .int .i64 x.2.2.1, .int .i64 x.2.2.2.1, .int .i64 x.2.2.2.2.1, .int .i64 x.2.2.2.2.2.1, .int .i64 x.2.2.2.2.2.2] 35) b lb)]; exact hf i
  have Q0 : At (w.alloc (.cells #[.int .i64 x.1, .int .i64 x.2.1, .int .i64 x.2.2.1, .int .i64 x.2.2.2.1, .int .i64 x.2.2.2.2.1, .int .i64 x.2.2.2.2.2.1, .int .i64 x.2.2.2.2.2.2] 35)) w.heap.size 0 x := seven.At.boxed w x _
  clear hA hf
  go_enter Tryd.func36, Tryd.ntmps36
  go_wp2_with fail
  generalize w.alloc (.cells #[.int .i64 x.1, .int .i64 x.2.1, .int .i64 x.2.2.1, .int .i64 x.2.2.2.1, .int .i64 x.2.2.2.2.1, .int .i64 x.2.2.2.2.2.1, .int .i64 x.2.2.2.2.2.2] 35) = W0 at T0 A0 F0 Q0 ⊢
  obtain ⟨bx, hbx⟩ : ∃ bx, bx = w.heap.size := ⟨_, rfl⟩
  rw [← hbx] at Q0 ⊢
  have nb : b ≠ bx := by omega
  clear hbx lb
  obtain ⟨s0, s1, s2, s3, s4, s5, s6⟩ := s
  obtain ⟨x0, x1, x2, x3, x4, x5, x6⟩ := x
  obtain ⟨_, v1, v2, v3, v4, v5, v6, v7, v8, v9, v10, v11, v12⟩ := hs
  obtain ⟨_, _, u1, u2, u3, u4, u5, u6, u7, u8, u9, u10, u11, u12⟩ := hx
  replace v2 : s1 ≤ 1000000000000000 := by dsimp only at v2; omega
  replace v4 : s2 ≤ 1000000000000000 := by dsimp only at v4; omega
  replace v6 : s3 ≤ 1000000000000000 := by dsimp only at v6; omega
  dsimp only at v1 v2 v3 v4 v5 v6 v7 v8 v9 v10 v11 v12 u1 u2 u3 u4 u5 u6 u7 u8 u9 u10 u11 u12
  have p1 := A0.c1
  have q1 := Q0.c1
  have f1 := F0 1
  simp only [Nat.zero_add] at p1 q1
  go_still_tail 9, (by kernel_rfl)
  change wpList _ _ _ _ _ W0.drew
  have T1 := Lib.hid ((T0.out.set 1 (.int .i64 (s1 + x1))).drew)
  have A1 : At ((W0.setCell ⟨b, 1, none⟩ (.int .i64 (s1 + x1))).drew) b 0 (s0, s1 + x1, s2, s3, s4, s5, s6) := (setAt1 A0 _).keep rfl
  have Q1 : At ((W0.setCell ⟨b, 1, none⟩ (.int .i64 (s1 + x1))).drew) bx 0 (x0, x1, x2, x3, x4, x5, x6) := Q0.keep (Below.heap_setCell W0 ⟨b, 1, none⟩ _ _ (Ne.symm nb))
  have F1 : ∀ i, ((W0.setCell ⟨b, 1, none⟩ (.int .i64 (s1 + x1))).drew).frozen? ⟨b, i, none⟩ = false := fun i => (World.frozen?_setCell W0 _ _ _).trans (F0 i)
  replace f1 : W0.drew.frozen? ⟨b, 1, none⟩ = false := f1
  replace p1 : W0.drew.cell? ⟨b, 1, none⟩ = some (.int .i64 s1) := p1
  clear q1
  go_wp2_with fail
  generalize (W0.setCell ⟨b, 1, none⟩ (.int .i64 (s1 + x1))).drew = W1 at T1 A1 Q1 F1 ⊢
  clear p1 f1 T0 A0 Q0 F0
  have p2 := A1.c2
  have q2 := Q1.c2
  have f2 := F1 2
  simp only [Nat.zero_add] at p2 q2
  go_still_tail 9, (by kernel_rfl)
  change wpList _ _ _ _ _ W1.drew
  have T2 := Lib.hid ((T1.out.set 2 (.int .i64 (s2 + x2))).drew)
  have A2 : At ((W1.setCell ⟨b, 2, none⟩ (.int .i64 (s2 + x2))).drew) b 0 (s0, s1 + x1, s2 + x2, s3, s4, s5, s6) := (setAt2 A1 _).keep rfl
  have Q2 : At ((W1.setCell ⟨b, 2, none⟩ (.int .i64 (s2 + x2))).drew) bx 0 (x0, x1, x2, x3, x4, x5, x6) := Q1.keep (Below.heap_setCell W1 ⟨b, 2, none⟩ _ _ (Ne.symm nb))
  have F2 : ∀ i, ((W1.setCell ⟨b, 2, none⟩ (.int .i64 (s2 + x2))).drew).frozen? ⟨b, i, none⟩ = false := fun i => (World.frozen?_setCell W1 _ _ _).trans (F1 i)
  replace f2 : W1.drew.frozen? ⟨b, 2, none⟩ = false := f2
  replace p2 : W1.drew.cell? ⟨b, 2, none⟩ = some (.int .i64 s2) := p2
  clear q2
  go_wp2_with fail
  generalize (W1.setCell ⟨b, 2, none⟩ (.int .i64 (s2 + x2))).drew = W2 at T2 A2 Q2 F2 ⊢
  clear p2 f2 T1 A1 Q1 F1
  have p3 := A2.c3
  have q3 := Q2.c3
  have f3 := F2 3
  simp only [Nat.zero_add] at p3 q3
  go_still_tail 9, (by kernel_rfl)
  change wpList _ _ _ _ _ W2.drew
  have T3 := Lib.hid ((T2.out.set 3 (.int .i64 (s3 + x3))).drew)
  have A3 : At ((W2.setCell ⟨b, 3, none⟩ (.int .i64 (s3 + x3))).drew) b 0 (s0, s1 + x1, s2 + x2, s3 + x3, s4, s5, s6) := (setAt3 A2 _).keep rfl
  have Q3 : At ((W2.setCell ⟨b, 3, none⟩ (.int .i64 (s3 + x3))).drew) bx 0 (x0, x1, x2, x3, x4, x5, x6) := Q2.keep (Below.heap_setCell W2 ⟨b, 3, none⟩ _ _ (Ne.symm nb))
  have F3 : ∀ i, ((W2.setCell ⟨b, 3, none⟩ (.int .i64 (s3 + x3))).drew).frozen? ⟨b, i, none⟩ = false := fun i => (World.frozen?_setCell W2 _ _ _).trans (F2 i)
  replace f3 : W2.drew.frozen? ⟨b, 3, none⟩ = false := f3
  replace p3 : W2.drew.cell? ⟨b, 3, none⟩ = some (.int .i64 s3) := p3
  clear q3
  go_wp2_with fail
  generalize (W2.setCell ⟨b, 3, none⟩ (.int .i64 (s3 + x3))).drew = W3 at T3 A3 Q3 F3 ⊢
  clear p3 f3 T2 A2 Q2 F2
  have p4 := A3.c4
  have q4 := Q3.c4
  have f4 := F3 4
  simp only [Nat.zero_add] at p4 q4
  go_still_tail 9, (by kernel_rfl)
  change wpList _ _ _ _ _ W3.drew
  have T4 := Lib.hid ((T3.out.set 4 (.int .i64 (s4 + x4))).drew)
  have A4 : At ((W3.setCell ⟨b, 4, none⟩ (.int .i64 (s4 + x4))).drew) b 0 (s0, s1 + x1, s2 + x2, s3 + x3, s4 + x4, s5, s6) := (setAt4 A3 _).keep rfl
  have Q4 : At ((W3.setCell ⟨b, 4, none⟩ (.int .i64 (s4 + x4))).drew) bx 0 (x0, x1, x2, x3, x4, x5, x6) := Q3.keep (Below.heap_setCell W3 ⟨b, 4, none⟩ _ _ (Ne.symm nb))
  have F4 : ∀ i, ((W3.setCell ⟨b, 4, none⟩ (.int .i64 (s4 + x4))).drew).frozen? ⟨b, i, none⟩ = false := fun i => (World.frozen?_setCell W3 _ _ _).trans (F3 i)
  replace f4 : W3.drew.frozen? ⟨b, 4, none⟩ = false := f4
  replace p4 : W3.drew.cell? ⟨b, 4, none⟩ = some (.int .i64 s4) := p4
  clear q4
  go_wp2_with fail
  generalize (W3.setCell ⟨b, 4, none⟩ (.int .i64 (s4 + x4))).drew = W4 at T4 A4 Q4 F4 ⊢
  clear p4 f4 T3 A3 Q3 F3
  have p5 := A4.c5
  have q5 := Q4.c5
  have f5 := F4 5
  simp only [Nat.zero_add] at p5 q5
  go_still_tail 9, (by kernel_rfl)
  change wpList _ _ _ _ _ W4.drew
  have T5 := Lib.hid ((T4.out.set 5 (.int .i64 (s5 + x5))).drew)
  have A5 : At ((W4.setCell ⟨b, 5, none⟩ (.int .i64 (s5 + x5))).drew) b 0 (s0, s1 + x1, s2 + x2, s3 + x3, s4 + x4, s5 + x5, s6) := (setAt5 A4 _).keep rfl
  have Q5 : At ((W4.setCell ⟨b, 5, none⟩ (.int .i64 (s5 + x5))).drew) bx 0 (x0, x1, x2, x3, x4, x5, x6) := Q4.keep (Below.heap_setCell W4 ⟨b, 5, none⟩ _ _ (Ne.symm nb))
  have F5 : ∀ i, ((W4.setCell ⟨b, 5, none⟩ (.int .i64 (s5 + x5))).drew).frozen? ⟨b, i, none⟩ = false := fun i => (World.frozen?_setCell W4 _ _ _).trans (F4 i)
  replace f5 : W4.drew.frozen? ⟨b, 5, none⟩ = false := f5
  replace p5 : W4.drew.cell? ⟨b, 5, none⟩ = some (.int .i64 s5) := p5
  clear q5
  go_wp2_with fail
  generalize (W4.setCell ⟨b, 5, none⟩ (.int .i64 (s5 + x5))).drew = W5 at T5 A5 Q5 F5 ⊢
  clear p5 f5 T4 A4 Q4 F4
  have p6 := A5.c6
  have q6 := Q5.c6
  have f6 := F5 6
  simp only [Nat.zero_add] at p6 q6
  go_still_tail 9, (by kernel_rfl)
  change wpList _ _ _ _ _ W5.drew
  have T6 := Lib.hid ((T5.out.set 6 (.int .i64 (s6 + x6))).drew)
  have A6 : At ((W5.setCell ⟨b, 6, none⟩ (.int .i64 (s6 + x6))).drew) b 0 (s0, s1 + x1, s2 + x2, s3 + x3, s4 + x4, s5 + x5, s6 + x6) := (setAt6 A5 _).keep rfl
  have Q6 : At ((W5.setCell ⟨b, 6, none⟩ (.int .i64 (s6 + x6))).drew) bx 0 (x0, x1, x2, x3, x4, x5, x6) := Q5.keep (Below.heap_setCell W5 ⟨b, 6, none⟩ _ _ (Ne.symm nb))
  have F6 : ∀ i, ((W5.setCell ⟨b, 6, none⟩ (.int .i64 (s6 + x6))).drew).frozen? ⟨b, i, none⟩ = false := fun i => (World.frozen?_setCell W5 _ _ _).trans (F5 i)
  replace f6 : W5.drew.frozen? ⟨b, 6, none⟩ = false := f6
  replace p6 : W5.drew.cell? ⟨b, 6, none⟩ = some (.int .i64 s6) := p6
  clear q6
  go_wp2_with fail
  generalize (W5.setCell ⟨b, 6, none⟩ (.int .i64 (s6 + x6))).drew = W6 at T6 A6 Q6 F6 ⊢
  clear p6 f6 T5 A5 Q5 F5
  go_end0
  exact ⟨⟨_, rfl⟩, A6, F6, T6.out⟩
end Go.Proofs.YtchpjojndkkmeaaDoor.base
