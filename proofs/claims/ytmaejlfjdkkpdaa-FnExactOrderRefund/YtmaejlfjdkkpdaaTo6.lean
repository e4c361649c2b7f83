/-
  Plain helpers of this seat's proofs: copies of slices of plans. Conditions: none.
-/
import Derived.Test.YtmaejlfjdkkpdaaPls
import Derived.Test.YtmaejlfjdkkpdaaCp7
import Derived.Test.YtmaejlfjdkkpdaaCpI4
import Derived.Test.YtmaejlfjdkkpdaaBxs
namespace Go.Proofs.Ytmaejlfjdkkpdaa.pls
open Go.ChangeShapes Go.WideShapes Go.ChangeAt Go.RowKit
open gen
open seven (F7 zz Row Inp At)
open four (F4)
/-- The copies of the first k plans lie in block g and behind it. -/
structure Pk (wr : World) (g n : Nat) (A : Nat → Value) (p : List (List F7)) (gs : Nat → Nat) (k : Nat) : Prop where
  blk : Blk wr g n A
  val : ∀ i, i < k → A i = .slice (some ⟨gs i, 0, none⟩) (nth p i).length (nth p i).length
  row : ∀ i, i < k → Row wr (some ⟨gs i, 0, none⟩) (nth p i).length (gs i) (nth p i)
  lo : ∀ i, i < k → g < gs i
  lt : ∀ i, i < k → gs i < wr.heap.size
  up : ∀ i j, i < j → j < k → gs i < gs j
theorem Pk.step {wr w1 : World} {g n : Nat} {A : Nat → Value} {p : List (List F7)} {gs : Nat → Nat} {k g1 : Nat} (h : Pk wr g n A p gs k) (hk : k < n) (hb : Below wr.heap.size wr w1)
    (r : Row w1 (some ⟨g1, 0, none⟩) (nth p k).length g1 (nth p k)) (h1 : wr.heap.size ≤ g1) (h2 : g1 < w1.heap.size) :
    Pk (w1.setCell ⟨g, k, none⟩ (.slice (some ⟨g1, 0, none⟩) (nth p k).length (nth p k).length)) g n (upd A k (.slice (some ⟨g1, 0, none⟩) (nth p k).length (nth p k).length)) p (fun i => if i = k then g1 else gs i) (k + 1) := by
  have hg := h.blk.lt
  have B1 := h.blk.below hb hg
  have ot : ∀ b, b ≠ g → (w1.setCell ⟨g, k, none⟩ (.slice (some ⟨g1, 0, none⟩) (nth p k).length (nth p k).length)).heap[b]? = w1.heap[b]? := fun b hb => Below.heap_setCell _ _ _ _ hb
  refine ⟨B1.set hk _, fun i hi => ?_, fun i hi => ?_, fun i hi => ?_, fun i hi => ?_, fun i j hi hj => ?_⟩
  · unfold upd
    by_cases e : i = k
    · subst e; simp
    · simp only [if_neg e]; exact h.val i (by omega)
  · by_cases e : i = k
    · subst e
      simp only [if_true]
      exact r.keep fun _ => ot g1 (by omega)
    · simp only [if_neg e]
      have hl := h.lt i (by omega)
      exact (h.row i (by omega)).keep fun _ => (ot _ (by have := h.lo i (by omega); omega)).trans (hb.block _ hl)
  · by_cases e : i = k
    · simp only [if_pos e]; omega
    · simp only [if_neg e]; exact h.lo i (by omega)
  · have z : (w1.setCell ⟨g, k, none⟩ (.slice (some ⟨g1, 0, none⟩) (nth p k).length (nth p k).length)).heap.size = w1.heap.size := by simp [World.setCell]
    rw [z]
    by_cases e : i = k
    · simp only [if_pos e]; exact h2
    · simp only [if_neg e]; exact Nat.lt_of_lt_of_le (h.lt i (by omega)) hb.size
  · have ei : i ≠ k := by omega
    simp only [if_neg ei]
    by_cases e : j = k
    · simp only [if_pos e]; exact Nat.lt_of_lt_of_le (h.lt i (by omega)) h1
    · simp only [if_neg e]; exact h.up i j hi (by omega)
theorem Pk.pls {wr : World} {g n : Nat} {A : Nat → Value} {p : List (List F7)} {gs : Nat → Nat} (h : Pk wr g n A p gs n) (hn : p.length = n) : Pls wr (some ⟨g, 0, none⟩) n g p gs (fun i => (nth p i).length) := by
  subst hn
  refine ⟨fun _ => rfl, Nat.le_refl _, fun i hi => by rw [h.blk.cell i hi, h.val i hi], h.row, h.lt, fun _ i => h.blk.free i, fun i hi => by have := h.lo i hi; omega, fun i j hi hj e => ?_⟩
  rcases Nat.lt_trichotomy i j with q | q | q
  · have := h.up i j q hj; omega
  · exact q
  · have := h.up j i q hi; omega
/-- A copy of a slice of plans, in memory of its own. -/
def CopiedP (w : World) (p : List (List F7)) (e : Ending) (w' : World) : Prop := ∃ g gs, e = .returned (.slice (some ⟨g, 0, none⟩) p.length p.length) ∧ Pls w' (some ⟨g, 0, none⟩) p.length g p gs (fun i => (nth p i).length) ∧ w.heap.size ≤ g ∧ g < w'.heap.size ∧ (∀ i, i < p.length → g < gs i) ∧ Below w.heap.size w w'
set_option maxHeartbeats 1000000 in
theorem toPl (a : Option Addr) (cap : Nat) (l : List F7) (w : World) (h : Inp w a l) (hn : l.length ≤ 1048576) : Calls Try.prog 85 #[.agg #[.slice a l.length cap]] w fun e w' => ∃ g, e = .returned (.agg #[.slice (some ⟨g, 0, none⟩) l.length l.length]) ∧ Row w' (some ⟨g, 0, none⟩) l.length g l ∧ w.heap.size ≤ g ∧ g < w'.heap.size ∧ Below w.heap.size w w' := by
  have C := Lib.hid (fun W (hb : Below w.heap.size w W) => seven.copy a cap l W (h.below hb) hn)
  clear h
  have B0 := Lib.hid (show Below w.heap.size w (((w.alloc (.cells #[.slice a l.length cap] 98)).alloc (.cells #[.slice none 0 0] 62)).alloc (.cells #[.slice none 0 0] 62)) from bAl (bAl (bAl (Below.refl _ _) (Nat.le_refl _) _) (Nat.le_refl _) _) (Nat.le_refl _) _)
  have X1 := (Blk.new (w.alloc (.cells #[.slice a l.length cap] 98)) #[.slice none 0 0] 62 1 rfl).al (.cells #[.slice none 0 0] 62)
  have X2 := Blk.new ((w.alloc (.cells #[.slice a l.length cap] 98)).alloc (.cells #[.slice none 0 0] 62)) #[.slice none 0 0] 62 1 rfl
  have z0 : (((w.alloc (.cells #[.slice a l.length cap] 98)).alloc (.cells #[.slice none 0 0] 62)).alloc (.cells #[.slice none 0 0] 62)).heap.size = w.heap.size + 1 + 1 + 1 := by simp only [sz_al]
  simp only [sz_al] at X1 X2
  go_enter Try.func85, Try.ntmps85
  go_wp2_with fail
  generalize ((w.alloc (.cells #[.slice a l.length cap] 98)).alloc (.cells #[.slice none 0 0] 62)).alloc (.cells #[.slice none 0 0] 62) = W0 at B0 X1 X2 z0 ⊢
  refine (C.out W0 B0.out).mono ?_
  rintro e w1 ⟨g, rfl, r, l1, k1, b1⟩
  have R := Lib.hid r
  have B1 := Lib.hid (B0.out.trans (b1.mono B0.out.size))
  have X1 := X1.below b1 X1.lt
  have X2 := X2.below b1 X2.lt
  have L1 := Lib.hid (show w.heap.size ≤ g ∧ g ≠ w.heap.size + 1 ∧ g ≠ w.heap.size + 1 + 1 ∧ g < w1.heap.size from by omega)
  have c1 : w1.cell? ⟨w.heap.size + 1, 0, none⟩ = some (.slice none 0 0) := X1.cell 0 (by decide)
  have c2 : w1.cell? ⟨w.heap.size + 1 + 1, 0, none⟩ = some (.slice none 0 0) := X2.cell 0 (by decide)
  have f1 := X1.free 0
  have f2 := X2.free 0
  have Y1 := ((X1.other (k := 0) (g' := w.heap.size + 1 + 1) (by omega) (.slice (some ⟨g, 0, none⟩) l.length l.length)).set (k := 0) (by decide) (.slice (some ⟨g, 0, none⟩) l.length l.length)).cell 0 (by decide)
  change _ = some (Value.slice (some ⟨g, 0, none⟩) l.length l.length) at Y1
  have YY := Lib.hid Y1
  clear r b1 l1 k1 X1 X2 z0 Y1
  go_wp2
  refine bodyPost_ret (v := .agg #[.slice (some ⟨g, 0, none⟩) l.length l.length]) (by simp [results, Try.results85, go_sem, YY.out]) rfl ⟨g, rfl, R.out.keep fun _ => (Below.heap_setCell _ _ _ _ L1.out.2.1).trans (Below.heap_setCell _ _ _ _ L1.out.2.2.1), L1.out.1, by simp only [sz_set]; exact L1.out.2.2.2, ?_⟩
  exact (B1.out.setCell (p := ⟨w.heap.size + 1 + 1, 0, none⟩) (show w.heap.size ≤ w.heap.size + 1 + 1 by omega) _).setCell (p := ⟨w.heap.size + 1, 0, none⟩) (show w.heap.size ≤ w.heap.size + 1 by omega) _
theorem infoP : (Try.prog.info? 62).map (fun i => (i.zero, i.size, i.bytes)) = some (some (.agg #[.slice none 0 0]), 1, 24) := by kernel_rfl
set_option maxHeartbeats 1000000 in
theorem copyP (a : Option Addr) (cap : Nat) (p : List (List F7)) (w : World) (h : InpP w a p) (hn : p.length ≤ 1048576) (hm : ∀ i, i < p.length → (nth p i).length ≤ 1048576) : Calls Try.prog 53 #[.slice a p.length cap] w (CopiedP w p) := by
  have HI := Lib.hid h
  have HM := Lib.hid hm
  clear h hm
  obtain ⟨n, hnz⟩ : ∃ n, n = p.length := ⟨_, rfl⟩
  unfold CopiedP
  rw [← hnz] at hn ⊢
  have HNZ := Lib.hid hnz
  clear hnz
  obtain ⟨i0, hi, hz0, hz1, hz2⟩ := info_parts infoP
  go_enter Try.func53, Try.ntmps53
  go_wp2_with (at_make; refine wpList_make_full _ rfl _ _ 29 rfl w.heap.size 62 i0 (.agg #[.slice none 0 0]) 1 Try.underlying29 hi hz0 hz1 _ _ _ _ n rfl rfl rfl rfl ?b2 ?b3 (Nat.le_refl _) ?_)
  case b2 => (try rw [hz2]); omega
  case b3 => unfold maxLen; omega
  intro w0 hown0 hgrow0
  obtain ⟨⟨A0, hA0, _⟩, hg0, _⟩ := Blk.of_owns hown0
  rw [Nat.mul_one] at hA0
  have BL0 := Lib.hid hA0
  have B0 := Lib.hid ((Below.refl w.heap.size w).grown hgrow0 (Nat.le_refl _) (fun k h => by cases h))
  clear hown0 hgrow0 hA0 hg0 hi hz0 hz1 hz2
  go_wp2
  go_loopw [4] (fun vi wr => Below w.heap.size w wr ∧ ∃ (k : Nat) (A : Nat → Value) (gs : Nat → Nat), k ≤ n ∧ vi = .int .i64 k ∧ Pk wr w.heap.size n A p gs k) (fun vi _ => n - (intOf vi).toNat)
  case atStart => exact ⟨B0.out, 0, A0, fun _ => 0, by omega, rfl, BL0.out, fun j h => by omega, fun j h => by omega, fun j h => by omega, fun j h => by omega, fun i j _ h => by omega⟩
  case round =>
    obtain ⟨hB, k, A, gs, hk, rfl, hA⟩ := hrel
    have BB := Lib.hid hB
    have AA := Lib.hid hA
    by_cases hlt : k < n
    · obtain ⟨c, off, rfl, a', cap', hcell, hin⟩ := HI.out k (by rw [← HNZ.out]; exact hlt)
      have C := Lib.hid (toPl a' cap' (nth p k) wr (hin.below hB) (HM.out k (by rw [← HNZ.out]; exact hlt)))
      replace hcell := cell_keep hcell (hB.block c (cell_lt hcell))
      have u1 : decide (k < n) = true := by simp; omega
      have z1 : (k : Int) < (n : Int) := by omega
      clear hB hA hin
      obtain ⟨q, hq⟩ : ∃ q, q = nth p k := ⟨_, rfl⟩
      rw [← hq] at hcell C
      have HQ := Lib.hid hq
      clear hq
      go_wp2_with fail
      refine C.out.mono ?_
      rintro e w1 ⟨g1, rfl, r1, l1, k1, b1⟩
      have A1 := AA.out.blk.below b1 AA.out.blk.lt
      have B1 := Lib.hid (BB.out.trans (b1.mono BB.out.size))
      have y0 := A1.cell k hlt
      have f0 := A1.free k
      have ST := Lib.hid (AA.out.step (g1 := g1) hlt b1 (by rw [← HQ.out]; exact r1) l1 k1)
      rw [← HQ.out] at ST
      clear b1 r1 l1 k1 A1
      go_wp2
      go_roundw
      case rel =>
        exact ⟨B1.out.setCell (p := ⟨w.heap.size, k, none⟩) (Nat.le_refl _) _, k + 1, _, _, by omega, by go_num, ST.out⟩
      case measure => simp [intOf]; omega
    · have u1 : decide (k < n) = false := by simp; omega
      obtain rfl : k = n := by omega
      clear hB hA
      go_wp2
      go_ret
      have P1 := AA.out.pls HNZ.out.symm
      exact ⟨w.heap.size, gs, rfl, P1, Nat.le_refl _, AA.out.blk.lt, fun i hi => AA.out.lo i (by first | exact hi | (rw [HNZ.out]; exact hi) | (rw [← HNZ.out]; exact hi)), BB.out⟩
end Go.Proofs.Ytmaejlfjdkkpdaa.pls
