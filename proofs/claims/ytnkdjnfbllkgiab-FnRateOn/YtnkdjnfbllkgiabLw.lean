/-
  Plain helpers of this seat's proofs: the contract of the landed search for the last rate. Conditions: none.
-/
import Derived.Test.YtnkdjnfbllkgiabIt
namespace Go.Proofs.Ytnkdjnfbllkgiab.base
open Go.ChangeShapes Go.WideShapes Go.ChangeAt Go.RowKit Go.Shelf
open led (F5 z5)
open five (Row At)
attribute [local go_sem] Oper.semAt_some

theorem bkC (a : Option Addr) (len cap : Nat) (w : World) : CallsIn Fence.wide 4 Try.prog 53 #[.slice a len cap] w fun e w' => e = .returned (.func (.func 61) #[] #[.pointer (some ⟨w.heap.size, 0, none⟩)]) ∧ w' = w.alloc (.cells #[.slice a len cap] 31) := by
  refine callsIn_wide.2 ?_
  go_enter Try.func53, Try.ntmps53
  go_wp2
  go_ret
  exact ⟨rfl, rfl⟩
theorem at_own (Bx : Nat) : ∀ (x : Int × F5), Own (fun (_ : Unit) W => At W Bx 0 x.2) := fun _ _ _ _ _ hs hg hr =>
  ⟨cell_kept hs.c0 hg hr, cell_kept hs.c1 hg hr, cell_kept hs.c2 hg hr, cell_kept hs.c3 hg hr, cell_kept hs.c4 hg hr⟩
/-- No one of these is a rate of this pair and day. -/
def Non (f t d : Int) (pre : List (Int × F5)) : Prop := ∀ p ∈ pre, led.mt f t d p.2 = false
theorem non_lastK (L : List F5) (f t d : Int) : ∀ {k : Nat}, k ≤ L.length → Non f t d (bk L k) → led.lastK L f t d L.length = led.lastK L f t d (L.length - k)
  | 0, _, _ => rfl
  | k + 1, hk, h => by
    have e := bk_succ L (k := k) (j := L.length - (k + 1)) (by omega)
    rw [e] at h
    rw [non_lastK L f t d (k := k) (by omega) (fun p hp => h p (List.mem_append.2 (.inl hp)))]
    have h1 := h (((L.length - (k + 1) : Nat) : Int), L.getD (L.length - (k + 1)) z5) (List.mem_append.2 (.inr (List.mem_singleton.2 rfl)))
    dsimp only at h1
    rw [show L.length - k = (L.length - (k + 1)) + 1 by omega, led.lastK, if_neg (by rw [h1]; decide)]
theorem hit_lastK (L : List F5) (f t d : Int) {k : Nat} {ini : List (Int × F5)} {last : Int × F5} (hk : k ≤ L.length) (e : bk L k = ini ++ [last]) (hn : Non f t d ini) (hm : led.mt f t d last.2 = true) : led.lastK L f t d L.length = some last.2 := by
  cases k with
  | zero => simp [bk] at e
  | succ k =>
    rw [bk_succ L (k := k) (j := L.length - (k + 1)) (by omega)] at e
    obtain ⟨rfl, e5⟩ := List.append_inj' e rfl
    obtain rfl : (((L.length - (k + 1) : Nat) : Int), L.getD (L.length - (k + 1)) z5) = last := List.cons.inj e5 |>.1
    rw [non_lastK L f t d (k := k) (by omega) hn]
    dsimp only at hm ⊢
    rw [show L.length - k = (L.length - (k + 1)) + 1 by omega, led.lastK, if_pos hm]

theorem grew_by {w w' : World} (h : five.Grew w w') : w.grownBy w' none := by
  obtain ⟨q, os, rfl⟩ := h
  exact ⟨rfl, rfl, rfl, by simp, fun k hk _ => Go.Sort.heap_grow_old (w.drewN q) os hk⟩
/-- The world where the loop begins. -/
def lw4 (w : World) (fv sv : Value) : World := (((w.alloc (.cells #[fv] 24)).alloc (.cells #[.int .i64 0, .int .i64 0, .int .i64 0, .int .i64 0, .int .i64 0] 25)).alloc (.cells #[.bool false] 4)).alloc (.cells #[sv] 31)

structure Lw4 (w W0 : World) (fv sv : Value) : Prop where
  size : W0.heap.size = w.heap.size + 4
  fn : W0.cell? ⟨w.heap.size, 0, none⟩ = some fv
  res : five.Blk W0 (w.heap.size + 1) 5 (fun _ => .int .i64 0)
  flag : five.Blk W0 (w.heap.size + 1 + 1) 1 (fun _ => .bool false)
  sl : W0.cell? ⟨w.heap.size + 1 + 1 + 1, 0, none⟩ = some sv
  below : Below w.heap.size w W0
theorem lw4_is (w : World) (fv sv : Value) : Lw4 w (lw4 w fv sv) fv sv := by
  unfold lw4
  obtain ⟨w1, e1⟩ : ∃ w1, w1 = w.alloc (.cells #[fv] 24) := ⟨_, rfl⟩
  have s1 : w1.heap.size = w.heap.size + 1 := by rw [e1]; simp
  obtain ⟨w2, e2⟩ : ∃ w2, w2 = w1.alloc (.cells #[.int .i64 0, .int .i64 0, .int .i64 0, .int .i64 0, .int .i64 0] 25) := ⟨_, rfl⟩
  have s2 : w2.heap.size = w.heap.size + 1 + 1 := by rw [e2]; simp [s1]
  obtain ⟨w3, e3⟩ : ∃ w3, w3 = w2.alloc (.cells #[.bool false] 4) := ⟨_, rfl⟩
  have s3 : w3.heap.size = w.heap.size + 1 + 1 + 1 := by rw [e3]; simp [s2]
  obtain ⟨w4, e4⟩ : ∃ w4, w4 = w3.alloc (.cells #[sv] 31) := ⟨_, rfl⟩
  rw [← e1, ← e2, ← e3, ← e4]
  have b34 : Below w3.heap.size w3 w4 := by rw [e4]; exact (five.Grew.alloc _ _).below
  have b24 : Below w2.heap.size w2 w4 := (by rw [e3] at b34 ⊢; exact (five.Grew.alloc _ _).below : Below w2.heap.size w2 w3).trans (b34.mono (by rw [s2, s3]; omega))
  have b14 : Below w1.heap.size w1 w4 := (by rw [e2]; exact (five.Grew.alloc _ _).below : Below w1.heap.size w1 w2).trans (b24.mono (by rw [s1, s2]; omega))
  have b04 : Below w.heap.size w w4 := (by rw [e1]; exact (five.Grew.alloc _ _).below : Below w.heap.size w w1).trans (b14.mono (by rw [s1]; omega))
  refine ⟨by rw [e4]; simp [s3], ?_, ?_, ?_, ?_, b04⟩
  · rw [b14.cell (p := ⟨w.heap.size, 0, none⟩) (by rw [s1]; exact Nat.lt_succ_self _), e1]; exact five.box_cell (five.box_refl w _) 0 rfl
  · have h := blk5 w1
    rw [← e2, s1] at h
    exact h.keep (b24.block _ (by rw [s2]; omega)) b24.size
  · have h : five.Blk w3 (w.heap.size + 1 + 1) 1 (fun _ => .bool false) := by
      rw [e3, ← s2]
      exact ⟨by simp, fun k hk => by obtain rfl : k = 0 := by omega
                                     exact five.box_cell (five.box_refl w2 _) 0 rfl, fun k => World.frozen?_alloc_new w2 _ _ k⟩
    exact h.keep (b34.block _ (by rw [s3]; omega)) b34.size
  · rw [e4, ← s3]; exact five.box_cell (five.box_refl w3 _) 0 rfl
set_option maxRecDepth 100000 in
set_option maxHeartbeats 4000000 in
theorem lastW (w : World) (a : Option Addr) (cap g : Nat) (L : List F5) (r : Row w a cap g L) (hlen : L.length ≤ 1048577) (bf bt bd : Nat) (f t d : Int) (hf : w.cell? ⟨bf, 0, none⟩ = some (.int .i64 f)) (ht : w.cell? ⟨bt, 0, none⟩ = some (.int .i64 t)) (hd : w.cell? ⟨bd, 0, none⟩ = some (.int .i64 d)) (lf : bf < w.heap.size) (lt : bt < w.heap.size) (ld : bd < w.heap.size) :
    Calls Try.prog 39 #[.slice a L.length cap, .func (.func 40) #[] #[.pointer (some ⟨bf, 0, none⟩), .pointer (some ⟨bt, 0, none⟩), .pointer (some ⟨bd, 0, none⟩)]] w fun e w' => e = .returned (onv (led.lastK L f t d L.length)) ∧ Below w.heap.size w w' := by
  refine (callsIn_wide (n := 5)).1 ?_
  have h1 : 1 ≤ 5 := by omega
  have hro : Fence.wide.round = none := rfl
  refine callsIn_of_wp_marks Try.func39 rfl trivial ?_ hro
  simp only [Try.ntmps39, List.size_toArray, List.length_cons, List.length_nil, Nat.reduceAdd, Nat.reduceSub, Array.replicate_succ, Array.replicate_zero, List.push_toArray, List.append_toArray, List.nil_append, List.cons_append]
  have hw53 : Fence.wide.fn 53 := trivial
  gi_wp2_with (gi_at_call 53; refine (bkC _ _ _ _).mono ?_; rintro e w' ⟨rfl, rfl⟩)
  have HF := Lib.hid (lw4_is w (.func (.func 40) #[] #[.pointer (some ⟨bf, 0, none⟩), .pointer (some ⟨bt, 0, none⟩), .pointer (some ⟨bd, 0, none⟩)]) (.slice a L.length cap))
  change Code.wpIn _ _ _ _ _ _ (lw4 w (.func (.func 40) #[] #[.pointer (some ⟨bf, 0, none⟩), .pointer (some ⟨bt, 0, none⟩), .pointer (some ⟨bd, 0, none⟩)]) (.slice a L.length cap))
  generalize lw4 w (.func (.func 40) #[] #[.pointer (some ⟨bf, 0, none⟩), .pointer (some ⟨bt, 0, none⟩), .pointer (some ⟨bd, 0, none⟩)]) (.slice a L.length cap) = W0 at HF ⊢
  have hsz := HF.out.size
  have r0 : Row W0 a cap g L := r.keep fun h => HF.out.below.block g (r.lt h)
  refine wpIn_rangeFunc_ownH hro h1 (gf := 61) (lb := #[.pointer (some ⟨w.heap.size + 1 + 1 + 1, 0, none⟩)]) rfl trivial (enters_of Try.func61 (by kernel_rfl) rfl)
    (back_stops Fence.wide 4 trivial rfl (by omega) (w.heap.size + 1 + 1 + 1) W0.heap.size g cap a L W0 hlen (by omega) (Nat.le_refl _) (fun h => r0.lt h) HF.out.sl r0) belowK_t (belowK_b (Nat.le_refl _)) (Below.refl _ _) (fun _ => rfl)
    (fun pre W => Non f t d pre ∧ Below W0.heap.size W0 W)
    (fun c pre W => (c = .ret ∧ ∃ ini last, pre = ini ++ [last] ∧ Non f t d ini ∧ led.mt f t d last.2 = true ∧ At W (w.heap.size + 1) 0 last.2 ∧ W.cell? ⟨w.heap.size + 1 + 1, 0, none⟩ = some (.bool true)) ∧ Below w.heap.size w W)
    (OwnFrom.and (ownFrom_pure _ _) (ownFrom_below (Nat.le_refl _) (Nat.le_refl _)))
    (fun c => OwnFrom.and (Own.from (fun s A B row hs hg hr => by obtain ⟨hc, ini, last, e1, e2, e3, e4, e5⟩ := hs; exact ⟨hc, ini, last, e1, e2, e3, ⟨cell_kept e4.c0 hg hr, cell_kept e4.c1 hg hr, cell_kept e4.c2 hg hr, cell_kept e4.c3 hg hr, cell_kept e4.c4 hg hr⟩, cell_kept e5 hg hr⟩) _) (ownFrom_below (Nat.le_refl _) (by omega)))
    ⟨fun p hp => absurd hp (by simp), Below.refl _ _⟩
    (fun x a' W => ∃ Bx, W0.heap.size ≤ Bx ∧ At W Bx 0 x.2 ∧ a' = { tmps := #[.slice a L.length cap, .func (.func 40) #[] #[.pointer (some ⟨bf, 0, none⟩), .pointer (some ⟨bt, 0, none⟩), .pointer (some ⟨bd, 0, none⟩)], undef, .pointer (some ⟨w.heap.size, 0, none⟩), .pointer (some ⟨w.heap.size + 1, 0, none⟩), .pointer (some ⟨w.heap.size + 1 + 1, 0, none⟩), undef, .pointer (some ⟨Bx, 0, none⟩), undef, .slice a L.length cap, .func (.func 61) #[] #[.pointer (some ⟨w.heap.size + 1 + 1 + 1, 0, none⟩)], .int .i64 x.1, .agg #[.int .i64 x.2.1, .int .i64 x.2.2.1, .int .i64 x.2.2.2.1, .int .i64 x.2.2.2.2.1, .int .i64 x.2.2.2.2.2], undef, undef, undef, undef, undef], defers := [] })
    (fun x a' => Own.from (fun s A B row hs hg hr => by obtain ⟨Bx, h1, h2, h3⟩ := hs; exact ⟨Bx, h1, at_own Bx x s A B row h2 hg hr, h3⟩) _) ?assign ?body ?done ?stop
  case assign =>
    rintro l pre x W K ⟨hi1, hi2⟩ hK
    dsimp only [encY]
    gi_wp2
    exact hK _ _ ((KeepsOthers.alloc _ _).from _) ((Below.refl _ W).alloc hi2.size _) ⟨hi1, hi2.alloc hi2.size _⟩ ⟨W.heap.size, hi2.size, five.At.boxed W x.2 _, rfl⟩
  case body =>
    rintro l pre x a' W hl ⟨rr, hrr⟩ ⟨hi1, hi2⟩ ⟨Bx, hbx, hat, rfl⟩ hlt
    have fnc := (hi2.cell (p := ⟨w.heap.size, 0, none⟩) (by show w.heap.size < _; omega)).trans HF.out.fn
    have bw := HF.out.below.trans (hi2.mono (B' := w.heap.size) (by omega))
    have ws := bw.size
    have HACC := Lib.hid (acc x.2 bf bt bd f t d W ((bw.cell (p := ⟨bf, 0, none⟩) lf).trans hf) ((bw.cell (p := ⟨bt, 0, none⟩) lt).trans ht) ((bw.cell (p := ⟨bd, 0, none⟩) ld).trans hd) (by omega) (by omega) (by omega))
    have HAT := Lib.hid hat
    have BW := Lib.hid bw
    have I1 := Lib.hid hi1
    have I2 := Lib.hid hi2
    obtain ⟨m, hm⟩ : ∃ m, m = led.mt f t d x.2 := ⟨_, rfl⟩
    rw [← hm] at HACC
    have HM := Lib.hid hm
    obtain ⟨x0, x1, x2, x3, x4⟩ := hat
    simp only [Nat.zero_add] at x0 x1 x2 x3 x4
    clear bw hi1 hi2 hm hf ht hd r r0 hrr
    cases m with
    | false =>
      gi_wp2_with (refine ⟨trivial, ?_⟩; gi_at_call 40; refine (CallsIn.inRound l (callsIn_wide.2 HACC.out)).mono ?_; rintro e w1 ⟨rfl, g1⟩)
      exact ⟨KeepsFrom.of_grownBy (grew_by g1) (fun j e => by cases e), g1.below.mono (by have := I2.out.size; omega), fun p hp => (List.mem_append.1 hp).elim (I1.out p) (fun e => by rw [List.mem_singleton.1 e]; exact HM.out.symm), I2.out.trans (g1.below.mono I2.out.size)⟩
    | true =>
      gi_wp2_with (refine ⟨trivial, ?_⟩; gi_at_call 40; refine (CallsIn.inRound l (callsIn_wide.2 HACC.out)).mono ?_; rintro e w1 ⟨rfl, g1⟩; obtain ⟨y0, y1, y2, y3, y4⟩ := HAT.out.keep (g1.below.block Bx HAT.out.lt); simp only [Nat.zero_add] at y0 y1 y2 y3 y4; have Y1 := Lib.hid (HF.out.res.keep (w' := w1) ((g1.below.block _ (by have := I2.out.size; omega)).trans (I2.out.block _ (by omega))) (by have := I2.out.size; have := g1.below.size; omega)); have p0 := Y1.out.cell 0 (by omega); have p1 := Y1.out.cell 1 (by omega); have p2 := Y1.out.cell 2 (by omega); have p3 := Y1.out.cell 3 (by omega); have p4 := Y1.out.cell 4 (by omega); have r0 := Y1.out.free 0; have r1 := Y1.out.free 1; have r2 := Y1.out.free 2; have r3 := Y1.out.free 3; have r4 := Y1.out.free 4; have FL := Lib.hid (HF.out.flag.keep (w' := w1) ((g1.below.block _ (by have := I2.out.size; omega)).trans (I2.out.block _ (by omega))) (by have := I2.out.size; have := g1.below.size; omega)); have p5 := FL.out.cell 0 (by omega); have r5 := FL.out.free 0; have G1 := Lib.hid g1; clear g1)
      have YF := ((((((Y1.out.set (k := 0) (by omega) (.int .i64 x.2.1)).set (k := 1) (by omega) (.int .i64 x.2.2.1)).set (k := 2) (by omega) (.int .i64 x.2.2.2.1)).set (k := 3) (by omega) (.int .i64 x.2.2.2.2.1)).set (k := 4) (by omega) (.int .i64 x.2.2.2.2.2))).other (g' := w.heap.size + 1 + 1) (k := 0) (by omega) (.bool true)
      have FF := ((((((FL.out.other (g' := w.heap.size + 1) (k := 0) (by omega) (.int .i64 x.2.1)).other (g' := w.heap.size + 1) (k := 1) (by omega) (.int .i64 x.2.2.1)).other (g' := w.heap.size + 1) (k := 2) (by omega) (.int .i64 x.2.2.2.1)).other (g' := w.heap.size + 1) (k := 3) (by omega) (.int .i64 x.2.2.2.2.1)).other (g' := w.heap.size + 1) (k := 4) (by omega) (.int .i64 x.2.2.2.2.2))).set (k := 0) (by omega) (.bool true)
      have B1 := BW.out.trans (G1.out.below.mono BW.out.size)
      exact ⟨(((((((KeepsOthers.of_grownBy (grew_by G1.out) (fun j o e => by cases e)).trans (KeepsOthers.setCell _ _ _)).trans (KeepsOthers.setCell _ _ _)).trans (KeepsOthers.setCell _ _ _)).trans (KeepsOthers.setCell _ _ _)).trans (KeepsOthers.setCell _ _ _)).trans (KeepsOthers.setCell _ _ _)).from _, ⟨rfl, pre, x, rfl, I1.out, HM.out.symm, ⟨YF.cell 0 (by omega), YF.cell 1 (by omega), YF.cell 2 (by omega), YF.cell 3 (by omega), YF.cell 4 (by omega)⟩, FF.cell 0 (by omega)⟩, ((((((B1.setCell (p := ⟨w.heap.size + 1, 0, none⟩) (Nat.le_succ _) (.int .i64 x.2.1)).setCell (p := ⟨w.heap.size + 1, 1, none⟩) (Nat.le_succ _) (.int .i64 x.2.2.1)).setCell (p := ⟨w.heap.size + 1, 2, none⟩) (Nat.le_succ _) (.int .i64 x.2.2.2.1)).setCell (p := ⟨w.heap.size + 1, 3, none⟩) (Nat.le_succ _) (.int .i64 x.2.2.2.2.1)).setCell (p := ⟨w.heap.size + 1, 4, none⟩) (Nat.le_succ _) (.int .i64 x.2.2.2.2.2))).setCell (p := ⟨w.heap.size + 1 + 1, 0, none⟩) (by show w.heap.size ≤ w.heap.size + 1 + 1; omega) _⟩
  case done =>
    rintro D ys W hD rfl ⟨hi1, hi2⟩ hK
    have bw := HF.out.below.trans (hi2.mono (B' := w.heap.size) (by omega))
    have E := Lib.hid (show led.lastK L f t d L.length = none from by rw [non_lastK L f t d (Nat.le_refl _) hi1, Nat.sub_self]; rfl)
    have Y1 := Lib.hid (HF.out.res.keep (w' := W) (hi2.block _ (by omega)) hi2.size)
    have FL := Lib.hid (HF.out.flag.keep (w' := W) (hi2.block _ (by omega)) hi2.size)
    have l1 : w.heap.size + 1 < W.heap.size := Y1.out.lt
    have l2 : w.heap.size + 1 + 1 < W.heap.size := FL.out.lt
    have p0 := Y1.out.cell 0 (by omega)
    have rz0 := Y1.out.free 0
    have p1 := Y1.out.cell 1 (by omega)
    have rz1 := Y1.out.free 1
    have p2 := Y1.out.cell 2 (by omega)
    have rz2 := Y1.out.free 2
    have p3 := Y1.out.cell 3 (by omega)
    have rz3 := Y1.out.free 3
    have p4 := Y1.out.cell 4 (by omega)
    have rz4 := Y1.out.free 4
    have p5 := FL.out.cell 0 (by omega)
    have r5 := FL.out.free 0
    have BW := Lib.hid bw
    have HK := Lib.hid hK
    clear bw hi1 hi2 hK hf ht hd r r0
    have s0 : (W.alloc (.cells #[.int .i64 0, .int .i64 0, .int .i64 0, .int .i64 0, .int .i64 0] 25)).frozen? ⟨w.heap.size + 1, 0, none⟩ = false := by rw [World.frozen?_alloc_old W _ ⟨w.heap.size + 1, 0, none⟩ (by show w.heap.size + 1 ≠ _; omega)]; exact rz0
    have s1 : (W.alloc (.cells #[.int .i64 0, .int .i64 0, .int .i64 0, .int .i64 0, .int .i64 0] 25)).frozen? ⟨w.heap.size + 1, 1, none⟩ = false := by rw [World.frozen?_alloc_old W _ ⟨w.heap.size + 1, 1, none⟩ (by show w.heap.size + 1 ≠ _; omega)]; exact rz1
    have s2 : (W.alloc (.cells #[.int .i64 0, .int .i64 0, .int .i64 0, .int .i64 0, .int .i64 0] 25)).frozen? ⟨w.heap.size + 1, 2, none⟩ = false := by rw [World.frozen?_alloc_old W _ ⟨w.heap.size + 1, 2, none⟩ (by show w.heap.size + 1 ≠ _; omega)]; exact rz2
    have s3 : (W.alloc (.cells #[.int .i64 0, .int .i64 0, .int .i64 0, .int .i64 0, .int .i64 0] 25)).frozen? ⟨w.heap.size + 1, 3, none⟩ = false := by rw [World.frozen?_alloc_old W _ ⟨w.heap.size + 1, 3, none⟩ (by show w.heap.size + 1 ≠ _; omega)]; exact rz3
    have s4 : (W.alloc (.cells #[.int .i64 0, .int .i64 0, .int .i64 0, .int .i64 0, .int .i64 0] 25)).frozen? ⟨w.heap.size + 1, 4, none⟩ = false := by rw [World.frozen?_alloc_old W _ ⟨w.heap.size + 1, 4, none⟩ (by show w.heap.size + 1 ≠ _; omega)]; exact rz4
    gi_wp2
    have YF0 := ((((((Y1.out.set (k := 0) (by omega) (.int .i64 0)).set (k := 1) (by omega) (.int .i64 0)).set (k := 2) (by omega) (.int .i64 0)).set (k := 3) (by omega) (.int .i64 0)).set (k := 4) (by omega) (.int .i64 0))).other (g' := w.heap.size + 1 + 1) (k := 0) (by omega) (.bool false)
    have FF0 := ((((((FL.out.other (g' := w.heap.size + 1) (k := 0) (by omega) (.int .i64 0)).other (g' := w.heap.size + 1) (k := 1) (by omega) (.int .i64 0)).other (g' := w.heap.size + 1) (k := 2) (by omega) (.int .i64 0)).other (g' := w.heap.size + 1) (k := 3) (by omega) (.int .i64 0)).other (g' := w.heap.size + 1) (k := 4) (by omega) (.int .i64 0))).set (k := 0) (by omega) (.bool false)
    have YF := YF0.keep (w' := World.alloc _ (.cells #[.int .i64 0, .int .i64 0, .int .i64 0, .int .i64 0, .int .i64 0] 25)) (Below.heap_alloc _ _ _ YF0.lt) (by simp)
    have FF := FF0.keep (w' := World.alloc _ (.cells #[.int .i64 0, .int .i64 0, .int .i64 0, .int .i64 0, .int .i64 0] 25)) (Below.heap_alloc _ _ _ FF0.lt) (by simp)
    have BF0 := ((((((BW.out.setCell (p := ⟨w.heap.size + 1, 0, none⟩) (Nat.le_succ _) (.int .i64 0)).setCell (p := ⟨w.heap.size + 1, 1, none⟩) (Nat.le_succ _) (.int .i64 0)).setCell (p := ⟨w.heap.size + 1, 2, none⟩) (Nat.le_succ _) (.int .i64 0)).setCell (p := ⟨w.heap.size + 1, 3, none⟩) (Nat.le_succ _) (.int .i64 0)).setCell (p := ⟨w.heap.size + 1, 4, none⟩) (Nat.le_succ _) (.int .i64 0))).setCell (p := ⟨w.heap.size + 1 + 1, 0, none⟩) (by show w.heap.size ≤ w.heap.size + 1 + 1; omega) (.bool false)
    have BF := BF0.alloc BF0.size (.cells #[.int .i64 0, .int .i64 0, .int .i64 0, .int .i64 0, .int .i64 0] 25)
    have KF := ((((((((KeepsOthers.refl W).trans (KeepsOthers.setCell W ⟨w.heap.size + 1, 0, none⟩ (.int .i64 0))).trans (KeepsOthers.setCell (W.setCell ⟨w.heap.size + 1, 0, none⟩ (.int .i64 0)) ⟨w.heap.size + 1, 1, none⟩ (.int .i64 0))).trans (KeepsOthers.setCell ((W.setCell ⟨w.heap.size + 1, 0, none⟩ (.int .i64 0)).setCell ⟨w.heap.size + 1, 1, none⟩ (.int .i64 0)) ⟨w.heap.size + 1, 2, none⟩ (.int .i64 0))).trans (KeepsOthers.setCell (((W.setCell ⟨w.heap.size + 1, 0, none⟩ (.int .i64 0)).setCell ⟨w.heap.size + 1, 1, none⟩ (.int .i64 0)).setCell ⟨w.heap.size + 1, 2, none⟩ (.int .i64 0)) ⟨w.heap.size + 1, 3, none⟩ (.int .i64 0))).trans (KeepsOthers.setCell ((((W.setCell ⟨w.heap.size + 1, 0, none⟩ (.int .i64 0)).setCell ⟨w.heap.size + 1, 1, none⟩ (.int .i64 0)).setCell ⟨w.heap.size + 1, 2, none⟩ (.int .i64 0)).setCell ⟨w.heap.size + 1, 3, none⟩ (.int .i64 0)) ⟨w.heap.size + 1, 4, none⟩ (.int .i64 0))).trans (KeepsOthers.setCell (((((W.setCell ⟨w.heap.size + 1, 0, none⟩ (.int .i64 0)).setCell ⟨w.heap.size + 1, 1, none⟩ (.int .i64 0)).setCell ⟨w.heap.size + 1, 2, none⟩ (.int .i64 0)).setCell ⟨w.heap.size + 1, 3, none⟩ (.int .i64 0)).setCell ⟨w.heap.size + 1, 4, none⟩ (.int .i64 0)) ⟨w.heap.size + 1 + 1, 0, none⟩ (.bool false))).trans (KeepsOthers.alloc ((((((W.setCell ⟨w.heap.size + 1, 0, none⟩ (.int .i64 0)).setCell ⟨w.heap.size + 1, 1, none⟩ (.int .i64 0)).setCell ⟨w.heap.size + 1, 2, none⟩ (.int .i64 0)).setCell ⟨w.heap.size + 1, 3, none⟩ (.int .i64 0)).setCell ⟨w.heap.size + 1, 4, none⟩ (.int .i64 0)).setCell ⟨w.heap.size + 1 + 1, 0, none⟩ (.bool false)) (.cells #[.int .i64 0, .int .i64 0, .int .i64 0, .int .i64 0, .int .i64 0] 25))).same D _ HK.out rfl
    refine ⟨by simp, .inl ⟨_, _, rfl, run_takeDeferred KF, ?_⟩⟩
    have c0 := cell_kept (YF.cell 0 (by omega)) (grownBy_putObj' _ D (.deferred none)) (fun r e => by cases e; exact ⟨_, KF, rfl⟩)
    have c1 := cell_kept (YF.cell 1 (by omega)) (grownBy_putObj' _ D (.deferred none)) (fun r e => by cases e; exact ⟨_, KF, rfl⟩)
    have c2 := cell_kept (YF.cell 2 (by omega)) (grownBy_putObj' _ D (.deferred none)) (fun r e => by cases e; exact ⟨_, KF, rfl⟩)
    have c3 := cell_kept (YF.cell 3 (by omega)) (grownBy_putObj' _ D (.deferred none)) (fun r e => by cases e; exact ⟨_, KF, rfl⟩)
    have c4 := cell_kept (YF.cell 4 (by omega)) (grownBy_putObj' _ D (.deferred none)) (fun r e => by cases e; exact ⟨_, KF, rfl⟩)
    have c5 := cell_kept (FF.cell 0 (by omega)) (grownBy_putObj' _ D (.deferred none)) (fun r e => by cases e; exact ⟨_, KF, rfl⟩)
    refine ⟨onv none, ?_, by rw [E.out], BF.trans (belowK_b (w := w) (Nat.le_refl _) _ D _ _ (by omega) KF rfl rfl)⟩
    generalize World.putObj _ D (.deferred none) = W9 at c0 c1 c2 c3 c4 c5 ⊢
    replace c0 : W9.cell? ⟨w.heap.size + 1, 0, none⟩ = some (.int .i64 0) := c0
    replace c1 : W9.cell? ⟨w.heap.size + 1, 1, none⟩ = some (.int .i64 0) := c1
    replace c2 : W9.cell? ⟨w.heap.size + 1, 2, none⟩ = some (.int .i64 0) := c2
    replace c3 : W9.cell? ⟨w.heap.size + 1, 3, none⟩ = some (.int .i64 0) := c3
    replace c4 : W9.cell? ⟨w.heap.size + 1, 4, none⟩ = some (.int .i64 0) := c4
    replace c5 : W9.cell? ⟨w.heap.size + 1 + 1, 0, none⟩ = some (.bool false) := c5
    simp [results, Try.f39, go_sem, c0, c1, c2, c3, c4, c5, onv]
  case stop =>
    rintro D c pre W hD ⟨k, hk, rfl⟩ ⟨⟨rfl, ini, last, e1, e2, e3, e4, e5⟩, hB⟩ hK
    gi_wp2
    refine ⟨by simp, .inl ⟨_, _, rfl, run_takeDeferred hK, ?_⟩⟩
    have q := at_own (w.heap.size + 1) last () W _ (some D) e4 (grownBy_putObj' _ D (.deferred none)) (fun r e => by cases e; exact ⟨_, hK, rfl⟩)
    have c5 := cell_kept e5 (grownBy_putObj' _ D (.deferred none)) (fun r e => by cases e; exact ⟨_, hK, rfl⟩)
    obtain ⟨c0, c1, c2, c3, c4⟩ := q
    simp only [Nat.zero_add] at c0 c1 c2 c3 c4
    refine ⟨onv (some last.2), ?_, by rw [hit_lastK L f t d hk e1 e2 e3], hB.trans (belowK_b (w := w) (Nat.le_refl _) W D _ _ (by omega) hK rfl rfl)⟩
    simp [results, Try.f39, go_sem, c0, c1, c2, c3, c4, c5, onv]
end Go.Proofs.Ytnkdjnfbllkgiab.base
