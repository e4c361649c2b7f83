/-
  Plain helpers of this seat's proofs: the contract of the model's function that sums the plans of an order. Conditions: none.
-/
import Derived.Test.YtmaejlfjdkkpdaaSi
import Derived.Test.YtmaejlfjdkkpdaaSmS
import Derived.Test.YtmaejlfjdkkpdaaSmI
import Derived.Test.YtmaejlfjdkkpdaaBxs
namespace Go.Proofs.Ytmaejlfjdkkpdaa.ob
open Go.ChangeShapes Go.WideShapes Go.ChangeAt Go.RowKit
open gen
open seven (F7 zz Row At)
open four (F4)
open pl (inR)
open pls (nth Pls OL)
open ord (Sc iok)
set_option maxRecDepth 40000 in
set_option maxHeartbeats 4000000 in
theorem sumsS (w : World) (ap : Option Addr) (cp gp : Nat) (p : List (List F7)) (gs cs : Nat → Nat) (r : Pls w ap cp gp p gs cs) (hn : p.length ≤ 8) (hm : ∀ i, i < p.length → (nth p i).length ≤ 1048577) :
    Calls Try.prog 50 #[.slice ap p.length cp] w fun e w' => e = .returned (.agg #[.int .i64 (ord.ps p p.length).1, .int .i64 (ord.ps p p.length).2.1, .int .i64 (ord.ps p p.length).2.2.1, .int .i64 (ord.ps p p.length).2.2.2.1, .int .i64 (ord.ps p p.length).2.2.2.2.1, .int .i64 (ord.ps p p.length).2.2.2.2.2.1, .int .i64 (ord.ps p p.length).2.2.2.2.2.2]) ∧ Below w.heap.size w w' := by
  have R := Lib.hid r
  have HM := Lib.hid hm
  have e1 := r.addr
  have m1 := r.room
  have B0 := Lib.hid (show Below w.heap.size w ((w.alloc (.cells #[.int .i64 0, .int .i64 0, .int .i64 0, .int .i64 0, .int .i64 0, .int .i64 0, .int .i64 0] 37)).alloc (.cells #[.int .i64 0, .int .i64 0, .int .i64 0, .int .i64 0, .int .i64 0, .int .i64 0, .int .i64 0] 37)) from bAl (bAl (Below.refl _ _) (Nat.le_refl _) _) (Nat.le_refl _) _)
  have X0 := (base.Bx.zero w).keep (Below.heap_alloc (w.alloc (.cells #[.int .i64 0, .int .i64 0, .int .i64 0, .int .i64 0, .int .i64 0, .int .i64 0, .int .i64 0] 37)) (.cells #[.int .i64 0, .int .i64 0, .int .i64 0, .int .i64 0, .int .i64 0, .int .i64 0, .int .i64 0] 37) w.heap.size (by simp))
  have Y0 := base.Bx.zero (w.alloc (.cells #[.int .i64 0, .int .i64 0, .int .i64 0, .int .i64 0, .int .i64 0, .int .i64 0, .int .i64 0] 37))
  have z0 : ((w.alloc (.cells #[.int .i64 0, .int .i64 0, .int .i64 0, .int .i64 0, .int .i64 0, .int .i64 0, .int .i64 0] 37)).alloc (.cells #[.int .i64 0, .int .i64 0, .int .i64 0, .int .i64 0, .int .i64 0, .int .i64 0, .int .i64 0] 37)).heap.size = w.heap.size + 1 + 1 := by simp only [sz_al]
  simp only [sz_al] at Y0
  clear r hm
  obtain ⟨n, hnz⟩ : ∃ n, n = p.length := ⟨_, rfl⟩
  rw [← hnz] at hn e1 m1 ⊢
  have HNZ := Lib.hid hnz
  clear hnz
  go_enter Try.func50, Try.ntmps50
  go_wp2_with fail
  generalize (w.alloc (.cells #[.int .i64 0, .int .i64 0, .int .i64 0, .int .i64 0, .int .i64 0, .int .i64 0, .int .i64 0] 37)).alloc (.cells #[.int .i64 0, .int .i64 0, .int .i64 0, .int .i64 0, .int .i64 0, .int .i64 0, .int .i64 0] 37) = W0 at B0 X0 Y0 z0 ⊢
  rcases Nat.eq_zero_or_pos n with rfl | hp
  · clear e1
    go_loop [4] (fun i => i = .int .i64 0) (fun _ => 0)
    case atStart => exact rfl
    case round =>
      obtain rfl := hrel
      obtain ⟨t, ht⟩ : ∃ t, t = zz := ⟨_, rfl⟩
      rw [← ht] at Y0
      have HT := Lib.hid ht
      clear ht
      have S := base.st7_at X0.at_ t
      have SB := Lib.hid (base.st7_below B0.out (Nat.le_refl w.heap.size) t)
      obtain ⟨v0, v1, v2, v3, v4, v5, v6⟩ := Y0.at_
      obtain ⟨a0, a1, a2, a3, a4, a5, a6⟩ := X0.at_
      have f0 := X0.free 0
      have f1 := X0.free 1
      have f2 := X0.free 2
      have f3 := X0.free 3
      have f4 := X0.free 4
      have f5 := X0.free 5
      have f6 := X0.free 6
      simp only [zz, Nat.zero_add] at v0 v1 v2 v3 v4 v5 v6 a0 a1 a2 a3 a4 a5 a6
      go_wp2
      change bodyPost _ _ _ _ _ (base.st7 W0 w.heap.size t)
      generalize base.st7 W0 w.heap.size t = W9 at S SB ⊢
      obtain ⟨c0, c1, c2, c3, c4, c5, c6⟩ := S
      simp only [Nat.zero_add] at c0 c1 c2 c3 c4 c5 c6
      exact bodyPost_ret (v := .agg #[.int .i64 t.1, .int .i64 t.2.1, .int .i64 t.2.2.1, .int .i64 t.2.2.2.1, .int .i64 t.2.2.2.2.1, .int .i64 t.2.2.2.2.2.1, .int .i64 t.2.2.2.2.2.2]) (by simp [results, Try.results50, go_sem, c0, c1, c2, c3, c4, c5, c6]) rfl ⟨by rw [HT.out]; rfl, SB.out⟩
  · obtain rfl := e1 hp
    clear e1
    go_loopw [4] (fun i wr => Below w.heap.size w wr ∧ w.heap.size + 1 < wr.heap.size ∧ base.Bx wr w.heap.size zz ∧ ∃ k : Nat, k ≤ n ∧ i = .int .i64 k ∧ base.Bx wr (w.heap.size + 1) (ord.ps p k)) (fun i _ => n - (intOf i).toNat)
    case atStart => exact ⟨B0.out, by omega, X0, 0, by omega, rfl, Y0⟩
    case round =>
      obtain ⟨hB, hsz, hX, k, hk, rfl, hY⟩ := hrel
      have BB := Lib.hid hB
      clear X0 Y0 z0
      by_cases hlt : k < n
      · have XX := Lib.hid hX
        have YY := Lib.hid hY
        have HLT := Lib.hid (show k < p.length from by rw [← HNZ.out]; exact hlt)
        have q1 := (R.out.below hB).cells k HLT.out
        have CS := Lib.hid (fun W (hb : Below w.heap.size w W) => base.smS W _ _ _ (nth p k) ((R.out.below hb).rows k HLT.out) (HM.out k HLT.out))
        have PS := ord.ps_sin p k
        have TS := ord.sums_sin (nth p k)
        have NX : ord.ps p (k + 1) = pl.add (ord.ps p k) (pl.sums (nth p k)) := rfl
        obtain ⟨T, hT⟩ : ∃ T, T = pl.sums (nth p k) := ⟨_, rfl⟩
        rw [← hT] at CS NX TS
        clear hT
        obtain ⟨S, hS⟩ : ∃ S, S = ord.ps p k := ⟨_, rfl⟩
        rw [← hS] at NX YY PS
        obtain ⟨S0, S1, S2, S3, S4, S5, S6⟩ := S
        obtain ⟨T0, T1, T2, T3, T4, T5, T6⟩ := T
        obtain ⟨d0, a1, a2, a3, a4, a5, a6, a7, a8, a9, b0, b1, b2⟩ := PS
        obtain ⟨-, g1, g2, g3, g4, g5, g6, g7, g8, g9, h0, h1, h2⟩ := TS
        unfold pl.add at NX
        dsimp only at d0 a1 a2 a3 a4 a5 a6 a7 a8 a9 b0 b1 b2 g1 g2 g3 g4 g5 g6 g7 g8 g9 h0 h1 h2 NX CS
        subst d0
        replace a2 : S1 ≤ 200000000000000 := by omega
        replace a4 : S2 ≤ 200000000000000 := by omega
        replace a6 : S3 ≤ 200000000000000 := by omega
        replace g2 : T1 ≤ 24000000000000 := by omega
        replace g4 : T2 ≤ 24000000000000 := by omega
        replace g6 : T3 ≤ 24000000000000 := by omega
        have NX := Lib.hid NX
        clear hS hB hX hY
        generalize (nth p k).length = ln at q1 CS
        generalize gs k = gk at q1 CS
        generalize cs k = ck at q1 CS
        have z1 : (k : Int) < (n : Int) := by omega
        have v1 : decide (k < n) = true := by simp; omega
        go_wp2_with fail
        refine (CS.out _ BB.out).mono ?_
        rintro e w1 ⟨rfl, b1'⟩
        have B1 := Lib.hid (BB.out.trans (b1'.mono BB.out.size))
        have z1' := b1'.size
        have X1 := Lib.hid (XX.out.keep (b1'.block w.heap.size (by omega)))
        have Y1 := Lib.hid (YY.out.keep (b1'.block (w.heap.size + 1) hsz))
        have lw : w.heap.size + 1 < w1.heap.size := by omega
        obtain ⟨y0, y1, y2, y3, y4, y5, y6⟩ := Y1.out.at_
        have f0 := Y1.out.free 0
        have f1 := Y1.out.free 1
        have f2 := Y1.out.free 2
        have f3 := Y1.out.free 3
        have f4 := Y1.out.free 4
        have f5 := Y1.out.free 5
        have f6 := Y1.out.free 6
        simp only [Nat.zero_add] at y0 y1 y2 y3 y4 y5 y6
        clear b1'
        go_wp2
        go_roundw
        case rel =>
          have YS := base.st7_at Y1.out.at_ (0, S1 + T1, S2 + T2, S3 + T3, S4 + T4, S5 + T5, S6 + T6)
          have YF : ∀ i, (base.st7 w1 (w.heap.size + 1) (0, S1 + T1, S2 + T2, S3 + T3, S4 + T4, S5 + T5, S6 + T6)).frozen? ⟨w.heap.size + 1, i, none⟩ = false := fun i => by unfold base.st7; simp only [World.frozen?_setCell]; exact Y1.out.free i
          have YB := base.st7_below B1.out (show w.heap.size ≤ w.heap.size + 1 by omega) (0, S1 + T1, S2 + T2, S3 + T3, S4 + T4, S5 + T5, S6 + T6)
          have YT := base.st7_turned (base.Turned.refl (w.heap.size + 1) w1) (0, S1 + T1, S2 + T2, S3 + T3, S4 + T4, S5 + T5, S6 + T6)
          have YX := X1.out.keep (YT.2 w.heap.size (by omega) (by omega))
          show (fun W => Below w.heap.size w W ∧ w.heap.size + 1 < W.heap.size ∧ base.Bx W w.heap.size zz ∧ ∃ k1 : Nat, k1 ≤ n ∧ Value.int IntKind.i64 ((k : Int) + 1) = .int .i64 k1 ∧ base.Bx W (w.heap.size + 1) (ord.ps p k1)) ((base.st7 w1 (w.heap.size + 1) (0, S1 + T1, S2 + T2, S3 + T3, S4 + T4, S5 + T5, S6 + T6)).alloc (.cells #[.int .i64 T0, .int .i64 T1, .int .i64 T2, .int .i64 T3, .int .i64 T4, .int .i64 T5, .int .i64 T6] 37))
          have YZ := YT.1.size
          generalize base.st7 w1 (w.heap.size + 1) (0, S1 + T1, S2 + T2, S3 + T3, S4 + T4, S5 + T5, S6 + T6) = W5 at YS YF YB YX YZ ⊢
          have YS' := Lib.hid (show base.Bx W5 (w.heap.size + 1) (ord.ps p (k + 1)) from by rw [NX.out]; exact ⟨YS, YF⟩)
          have L5 := YS.lt
          dsimp only
          clear YS YF
          refine ⟨YB.alloc YB.size _, ?_, ?_, k + 1, by omega, by go_num, ?_⟩
          · rw [sz_al]; omega
          · exact YX.keep (Below.heap_alloc _ _ _ (by omega))
          · exact YS'.out.keep (Below.heap_alloc _ _ _ L5)
        case measure => simp [intOf]; omega
      · have u1 : decide (k < n) = false := by simp; omega
        obtain rfl : k = n := by omega
        obtain ⟨t, ht⟩ : ∃ t, t = ord.ps p k := ⟨_, rfl⟩
        rw [← ht] at hY
        have HT := Lib.hid ht
        clear ht hB
        have S := base.st7_at hX.at_ t
        have SB := Lib.hid (base.st7_below BB.out (Nat.le_refl w.heap.size) t)
        obtain ⟨v0, v1, v2, v3, v4, v5, v6⟩ := hY.at_
        obtain ⟨a0, a1, a2, a3, a4, a5, a6⟩ := hX.at_
        have f0 := hX.free 0
        have f1 := hX.free 1
        have f2 := hX.free 2
        have f3 := hX.free 3
        have f4 := hX.free 4
        have f5 := hX.free 5
        have f6 := hX.free 6
        simp only [zz, Nat.zero_add] at v0 v1 v2 v3 v4 v5 v6 a0 a1 a2 a3 a4 a5 a6
        go_wp2
        change bodyPost _ _ _ _ _ (base.st7 wr w.heap.size t)
        generalize base.st7 wr w.heap.size t = W9 at S SB ⊢
        obtain ⟨c0, c1, c2, c3, c4, c5, c6⟩ := S
        simp only [Nat.zero_add] at c0 c1 c2 c3 c4 c5 c6
        exact bodyPost_ret (v := .agg #[.int .i64 t.1, .int .i64 t.2.1, .int .i64 t.2.2.1, .int .i64 t.2.2.2.1, .int .i64 t.2.2.2.2.1, .int .i64 t.2.2.2.2.2.1, .int .i64 t.2.2.2.2.2.2]) (by simp [results, Try.results50, go_sem, c0, c1, c2, c3, c4, c5, c6]) rfl ⟨by rw [HT.out], SB.out⟩
end Go.Proofs.Ytmaejlfjdkkpdaa.ob
