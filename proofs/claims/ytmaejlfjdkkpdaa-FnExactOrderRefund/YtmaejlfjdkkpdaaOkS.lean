/-
  Plain helpers of this seat's proofs: the contract of the model's OrderOk. Conditions: none.
-/
import Derived.Test.YtmaejlfjdkkpdaaSmI
import Derived.Test.YtmaejlfjdkkpdaaPkS
import Derived.Test.YtmaejlfjdkkpdaaSi
import Derived.Test.YtmaejlfjdkkpdaaBxs
import Derived.Test.YtmaejlfjdkkpdaaOk6
import Derived.Test.YtmaejlfjdkkpdaaVaS1
import Derived.Test.YtmaejlfjdkkpdaaVaS2
import Derived.StillTailTactics
import Derived.Deep.RegionHeld3
namespace Go.Proofs.Ytmaejlfjdkkpdaa.base
open Go.ChangeShapes Go.WideShapes Go.ChangeAt Go.RowKit
open seven (F7 zz Row At)
open pl (inR prOk pok)
open gen
set_option maxRecDepth 40000 in
set_option maxHeartbeats 4000000 in
theorem smS (w : World) (a : Option Addr) (cap g : Nat) (l : List F7) (r : Row w a cap g l) (hn : l.length ≤ 1048577) : Calls Try.prog 83 #[.slice a l.length cap] w (fun e w' => e = .returned (.agg #[.int .i64 (pl.sums l).1, .int .i64 (pl.sums l).2.1, .int .i64 (pl.sums l).2.2.1, .int .i64 (pl.sums l).2.2.2.1, .int .i64 (pl.sums l).2.2.2.2.1, .int .i64 (pl.sums l).2.2.2.2.2.1, .int .i64 (pl.sums l).2.2.2.2.2.2]) ∧ Below w.heap.size w w') := by
  obtain ⟨T, hT⟩ : ∃ T, T = pl.sums l := ⟨_, rfl⟩
  rw [← hT]
  have HT := Lib.hid hT
  clear hT
  have e1 := r.addr
  have m1 := r.room
  obtain ⟨W0, hW0⟩ : ∃ W0, W0 = (w.alloc (.cells #[.int .i64 0, .int .i64 0, .int .i64 0, .int .i64 0, .int .i64 0, .int .i64 0, .int .i64 0] 37)).alloc (.cells #[.int .i64 0, .int .i64 0, .int .i64 0, .int .i64 0, .int .i64 0, .int .i64 0, .int .i64 0] 37) := ⟨_, rfl⟩
  have b1 : Below w.heap.size w (w.alloc (.cells #[.int .i64 0, .int .i64 0, .int .i64 0, .int .i64 0, .int .i64 0, .int .i64 0, .int .i64 0] 37)) := (Below.refl w.heap.size w).alloc (Nat.le_refl _) _
  have b0 : Below w.heap.size w W0 := by rw [hW0]; exact b1.alloc b1.size _
  have R := Lib.hid (r.keep (w' := W0) fun h => b0.block g (r.lt h))
  have GL := Lib.hid (fun h : 0 < l.length => r.lt h)
  have B0 := Lib.hid b0
  have X0 := Lib.hid (show Bx W0 w.heap.size zz from by rw [hW0]; exact (Bx.zero w).keep (Below.heap_alloc _ _ _ (by simp)))
  have Y0 := Lib.hid (show Bx W0 (w.heap.size + 1) zz from by rw [hW0]; have := Bx.zero (w.alloc (.cells #[.int .i64 0, .int .i64 0, .int .i64 0, .int .i64 0, .int .i64 0, .int .i64 0, .int .i64 0] 37)); simp only [World.size_alloc] at this; exact this)
  have sz0 : W0.heap.size = w.heap.size + 2 := by rw [hW0]; simp
  have CC := Lib.hid (fun wr (h : Row wr a cap g l) => pkS wr a cap g l h hn)
  clear r b0 b1
  obtain ⟨n, hnz⟩ : ∃ n, n = l.length := ⟨_, rfl⟩
  rw [← hnz] at hn e1 m1 CC ⊢
  have HNZ := Lib.hid hnz
  clear hnz
  go_enter Try.func83, Try.ntmps83
  go_wp2_with fail
  rw [← hW0]
  clear hW0
  obtain ⟨rb, hrb⟩ : ∃ rb, rb = w.heap.size := ⟨_, rfl⟩
  obtain ⟨sb, hsb⟩ : ∃ sb, sb = w.heap.size + 1 := ⟨_, rfl⟩
  rw [← hrb] at X0
  rw [← hsb] at Y0
  try rw [← hsb]
  try rw [← hrb]
  have HRB := Lib.hid (Nat.le_of_eq hrb.symm)
  have nrs : rb ≠ sb := by omega
  have wsb : w.heap.size ≤ sb := by omega
  have GN := Lib.hid (show 0 < l.length → g ≠ sb ∧ g ≠ rb from fun h => by have := GL.out h; omega)
  clear hrb hsb
  rcases Nat.eq_zero_or_pos n with rfl | hp
  · have TZ := Lib.hid (show T = zz from by
      have hv : pl.pv l = true := pl.pv_t ⟨by rw [← HNZ.out]; omega, fun i hi => absurd hi (by rw [← HNZ.out]; omega)⟩
      rw [HT.out, pl.sums_t hv, ← HNZ.out]; rfl)
    clear e1
    obtain ⟨y0, y1, y2, y3, y4, y5, y6⟩ := X0.out.at_
    simp only [Nat.zero_add] at y0 y1 y2 y3 y4 y5 y6
    have f0 := X0.out.free 0
    have f1 := X0.out.free 1
    have f2 := X0.out.free 2
    have f3 := X0.out.free 3
    have f4 := X0.out.free 4
    have f5 := X0.out.free 5
    have f6 := X0.out.free 6
    obtain ⟨v0, v1, v2, v3, v4, v5, v6⟩ := Y0.out.at_
    simp only [Nat.zero_add] at v0 v1 v2 v3 v4 v5 v6
    simp only [zz] at v0 v1 v2 v3 v4 v5 v6
    have S := st7_at X0.out.at_ zz
    have SB := Lib.hid (st7_below B0.out HRB.out zz)
    go_loop [4] (fun i => i = .int .i64 0) (fun _ => 0)
    case atStart => exact rfl
    case round =>
      obtain rfl := hrel
      go_wp2
      change bodyPost _ _ _ _ _ (st7 W0 rb zz)
      generalize st7 W0 rb zz = W9 at S SB ⊢
      obtain ⟨c0, c1, c2, c3, c4, c5, c6⟩ := S
      simp only [zz, Nat.zero_add] at c0 c1 c2 c3 c4 c5 c6
      refine bodyPost_ret (v := .agg #[.int .i64 0, .int .i64 0, .int .i64 0, .int .i64 0, .int .i64 0, .int .i64 0, .int .i64 0]) (by simp [results, Try.results83, go_sem, c0, c1, c2, c3, c4, c5, c6]) rfl ⟨by rw [TZ.out]; try rfl, SB.out⟩
  · obtain rfl := e1 hp
    clear e1
    go_loopw [4] (fun i wr => Below w.heap.size w wr ∧ sb < wr.heap.size ∧ Row wr (some ⟨g, 0, none⟩) cap g l ∧ Bx wr rb zz ∧ ∃ k : Nat, k ≤ n ∧ i = .int .i64 k ∧ (0 < k → pl.pv l = true) ∧ Bx wr sb (pl.sumTo l k)) (fun i _ => n - (intOf i).toNat)
    case atStart => exact ⟨B0.out, Y0.out.at_.lt, R.out, X0.out, 0, by omega, rfl, fun h => by omega, Y0.out⟩
    case round =>
      obtain ⟨hB, hsz, hR, hX, k, hk, rfl, hpv, hY⟩ := hrel
      have BB := Lib.hid hB
      have RR := Lib.hid hR
      have XX := Lib.hid hX
      have YY := Lib.hid hY
      have HPV := Lib.hid hpv
      clear B0 R X0 Y0 sz0 hB hR hX hY hpv
      by_cases hlt : k < n
      · have HLT := Lib.hid (show k < l.length from by rw [← HNZ.out]; exact hlt)
        have z1 : (k : Int) < (n : Int) := by omega
        have u1 : decide (k < n) = true := by simp; omega
        have C := Lib.hid (CC.out wr RR.out)
        cases hv : pl.pv l with
        | false =>
          rw [hv] at C
          have k0 : k = 0 := by
            rcases Nat.eq_zero_or_pos k with h | h
            · exact h
            · have := HPV.out h; rw [hv] at this; cases this
          subst k0
          have TZ := Lib.hid (show T = zz from HT.out.trans (pl.sums_f hv))
          go_wp2_with fail
          refine C.out.mono ?_
          rintro e w1 ⟨rfl, b1⟩
          have X1 := Lib.hid (XX.out.keep (b1.block rb XX.out.at_.lt))
          have Y1 := Lib.hid (YY.out.keep (b1.block sb YY.out.at_.lt))
          have B1 := Lib.hid (BB.out.trans (b1.mono BB.out.size))
          clear b1 hv
          obtain ⟨y0, y1, y2, y3, y4, y5, y6⟩ := X1.out.at_
          simp only [Nat.zero_add] at y0 y1 y2 y3 y4 y5 y6
          have f0 := X1.out.free 0
          have f1 := X1.out.free 1
          have f2 := X1.out.free 2
          have f3 := X1.out.free 3
          have f4 := X1.out.free 4
          have f5 := X1.out.free 5
          have f6 := X1.out.free 6
          obtain ⟨v0, v1, v2, v3, v4, v5, v6⟩ := Y1.out.at_
          simp only [Nat.zero_add] at v0 v1 v2 v3 v4 v5 v6
          simp only [pl.sumTo, zz] at v0 v1 v2 v3 v4 v5 v6
          have S := st7_at X1.out.at_ zz
          have SB := Lib.hid (st7_below B1.out HRB.out zz)
          go_wp2
          change bodyPost _ _ _ _ _ (st7 w1 rb zz)
          generalize st7 w1 rb zz = W9 at S SB ⊢
          obtain ⟨c0, c1, c2, c3, c4, c5, c6⟩ := S
          simp only [zz, Nat.zero_add] at c0 c1 c2 c3 c4 c5 c6
          refine bodyPost_ret (v := .agg #[.int .i64 0, .int .i64 0, .int .i64 0, .int .i64 0, .int .i64 0, .int .i64 0, .int .i64 0]) (by simp [results, Try.results83, go_sem, c0, c1, c2, c3, c4, c5, c6]) rfl ⟨by rw [TZ.out]; try rfl, SB.out⟩
        | true =>
          rw [hv] at C
          have PVH := Lib.hid (pl.pv_iff.1 hv)
          have HV := Lib.hid hv
          clear hv
          have ngs := (GN.out (by rw [← HNZ.out]; exact hp)).1
          have ngr := (GN.out (by rw [← HNZ.out]; exact hp)).2
          have hn24 : n ≤ 24 := by rw [HNZ.out]; exact PVH.out.1
          go_wp2_with fail
          refine C.out.mono ?_
          rintro e W0 ⟨rfl, b1⟩
          have glt := RR.out.lt (by rw [← HNZ.out]; exact hp)
          have R1 := Lib.hid (RR.out.keep fun _ => b1.block g glt)
          have X1 := Lib.hid (XX.out.keep (b1.block rb XX.out.at_.lt))
          have A0 := YY.out.keep (b1.block sb YY.out.at_.lt)
          have B1 := Lib.hid (BB.out.trans (b1.mono BB.out.size))
          have SI := pl.sin PVH.out (k := k) (by rw [← HNZ.out]; omega)
          have PX := PVH.out.pin HLT.out
          have Q0 := R1.out.cells k HLT.out
          have T0 := Lib.hid (Turned.refl sb W0)
          obtain ⟨S, hS⟩ : ∃ S, S = pl.sumTo l k := ⟨_, rfl⟩
          obtain ⟨x, hx⟩ : ∃ x, x = l.getD k zz := ⟨_, rfl⟩
          rw [← hS] at A0 SI
          rw [← hx] at Q0 PX
          have HS := Lib.hid hS
          have HX := Lib.hid hx
          clear hS hx b1 C RR XX YY BB
          obtain ⟨s0, s1, s2, s3, s4, s5, s6⟩ := S
          obtain ⟨x0, x1, x2, x3, x4, x5, x6⟩ := x
          obtain ⟨_, v1, v2, v3, v4, v5, v6, v7, v8, v9, v10, v11, v12⟩ := SI
          obtain ⟨_, _, t1, t2, t3, t4, t5, t6, t7, t8, t9, t10, t11, t12⟩ := PX
          replace v2 : s1 ≤ 1000000000000000 := by dsimp only at v2; omega
          replace v4 : s2 ≤ 1000000000000000 := by dsimp only at v4; omega
          replace v6 : s3 ≤ 1000000000000000 := by dsimp only at v6; omega
          dsimp only at v1 v2 v3 v4 v5 v6 v7 v8 v9 v10 v11 v12 t1 t2 t3 t4 t5 t6 t7 t8 t9 t10 t11 t12
          go_wp2_with fail
          have p1 := A0.at_.c1
          have q1 := Q0.c1
          have f1 := A0.free 1
          simp only [Nat.zero_add] at p1
          go_still_tail 9, (by kernel_rfl)
          change wpList _ _ _ _ _ W0.drew
          have T1 := Lib.hid ((T0.out.set 1 (.int .i64 (s1 + x1))).drew)
          have A1 : Bx (W0.setCell ⟨sb, 1, none⟩ (.int .i64 (s1 + x1))).drew sb (s0, s1 + x1, s2, s3, s4, s5, s6) := ⟨(setAt1 A0.at_ _).keep rfl, fun i => (World.frozen?_setCell W0 _ _ _).trans (A0.free i)⟩
          have Q1 : At (W0.setCell ⟨sb, 1, none⟩ (.int .i64 (s1 + x1))).drew g (k * 7) (x0, x1, x2, x3, x4, x5, x6) := Q0.keep (Below.heap_setCell W0 ⟨sb, 1, none⟩ _ _ ngs)
          replace f1 : W0.drew.frozen? ⟨sb, 1, none⟩ = false := f1
          replace p1 : W0.drew.cell? ⟨sb, 1, none⟩ = some (.int .i64 s1) := p1
          clear q1
          go_wp2_with fail
          generalize (W0.setCell ⟨sb, 1, none⟩ (.int .i64 (s1 + x1))).drew = W1 at T1 A1 Q1 ⊢
          clear p1 f1 T0 A0 Q0
          have p2 := A1.at_.c2
          have q2 := Q1.c2
          have f2 := A1.free 2
          simp only [Nat.zero_add] at p2
          go_still_tail 9, (by kernel_rfl)
          change wpList _ _ _ _ _ W1.drew
          have T2 := Lib.hid ((T1.out.set 2 (.int .i64 (s2 + x2))).drew)
          have A2 : Bx (W1.setCell ⟨sb, 2, none⟩ (.int .i64 (s2 + x2))).drew sb (s0, s1 + x1, s2 + x2, s3, s4, s5, s6) := ⟨(setAt2 A1.at_ _).keep rfl, fun i => (World.frozen?_setCell W1 _ _ _).trans (A1.free i)⟩
          have Q2 : At (W1.setCell ⟨sb, 2, none⟩ (.int .i64 (s2 + x2))).drew g (k * 7) (x0, x1, x2, x3, x4, x5, x6) := Q1.keep (Below.heap_setCell W1 ⟨sb, 2, none⟩ _ _ ngs)
          replace f2 : W1.drew.frozen? ⟨sb, 2, none⟩ = false := f2
          replace p2 : W1.drew.cell? ⟨sb, 2, none⟩ = some (.int .i64 s2) := p2
          clear q2
          go_wp2_with fail
          generalize (W1.setCell ⟨sb, 2, none⟩ (.int .i64 (s2 + x2))).drew = W2 at T2 A2 Q2 ⊢
          clear p2 f2 T1 A1 Q1
          have p3 := A2.at_.c3
          have q3 := Q2.c3
          have f3 := A2.free 3
          simp only [Nat.zero_add] at p3
          go_still_tail 9, (by kernel_rfl)
          change wpList _ _ _ _ _ W2.drew
          have T3 := Lib.hid ((T2.out.set 3 (.int .i64 (s3 + x3))).drew)
          have A3 : Bx (W2.setCell ⟨sb, 3, none⟩ (.int .i64 (s3 + x3))).drew sb (s0, s1 + x1, s2 + x2, s3 + x3, s4, s5, s6) := ⟨(setAt3 A2.at_ _).keep rfl, fun i => (World.frozen?_setCell W2 _ _ _).trans (A2.free i)⟩
          have Q3 : At (W2.setCell ⟨sb, 3, none⟩ (.int .i64 (s3 + x3))).drew g (k * 7) (x0, x1, x2, x3, x4, x5, x6) := Q2.keep (Below.heap_setCell W2 ⟨sb, 3, none⟩ _ _ ngs)
          replace f3 : W2.drew.frozen? ⟨sb, 3, none⟩ = false := f3
          replace p3 : W2.drew.cell? ⟨sb, 3, none⟩ = some (.int .i64 s3) := p3
          clear q3
          go_wp2_with fail
          generalize (W2.setCell ⟨sb, 3, none⟩ (.int .i64 (s3 + x3))).drew = W3 at T3 A3 Q3 ⊢
          clear p3 f3 T2 A2 Q2
          have p4 := A3.at_.c4
          have q4 := Q3.c4
          have f4 := A3.free 4
          simp only [Nat.zero_add] at p4
          go_still_tail 9, (by kernel_rfl)
          change wpList _ _ _ _ _ W3.drew
          have T4 := Lib.hid ((T3.out.set 4 (.int .i64 (s4 + x4))).drew)
          have A4 : Bx (W3.setCell ⟨sb, 4, none⟩ (.int .i64 (s4 + x4))).drew sb (s0, s1 + x1, s2 + x2, s3 + x3, s4 + x4, s5, s6) := ⟨(setAt4 A3.at_ _).keep rfl, fun i => (World.frozen?_setCell W3 _ _ _).trans (A3.free i)⟩
          have Q4 : At (W3.setCell ⟨sb, 4, none⟩ (.int .i64 (s4 + x4))).drew g (k * 7) (x0, x1, x2, x3, x4, x5, x6) := Q3.keep (Below.heap_setCell W3 ⟨sb, 4, none⟩ _ _ ngs)
          replace f4 : W3.drew.frozen? ⟨sb, 4, none⟩ = false := f4
          replace p4 : W3.drew.cell? ⟨sb, 4, none⟩ = some (.int .i64 s4) := p4
          clear q4
          go_wp2_with fail
          generalize (W3.setCell ⟨sb, 4, none⟩ (.int .i64 (s4 + x4))).drew = W4 at T4 A4 Q4 ⊢
          clear p4 f4 T3 A3 Q3
          have p5 := A4.at_.c5
          have q5 := Q4.c5
          have f5 := A4.free 5
          simp only [Nat.zero_add] at p5
          go_still_tail 9, (by kernel_rfl)
          change wpList _ _ _ _ _ W4.drew
          have T5 := Lib.hid ((T4.out.set 5 (.int .i64 (s5 + x5))).drew)
          have A5 : Bx (W4.setCell ⟨sb, 5, none⟩ (.int .i64 (s5 + x5))).drew sb (s0, s1 + x1, s2 + x2, s3 + x3, s4 + x4, s5 + x5, s6) := ⟨(setAt5 A4.at_ _).keep rfl, fun i => (World.frozen?_setCell W4 _ _ _).trans (A4.free i)⟩
          have Q5 : At (W4.setCell ⟨sb, 5, none⟩ (.int .i64 (s5 + x5))).drew g (k * 7) (x0, x1, x2, x3, x4, x5, x6) := Q4.keep (Below.heap_setCell W4 ⟨sb, 5, none⟩ _ _ ngs)
          replace f5 : W4.drew.frozen? ⟨sb, 5, none⟩ = false := f5
          replace p5 : W4.drew.cell? ⟨sb, 5, none⟩ = some (.int .i64 s5) := p5
          clear q5
          go_wp2_with fail
          generalize (W4.setCell ⟨sb, 5, none⟩ (.int .i64 (s5 + x5))).drew = W5 at T5 A5 Q5 ⊢
          clear p5 f5 T4 A4 Q4
          have p6 := A5.at_.c6
          have q6 := Q5.c6
          have f6 := A5.free 6
          simp only [Nat.zero_add] at p6
          go_still_tail 9, (by kernel_rfl)
          change wpList _ _ _ _ _ W5.drew
          have T6 := Lib.hid ((T5.out.set 6 (.int .i64 (s6 + x6))).drew)
          have A6 : Bx (W5.setCell ⟨sb, 6, none⟩ (.int .i64 (s6 + x6))).drew sb (s0, s1 + x1, s2 + x2, s3 + x3, s4 + x4, s5 + x5, s6 + x6) := ⟨(setAt6 A5.at_ _).keep rfl, fun i => (World.frozen?_setCell W5 _ _ _).trans (A5.free i)⟩
          have Q6 : At (W5.setCell ⟨sb, 6, none⟩ (.int .i64 (s6 + x6))).drew g (k * 7) (x0, x1, x2, x3, x4, x5, x6) := Q5.keep (Below.heap_setCell W5 ⟨sb, 6, none⟩ _ _ ngs)
          replace f6 : W5.drew.frozen? ⟨sb, 6, none⟩ = false := f6
          replace p6 : W5.drew.cell? ⟨sb, 6, none⟩ = some (.int .i64 s6) := p6
          clear q6
          go_wp2_with fail
          generalize (W5.setCell ⟨sb, 6, none⟩ (.int .i64 (s6 + x6))).drew = W6 at T6 A6 Q6 ⊢
          clear p6 f6 T5 A5 Q5
          go_wp2
          go_roundw
          case rel =>
            have g1 := R1.out.lt (by rw [← HNZ.out]; exact hp)
            refine ⟨B1.out.trans (T6.out.below wsb), Nat.lt_of_lt_of_le A6.at_.lt (Nat.le_refl _), R1.out.keep fun _ => T6.out.2 g ngs g1, X1.out.keep (T6.out.2 rb nrs X1.out.at_.lt), k + 1, by omega, by go_num, fun _ => (by first | exact HV.out | trivial), ?_⟩
            rw [pl.sumTo, ← HS.out, ← HX.out]
            exact A6
          case measure => simp [intOf]; omega
      · have u1 : decide (k < n) = false := by simp; omega
        obtain rfl : k = n := by omega
        obtain ⟨t, ht⟩ : ∃ t, t = pl.sumTo l k := ⟨_, rfl⟩
        rw [← ht] at YY
        have TZ := Lib.hid (show T = t from by rw [HT.out, pl.sums_t (HPV.out hp), ht, ← HNZ.out])
        clear ht
        obtain ⟨y0, y1, y2, y3, y4, y5, y6⟩ := XX.out.at_
        simp only [Nat.zero_add] at y0 y1 y2 y3 y4 y5 y6
        have f0 := XX.out.free 0
        have f1 := XX.out.free 1
        have f2 := XX.out.free 2
        have f3 := XX.out.free 3
        have f4 := XX.out.free 4
        have f5 := XX.out.free 5
        have f6 := XX.out.free 6
        obtain ⟨v0, v1, v2, v3, v4, v5, v6⟩ := YY.out.at_
        simp only [Nat.zero_add] at v0 v1 v2 v3 v4 v5 v6
        have S := st7_at XX.out.at_ t
        have SB := Lib.hid (st7_below BB.out HRB.out t)
        go_wp2
        change bodyPost _ _ _ _ _ (st7 wr rb t)
        generalize st7 wr rb t = W9 at S SB ⊢
        obtain ⟨c0, c1, c2, c3, c4, c5, c6⟩ := S
        simp only [Nat.zero_add] at c0 c1 c2 c3 c4 c5 c6
        refine bodyPost_ret (v := .agg #[.int .i64 t.1, .int .i64 t.2.1, .int .i64 t.2.2.1, .int .i64 t.2.2.2.1, .int .i64 t.2.2.2.2.1, .int .i64 t.2.2.2.2.2.1, .int .i64 t.2.2.2.2.2.2]) (by simp [results, Try.results83, go_sem, c0, c1, c2, c3, c4, c5, c6]) rfl ⟨by rw [TZ.out]; try rfl, SB.out⟩
end Go.Proofs.Ytmaejlfjdkkpdaa.base

namespace Go.Proofs.Ytmaejlfjdkkpdaa.ob
open Go.ChangeShapes Go.WideShapes Go.ChangeAt Go.RowKit
open gen
open seven (F7 zz Row At)
open four (F4)
open pl (inR)
open pls (nth Pls OL)
open ord (Sc iok)
set_option maxRecDepth 40000 in
set_option maxHeartbeats 4000000 in
theorem sumsS (w : World) (ap : Option Addr) (cp gp : Nat) (p : List (List F7)) (gs cs : Nat → Nat) (r : Pls w ap cp gp p gs cs) (hn : p.length ≤ 8) (hm : ∀ i, i < p.length → (nth p i).length ≤ 1048577) :
    Calls Try.prog 50 #[.slice ap p.length cp] w fun e w' => e = .returned (.agg #[.int .i64 (ord.ps p p.length).1, .int .i64 (ord.ps p p.length).2.1, .int .i64 (ord.ps p p.length).2.2.1, .int .i64 (ord.ps p p.length).2.2.2.1, .int .i64 (ord.ps p p.length).2.2.2.2.1, .int .i64 (ord.ps p p.length).2.2.2.2.2.1, .int .i64 (ord.ps p p.length).2.2.2.2.2.2]) ∧ Below w.heap.size w w' := by
  have R := Lib.hid r
  have HM := Lib.hid hm
  have e1 := r.addr
  have m1 := r.room
  have B0 := Lib.hid (show Below w.heap.size w ((w.alloc (.cells #[.int .i64 0, .int .i64 0, .int .i64 0, .int .i64 0, .int .i64 0, .int .i64 0, .int .i64 0] 37)).alloc (.cells #[.int .i64 0, .int .i64 0, .int .i64 0, .int .i64 0, .int .i64 0, .int .i64 0, .int .i64 0] 37)) from bAl (bAl (Below.refl _ _) (Nat.le_refl _) _) (Nat.le_refl _) _)
  have X0 := (base.Bx.zero w).keep (Below.heap_alloc (w.alloc (.cells #[.int .i64 0, .int .i64 0, .int .i64 0, .int .i64 0, .int .i64 0, .int .i64 0, .int .i64 0] 37)) (.cells #[.int .i64 0, .int .i64 0, .int .i64 0, .int .i64 0, .int .i64 0, .int .i64 0, .int .i64 0] 37) w.heap.size (by simp))
  have Y0 := base.Bx.zero (w.alloc (.cells #[.int .i64 0, .int .i64 0, .int .i64 0, .int .i64 0, .int .i64 0, .int .i64 0, .int .i64 0] 37))
  have z0 : ((w.alloc (.cells #[.int .i64 0, .int .i64 0, .int .i64 0, .int .i64 0, .int .i64 0, .int .i64 0, .int .i64 0] 37)).alloc (.cells #[.int .i64 0, .int .i64 0, .int .i64 0, .int .i64 0, .int .i64 0, .int .i64 0, .int .i64 0] 37)).heap.size = w.heap.size + 1 + 1 := by simp only [sz_al]
  simp only [sz_al] at Y0
  clear r hm
  obtain ⟨n, hnz⟩ : ∃ n, n = p.length := ⟨_, rfl⟩
  rw [← hnz] at hn e1 m1 ⊢
  have HNZ := Lib.hid hnz
  clear hnz
  go_enter Try.func50, Try.ntmps50
  go_wp2_with fail
  generalize (w.alloc (.cells #[.int .i64 0, .int .i64 0, .int .i64 0, .int .i64 0, .int .i64 0, .int .i64 0, .int .i64 0] 37)).alloc (.cells #[.int .i64 0, .int .i64 0, .int .i64 0, .int .i64 0, .int .i64 0, .int .i64 0, .int .i64 0] 37) = W0 at B0 X0 Y0 z0 ⊢
  rcases Nat.eq_zero_or_pos n with rfl | hp
  · clear e1
    go_loop [4] (fun i => i = .int .i64 0) (fun _ => 0)
    case atStart => exact rfl
    case round =>
      obtain rfl := hrel
      obtain ⟨t, ht⟩ : ∃ t, t = zz := ⟨_, rfl⟩
      rw [← ht] at Y0
      have HT := Lib.hid ht
      clear ht
      have S := base.st7_at X0.at_ t
      have SB := Lib.hid (base.st7_below B0.out (Nat.le_refl w.heap.size) t)
      obtain ⟨v0, v1, v2, v3, v4, v5, v6⟩ := Y0.at_
      obtain ⟨a0, a1, a2, a3, a4, a5, a6⟩ := X0.at_
      have f0 := X0.free 0
      have f1 := X0.free 1
      have f2 := X0.free 2
      have f3 := X0.free 3
      have f4 := X0.free 4
      have f5 := X0.free 5
      have f6 := X0.free 6
      simp only [zz, Nat.zero_add] at v0 v1 v2 v3 v4 v5 v6 a0 a1 a2 a3 a4 a5 a6
      go_wp2
      change bodyPost _ _ _ _ _ (base.st7 W0 w.heap.size t)
      generalize base.st7 W0 w.heap.size t = W9 at S SB ⊢
      obtain ⟨c0, c1, c2, c3, c4, c5, c6⟩ := S
      simp only [Nat.zero_add] at c0 c1 c2 c3 c4 c5 c6
      exact bodyPost_ret (v := .agg #[.int .i64 t.1, .int .i64 t.2.1, .int .i64 t.2.2.1, .int .i64 t.2.2.2.1, .int .i64 t.2.2.2.2.1, .int .i64 t.2.2.2.2.2.1, .int .i64 t.2.2.2.2.2.2]) (by simp [results, Try.results50, go_sem, c0, c1, c2, c3, c4, c5, c6]) rfl ⟨by rw [HT.out]; rfl, SB.out⟩
  · obtain rfl := e1 hp
    clear e1
    go_loopw [4] (fun i wr => Below w.heap.size w wr ∧ w.heap.size + 1 < wr.heap.size ∧ base.Bx wr w.heap.size zz ∧ ∃ k : Nat, k ≤ n ∧ i = .int .i64 k ∧ base.Bx wr (w.heap.size + 1) (ord.ps p k)) (fun i _ => n - (intOf i).toNat)
    case atStart => exact ⟨B0.out, by omega, X0, 0, by omega, rfl, Y0⟩
    case round =>
      obtain ⟨hB, hsz, hX, k, hk, rfl, hY⟩ := hrel
      have BB := Lib.hid hB
      clear X0 Y0 z0
      by_cases hlt : k < n
      · have XX := Lib.hid hX
        have YY := Lib.hid hY
        have HLT := Lib.hid (show k < p.length from by rw [← HNZ.out]; exact hlt)
        have q1 := (R.out.below hB).cells k HLT.out
        have CS := Lib.hid (fun W (hb : Below w.heap.size w W) => base.smS W _ _ _ (nth p k) ((R.out.below hb).rows k HLT.out) (HM.out k HLT.out))
        have PS := ord.ps_sin p k
        have TS := ord.sums_sin (nth p k)
        have NX : ord.ps p (k + 1) = pl.add (ord.ps p k) (pl.sums (nth p k)) := rfl
        obtain ⟨T, hT⟩ : ∃ T, T = pl.sums (nth p k) := ⟨_, rfl⟩
        rw [← hT] at CS NX TS
        clear hT
        obtain ⟨S, hS⟩ : ∃ S, S = ord.ps p k := ⟨_, rfl⟩
        rw [← hS] at NX YY PS
        obtain ⟨S0, S1, S2, S3, S4, S5, S6⟩ := S
        obtain ⟨T0, T1, T2, T3, T4, T5, T6⟩ := T
        obtain ⟨d0, a1, a2, a3, a4, a5, a6, a7, a8, a9, b0, b1, b2⟩ := PS
        obtain ⟨-, g1, g2, g3, g4, g5, g6, g7, g8, g9, h0, h1, h2⟩ := TS
        unfold pl.add at NX
        dsimp only at d0 a1 a2 a3 a4 a5 a6 a7 a8 a9 b0 b1 b2 g1 g2 g3 g4 g5 g6 g7 g8 g9 h0 h1 h2 NX CS
        subst d0
        replace a2 : S1 ≤ 200000000000000 := by omega
        replace a4 : S2 ≤ 200000000000000 := by omega
        replace a6 : S3 ≤ 200000000000000 := by omega
        replace g2 : T1 ≤ 24000000000000 := by omega
        replace g4 : T2 ≤ 24000000000000 := by omega
        replace g6 : T3 ≤ 24000000000000 := by omega
        have NX := Lib.hid NX
        clear hS hB hX hY
        generalize (nth p k).length = ln at q1 CS
        generalize gs k = gk at q1 CS
        generalize cs k = ck at q1 CS
        have z1 : (k : Int) < (n : Int) := by omega
        have v1 : decide (k < n) = true := by simp; omega
        go_wp2_with fail
        refine (CS.out _ BB.out).mono ?_
        rintro e w1 ⟨rfl, b1'⟩
        have B1 := Lib.hid (BB.out.trans (b1'.mono BB.out.size))
        have z1' := b1'.size
        have X1 := Lib.hid (XX.out.keep (b1'.block w.heap.size (by omega)))
        have Y1 := Lib.hid (YY.out.keep (b1'.block (w.heap.size + 1) hsz))
        have lw : w.heap.size + 1 < w1.heap.size := by omega
        obtain ⟨y0, y1, y2, y3, y4, y5, y6⟩ := Y1.out.at_
        have f0 := Y1.out.free 0
        have f1 := Y1.out.free 1
        have f2 := Y1.out.free 2
        have f3 := Y1.out.free 3
        have f4 := Y1.out.free 4
        have f5 := Y1.out.free 5
        have f6 := Y1.out.free 6
        simp only [Nat.zero_add] at y0 y1 y2 y3 y4 y5 y6
        clear b1'
        go_wp2
        go_roundw
        case rel =>
          have YS := base.st7_at Y1.out.at_ (0, S1 + T1, S2 + T2, S3 + T3, S4 + T4, S5 + T5, S6 + T6)
          have YF : ∀ i, (base.st7 w1 (w.heap.size + 1) (0, S1 + T1, S2 + T2, S3 + T3, S4 + T4, S5 + T5, S6 + T6)).frozen? ⟨w.heap.size + 1, i, none⟩ = false := fun i => by unfold base.st7; simp only [World.frozen?_setCell]; exact Y1.out.free i
          have YB := base.st7_below B1.out (show w.heap.size ≤ w.heap.size + 1 by omega) (0, S1 + T1, S2 + T2, S3 + T3, S4 + T4, S5 + T5, S6 + T6)
          have YT := base.st7_turned (base.Turned.refl (w.heap.size + 1) w1) (0, S1 + T1, S2 + T2, S3 + T3, S4 + T4, S5 + T5, S6 + T6)
          have YX := X1.out.keep (YT.2 w.heap.size (by omega) (by omega))
          show (fun W => Below w.heap.size w W ∧ w.heap.size + 1 < W.heap.size ∧ base.Bx W w.heap.size zz ∧ ∃ k1 : Nat, k1 ≤ n ∧ Value.int IntKind.i64 ((k : Int) + 1) = .int .i64 k1 ∧ base.Bx W (w.heap.size + 1) (ord.ps p k1)) ((base.st7 w1 (w.heap.size + 1) (0, S1 + T1, S2 + T2, S3 + T3, S4 + T4, S5 + T5, S6 + T6)).alloc (.cells #[.int .i64 T0, .int .i64 T1, .int .i64 T2, .int .i64 T3, .int .i64 T4, .int .i64 T5, .int .i64 T6] 37))
          have YZ := YT.1.size
          generalize base.st7 w1 (w.heap.size + 1) (0, S1 + T1, S2 + T2, S3 + T3, S4 + T4, S5 + T5, S6 + T6) = W5 at YS YF YB YX YZ ⊢
          have YS' := Lib.hid (show base.Bx W5 (w.heap.size + 1) (ord.ps p (k + 1)) from by rw [NX.out]; exact ⟨YS, YF⟩)
          have L5 := YS.lt
          dsimp only
          clear YS YF
          refine ⟨YB.alloc YB.size _, ?_, ?_, k + 1, by omega, by go_num, ?_⟩
          · rw [sz_al]; omega
          · exact YX.keep (Below.heap_alloc _ _ _ (by omega))
          · exact YS'.out.keep (Below.heap_alloc _ _ _ L5)
        case measure => simp [intOf]; omega
      · have u1 : decide (k < n) = false := by simp; omega
        obtain rfl : k = n := by omega
        obtain ⟨t, ht⟩ : ∃ t, t = ord.ps p k := ⟨_, rfl⟩
        rw [← ht] at hY
        have HT := Lib.hid ht
        clear ht hB
        have S := base.st7_at hX.at_ t
        have SB := Lib.hid (base.st7_below BB.out (Nat.le_refl w.heap.size) t)
        obtain ⟨v0, v1, v2, v3, v4, v5, v6⟩ := hY.at_
        obtain ⟨a0, a1, a2, a3, a4, a5, a6⟩ := hX.at_
        have f0 := hX.free 0
        have f1 := hX.free 1
        have f2 := hX.free 2
        have f3 := hX.free 3
        have f4 := hX.free 4
        have f5 := hX.free 5
        have f6 := hX.free 6
        simp only [zz, Nat.zero_add] at v0 v1 v2 v3 v4 v5 v6 a0 a1 a2 a3 a4 a5 a6
        go_wp2
        change bodyPost _ _ _ _ _ (base.st7 wr w.heap.size t)
        generalize base.st7 wr w.heap.size t = W9 at S SB ⊢
        obtain ⟨c0, c1, c2, c3, c4, c5, c6⟩ := S
        simp only [Nat.zero_add] at c0 c1 c2 c3 c4 c5 c6
        exact bodyPost_ret (v := .agg #[.int .i64 t.1, .int .i64 t.2.1, .int .i64 t.2.2.1, .int .i64 t.2.2.2.1, .int .i64 t.2.2.2.2.1, .int .i64 t.2.2.2.2.2.1, .int .i64 t.2.2.2.2.2.2]) (by simp [results, Try.results50, go_sem, c0, c1, c2, c3, c4, c5, c6]) rfl ⟨by rw [HT.out], SB.out⟩
end Go.Proofs.Ytmaejlfjdkkpdaa.ob

namespace Go.Proofs.Ytmaejlfjdkkpdaa.ob
open Go.ChangeShapes Go.WideShapes Go.ChangeAt Go.RowKit
open gen
open seven (F7 zz Row At)
open four (F4)
open pl (inR)
open pls (nth Pls OL)
open ord (Sc iok)
set_option maxRecDepth 100000 in
set_option maxHeartbeats 16000000 in
theorem okS (w : World) (B : Nat) (s : Sc) (ai : Option Addr) (ci gi : Nat) (l : List F4) (ap : Option Addr) (cp gp : Nat) (p : List (List F7)) (gs cs : Nat → Nat) (h : OL w B l p ai ci gi ap cp gp gs cs) (hl : l.length ≤ 1048576) (hn : p.length ≤ 1048576) (hm : ∀ i, i < p.length → (nth p i).length ≤ 1048577) :
    Calls Try.prog 15 #[.agg #[.int .i64 s.id, .int .i64 s.co, .int .i64 s.me, .int .i64 s.cu, .int .i64 s.da, .int .i64 s.nn, .int .i64 s.ra, .int .i64 s.nu, .int .i64 s.de, .slice ai l.length ci, .slice ap p.length cp, .int .i64 s.op, .int .i64 s.up]] w fun e w' => e = .returned (.bool (ord.ok s l p)) ∧ Below w.heap.size w w' := by
  have B0 := Lib.hid (show Below w.heap.size w (w.alloc (.cells #[.int .i64 s.id, .int .i64 s.co, .int .i64 s.me, .int .i64 s.cu, .int .i64 s.da, .int .i64 s.nn, .int .i64 s.ra, .int .i64 s.nu, .int .i64 s.de, .slice ai l.length ci, .slice ap p.length cp, .int .i64 s.op, .int .i64 s.up] 31)) from bAl (Below.refl _ _) (Nat.le_refl _) _)
  have O0 := OB.new w s ai l.length ci ap p.length cp 31
  have z0 : (w.alloc (.cells #[.int .i64 s.id, .int .i64 s.co, .int .i64 s.me, .int .i64 s.cu, .int .i64 s.da, .int .i64 s.nn, .int .i64 s.ra, .int .i64 s.nu, .int .i64 s.de, .slice ai l.length ci, .slice ap p.length cp, .int .i64 s.op, .int .i64 s.up] 31)).heap.size = w.heap.size + 1 := by simp only [sz_al]
  have L := Lib.hid h
  have ei := h.items.addr
  have ri := h.items.room
  have ep := h.plans.addr
  have rp := h.plans.room
  clear h
  obtain ⟨T, hT⟩ : ∃ T, T = ord.ok s l p := ⟨_, rfl⟩
  rw [← hT]
  have HT := Lib.hid hT
  have HM := Lib.hid hm
  clear hT hm
  have TKE : ord.tok s = (inR s.id 1 999 && inR s.co 1 999 && inR s.me 1 999 && inR s.cu 0 5 && inR s.da 0 100000 && inR s.nn 1 24 && inR s.ra 0 10000 && inR s.nu 1 1000000 && inR s.de 1 1000000 && inR s.op 0 1000000000000 && inR s.up 0 1000000000000) := rfl
  have c0 := idS s.id
  have c1 := idS s.co
  have c2 := idS s.me
  have c3 := curS s.cu
  have c4 := base.dayS s.da
  have c5 := base.inB s.nn 1 24
  have c6 := base.inB s.ra 0 10000
  have c7 := base.inB s.nu 1 1000000
  have c8 := base.inB s.de 1 1000000
  have c9 := base.inB s.op 0 1000000000000
  have c10 := base.inB s.up 0 1000000000000
  generalize inR s.id 1 999 = t0 at c0 TKE
  generalize inR s.co 1 999 = t1 at c1 TKE
  generalize inR s.me 1 999 = t2 at c2 TKE
  generalize inR s.cu 0 5 = t3 at c3 TKE
  generalize inR s.da 0 100000 = t4 at c4 TKE
  generalize inR s.nn 1 24 = t5 at c5 TKE
  generalize inR s.ra 0 10000 = t6 at c6 TKE
  generalize inR s.nu 1 1000000 = t7 at c7 TKE
  generalize inR s.de 1 1000000 = t8 at c8 TKE
  generalize inR s.op 0 1000000000000 = t9 at c9 TKE
  generalize inR s.up 0 1000000000000 = t10 at c10 TKE
  have TK := Lib.hid TKE
  clear TKE
  have C0 := Lib.hid c0
  have C1 := Lib.hid c1
  have C2 := Lib.hid c2
  have C3 := Lib.hid c3
  have C4 := Lib.hid c4
  have C5 := Lib.hid c5
  have C6 := Lib.hid c6
  have C7 := Lib.hid c7
  have C8 := Lib.hid c8
  have C9 := Lib.hid c9
  have C10 := Lib.hid c10
  clear c0 c1 c2 c3 c4 c5 c6 c7 c8 c9 c10
  have Oh := Lib.hid O0
  obtain ⟨y0, y1, y2, y3, y4, y5, y6, y7, y8, y9, y10, y11, y12⟩ := O0
  obtain ⟨n, hnz⟩ : ∃ n, n = l.length := ⟨_, rfl⟩
  obtain ⟨m, hmz⟩ : ∃ m, m = p.length := ⟨_, rfl⟩
  have HNZ := Lib.hid hnz
  have HMZ := Lib.hid hmz
  rw [← hnz] at hl ei ri B0 Oh y0 y1 y2 y3 y4 y5 y6 y7 y8 y9 y10 y11 y12 z0 ⊢
  rw [← hmz] at hn ep rp B0 Oh y0 y1 y2 y3 y4 y5 y6 y7 y8 y9 y10 y11 y12 z0 ⊢
  clear hnz hmz
  have CN := Lib.hid (fun W => base.inB (n : Int) 1 8 W)
  go_enter Try.func15, Try.ntmps15
  go_wp2_with fail
  generalize w.alloc (.cells #[.int .i64 s.id, .int .i64 s.co, .int .i64 s.me, .int .i64 s.cu, .int .i64 s.da, .int .i64 s.nn, .int .i64 s.ra, .int .i64 s.nu, .int .i64 s.de, .slice ai n ci, .slice ap m cp, .int .i64 s.op, .int .i64 s.up] 31) = W0 at B0 Oh y0 y1 y2 y3 y4 y5 y6 y7 y8 y9 y10 y11 y12 z0 ⊢
  refine (C0.out _).mono ?_
  rintro e w' ⟨rfl, rfl⟩
  cases t0
  · skip
    have NO := Lib.hid (show T = false from HT.out.trans (ok_no1 (by rw [TK.out]; simp)))
    go_wp2
    go_ret
    exact ⟨by rw [NO.out]; rfl, B0.out⟩
  · skip
    go_wp2_with fail
    refine (C1.out _).mono ?_
    rintro e w' ⟨rfl, rfl⟩
    cases t1
    · skip
      have NO := Lib.hid (show T = false from HT.out.trans (ok_no1 (by rw [TK.out]; simp)))
      go_wp2
      go_ret
      exact ⟨by rw [NO.out]; rfl, B0.out⟩
    · skip
      go_wp2_with fail
      refine (C2.out _).mono ?_
      rintro e w' ⟨rfl, rfl⟩
      cases t2
      · skip
        have NO := Lib.hid (show T = false from HT.out.trans (ok_no1 (by rw [TK.out]; simp)))
        go_wp2
        go_ret
        exact ⟨by rw [NO.out]; rfl, B0.out⟩
      · skip
        go_wp2_with fail
        refine (C3.out _).mono ?_
        rintro e w' ⟨rfl, rfl⟩
        cases t3
        · skip
          have NO := Lib.hid (show T = false from HT.out.trans (ok_no1 (by rw [TK.out]; simp)))
          go_wp2
          go_ret
          exact ⟨by rw [NO.out]; rfl, B0.out⟩
        · skip
          go_wp2_with fail
          refine (C4.out _).mono ?_
          rintro e w' ⟨rfl, rfl⟩
          cases t4
          · skip
            have NO := Lib.hid (show T = false from HT.out.trans (ok_no1 (by rw [TK.out]; simp)))
            go_wp2
            go_ret
            exact ⟨by rw [NO.out]; rfl, B0.out⟩
          · skip
            go_wp2_with fail
            refine (C5.out _).mono ?_
            rintro e w' ⟨rfl, rfl⟩
            cases t5
            · skip
              have NO := Lib.hid (show T = false from HT.out.trans (ok_no1 (by rw [TK.out]; simp)))
              go_wp2
              go_ret
              exact ⟨by rw [NO.out]; rfl, B0.out⟩
            · skip
              go_wp2_with fail
              refine (C6.out _).mono ?_
              rintro e w' ⟨rfl, rfl⟩
              cases t6
              · skip
                have NO := Lib.hid (show T = false from HT.out.trans (ok_no1 (by rw [TK.out]; simp)))
                go_wp2
                go_ret
                exact ⟨by rw [NO.out]; rfl, B0.out⟩
              · skip
                go_wp2_with fail
                refine (C7.out _).mono ?_
                rintro e w' ⟨rfl, rfl⟩
                cases t7
                · skip
                  have NO := Lib.hid (show T = false from HT.out.trans (ok_no1 (by rw [TK.out]; simp)))
                  go_wp2
                  go_ret
                  exact ⟨by rw [NO.out]; rfl, B0.out⟩
                · skip
                  go_wp2_with fail
                  refine (C8.out _).mono ?_
                  rintro e w' ⟨rfl, rfl⟩
                  cases t8
                  · skip
                    have NO := Lib.hid (show T = false from HT.out.trans (ok_no1 (by rw [TK.out]; simp)))
                    go_wp2
                    go_ret
                    exact ⟨by rw [NO.out]; rfl, B0.out⟩
                  · skip
                    go_wp2_with fail
                    refine (C9.out _).mono ?_
                    rintro e w' ⟨rfl, rfl⟩
                    cases t9
                    · skip
                      have NO := Lib.hid (show T = false from HT.out.trans (ok_no1 (by rw [TK.out]; simp)))
                      go_wp2
                      go_ret
                      exact ⟨by rw [NO.out]; rfl, B0.out⟩
                    · skip
                      go_wp2_with fail
                      refine (C10.out _).mono ?_
                      rintro e w' ⟨rfl, rfl⟩
                      cases t10
                      · skip
                        have NO := Lib.hid (show T = false from HT.out.trans (ok_no1 (by rw [TK.out]; simp)))
                        go_wp2
                        go_ret
                        exact ⟨by rw [NO.out]; rfl, B0.out⟩
                      · skip
                        have TKT := Lib.hid (show ord.tok s = true from by rw [TK.out]; rfl)
                        clear C0 C1 C2 C3 C4 C5 C6 C7 C8 C9 C10 TK
                        go_wp2_with fail
                        refine (CN.out _).mono ?_
                        rintro e w' ⟨rfl, rfl⟩
                        cases tn : inR (n : Int) 1 8
                        · skip
                          have tn2 := pl.inR_not.1 tn
                          have NO := Lib.hid (show T = false from HT.out.trans (ok_no2 (itv_f fun h => by have := h.1; have := h.2.1; have := HNZ.out; omega)))
                          go_wp2
                          go_ret
                          exact ⟨by rw [NO.out]; rfl, B0.out⟩
                        · skip
                          have tn2 := pl.inR_iff.1 tn
                          have n1 : 1 ≤ n := by omega
                          have n8 : n ≤ 8 := by omega
                          clear tn tn2
                          obtain rfl := ei (by omega)
                          clear ei
                          by_cases hm8 : 8 < m
                          · skip
                            have u1 : decide ((8 : Int) < (m : Int)) = true := by simp; omega
                            have u1' : decide (8 < m) = true := by simp; omega
                            have NO := Lib.hid (show T = false from HT.out.trans (ok_no3 (plv_f fun h => by have := h.1; have := HMZ.out; omega)))
                            go_wp2
                            go_ret
                            exact ⟨by rw [NO.out]; rfl, B0.out⟩
                          · skip
                            have u1 : decide ((8 : Int) < (m : Int)) = false := by simp; omega
                            have u1' : decide (8 < m) = false := by simp; omega
                            have m8 : m ≤ 8 := by omega
                            clear hm8
                            clear y0 y1 y2 y3 y4 y5 y6 y7 y8 y11 y12
                            go_wp2_with fail
                            go_loopw [3] (fun i wr => Below W0.heap.size W0 wr ∧ ∃ k : Nat, k ≤ n ∧ i = .int .i64 k ∧ ∀ j, j < k → iok (l.getD j four.zz) = true) (fun i _ => n - (intOf i).toNat)
                            case atStart => exact ⟨Below.refl _ _, 0, by omega, rfl, fun j h => by omega⟩
                            case round =>
                              obtain ⟨hB, k, hk, rfl, hf⟩ := hrel
                              have BB := Lib.hid hB
                              have FF := Lib.hid hf
                              have BW := Lib.hid (B0.out.trans (hB.mono B0.out.size))
                              have OK := Oh.out.keep (hB.block w.heap.size (by omega))
                              have y9 := OK.c9
                              have y10 := OK.c10
                              clear hf OK
                              by_cases hlt : k < n
                              · skip
                                have HLT := Lib.hid (show k < l.length from by rw [← HNZ.out]; exact hlt)
                                have q1 := (L.out.below BW.out).items.cells k HLT.out
                                obtain ⟨x, hx⟩ : ∃ x, x = l.getD k four.zz := ⟨_, rfl⟩
                                have HX := Lib.hid hx
                                rw [← hx] at q1
                                clear hx
                                obtain ⟨x1, x2, x3, x4⟩ := q1
                                have C := fun W => itemS x W
                                obtain ⟨t, ht⟩ : ∃ t, t = iok x := ⟨_, rfl⟩
                                rw [← ht] at C
                                have HP := Lib.hid ht
                                have z1 : (k : Int) < (n : Int) := by omega
                                have v1 : decide (k < n) = true := by simp; omega
                                clear ht hB
                                cases t with
                                | false =>
                                  have NO := Lib.hid (show T = false from HT.out.trans (ok_no2 (itv_f fun h => by have := h.2.2 k HLT.out; rw [← HX.out, ← HP.out] at this; cases this)))
                                  go_wp2_with fail
                                  refine (C _).mono ?_
                                  rintro e w1 ⟨rfl, hg⟩
                                  have G1 := Lib.hid (show Grew _ w1 from hg)
                                  clear hg
                                  go_wp2
                                  go_ret
                                  exact ⟨by rw [NO.out]; rfl, Grew.step BW.out (Nat.le_refl _) G1.out⟩
                                | true =>
                                  go_wp2_with fail
                                  refine (C _).mono ?_
                                  rintro e w1 ⟨rfl, hg⟩
                                  have G1 := Lib.hid (show Grew _ w1 from hg)
                                  clear hg
                                  go_wp2
                                  go_roundw
                                  case rel => exact ⟨Grew.step BB.out (Nat.le_refl _) G1.out, k + 1, by omega, by go_num, fun j hj => by
                                    by_cases e : j = k
                                    · subst e; rw [← HX.out]; exact HP.out.symm
                                    · exact FF.out j (by omega)⟩
                                  case measure => simp [intOf]; omega
                              · skip
                                have v1 : decide (k < n) = false := by simp; omega
                                obtain rfl : k = n := by omega
                                have TI := Lib.hid (show itv l = true from itv_t ⟨by rw [← HNZ.out]; omega, by rw [← HNZ.out]; omega, fun i hi => FF.out i (by rw [HNZ.out]; exact hi)⟩)
                                clear hB
                                go_wp2_with fail
                                go_loopw [4] (fun i wr2 => Below W0.heap.size W0 wr2 ∧ ∃ j : Nat, j ≤ m ∧ i = .int .i64 j ∧ ∀ q, q < j → pl.pv (nth p q) = true) (fun i _ => m - (intOf i).toNat)
                                case atStart => exact ⟨BB.out, 0, by omega, rfl, fun j h => by omega⟩
                                case round =>
                                  obtain ⟨hB2, j, hj, rfl, hf2⟩ := hrel
                                  have BB2 := Lib.hid hB2
                                  have FF2 := Lib.hid hf2
                                  have BW2 := Lib.hid (B0.out.trans (hB2.mono B0.out.size))
                                  have OK2 := Oh.out.keep (hB2.block w.heap.size (by omega))
                                  have y9 := OK2.c9
                                  have y10 := OK2.c10
                                  have y12 := OK2.c12
                                  clear hf2 OK2 v1
                                  by_cases hlt2 : j < m
                                  · skip
                                    have HLT2 := Lib.hid (show j < p.length from by rw [← HMZ.out]; exact hlt2)
                                    obtain rfl := ep (by omega)
                                    clear ep
                                    have q1 := (L.out.below BW2.out).plans.cells j HLT2.out
                                    have C := Lib.hid (fun W (hb : Below w.heap.size w W) => base.pkS W _ _ _ (nth p j) ((L.out.below hb).plans.rows j HLT2.out) (HM.out j HLT2.out))
                                    obtain ⟨t, ht⟩ : ∃ t, t = pl.pv (nth p j) := ⟨_, rfl⟩
                                    rw [← ht] at C
                                    have HP := Lib.hid ht
                                    have z1 : (j : Int) < (m : Int) := by omega
                                    have v1 : decide (j < m) = true := by simp; omega
                                    clear ht hB2
                                    generalize (nth p j).length = ln at q1 C
                                    generalize gs j = gk at q1 C
                                    generalize cs j = ck at q1 C
                                    cases t with
                                    | false =>
                                      have NO := Lib.hid (show T = false from HT.out.trans (ok_no3 (plv_f fun h => by have := h.2 j HLT2.out; rw [show p.getD j [] = nth p j from rfl, ← HP.out] at this; cases this)))
                                      go_wp2_with fail
                                      refine (C.out _ BW2.out).mono ?_
                                      rintro e w1 ⟨rfl, b1⟩
                                      have B1 := Lib.hid (BW2.out.trans (b1.mono BW2.out.size))
                                      clear b1
                                      go_wp2
                                      go_ret
                                      exact ⟨by rw [NO.out]; rfl, B1.out⟩
                                    | true =>
                                      go_wp2_with fail
                                      refine (C.out _ BW2.out).mono ?_
                                      rintro e w1 ⟨rfl, b1⟩
                                      have B1 := Lib.hid (BB2.out.trans (b1.mono BB2.out.size))
                                      clear b1
                                      go_wp2
                                      go_roundw
                                      case rel => exact ⟨B1.out, j + 1, by omega, by go_num, fun q hq => by
                                        by_cases e : q = j
                                        · subst e; exact HP.out.symm
                                        · exact FF2.out q (by omega)⟩
                                      case measure => simp [intOf]; omega
                                  · skip
                                    have v1 : decide (j < m) = false := by simp; omega
                                    obtain rfl : j = m := by omega
                                    have YES := Lib.hid (show T = bal s l p from HT.out.trans (ok_yes TKT.out TI.out (plv_t ⟨by rw [← HMZ.out]; omega, fun i hi => FF2.out i (by rw [HMZ.out]; exact hi)⟩)))
                                    have IVl := (itv_iff.1 TI.out).2.2
                                    have CV1 := Lib.hid (fun W (hb : Below w.heap.size w W) => valS1 W (some ⟨gi, 0, none⟩) ci gi l (L.out.below hb).items IVl (by rw [← HNZ.out]; omega))
                                    have CV2 := Lib.hid (fun W (hb : Below w.heap.size w W) => valS2 W (some ⟨gi, 0, none⟩) ci gi l (L.out.below hb).items IVl (by rw [← HNZ.out]; omega))
                                    have CS := Lib.hid (fun W (hb : Below w.heap.size w W) => sumsS W ap cp gp p gs cs (L.out.below hb).plans (by rw [← HMZ.out]; omega) HM.out)
                                    have SI := ord.sums_in IVl l.length (Nat.le_refl _)
                                    have PS := ord.ps_sin p p.length
                                    rw [vj1] at CV1
                                    rw [vj2] at CV2
                                    unfold bal at YES
                                    obtain ⟨V1, hV1⟩ : ∃ V, V = ord.su ord.vs l l.length := ⟨_, rfl⟩
                                    obtain ⟨V2, hV2⟩ : ∃ V, V = ord.su ord.vr l l.length := ⟨_, rfl⟩
                                    obtain ⟨Q, hQ⟩ : ∃ Q, Q = ord.ps p p.length := ⟨_, rfl⟩
                                    rw [← hV1, ← hV2] at SI
                                    rw [← hV1] at CV1
                                    rw [← hV2] at CV2
                                    rw [← hQ] at CS PS
                                    rw [← hV1, ← hV2, ← hQ] at YES
                                    rw [← HNZ.out] at CV1 CV2 SI
                                    rw [← HMZ.out] at CS PS
                                    clear hV1 hV2 hQ IVl
                                    obtain ⟨U, hU⟩ : ∃ U, U = s.up := ⟨_, rfl⟩
                                    have hu := tok_up TKT.out
                                    rw [← hU] at hu YES y12
                                    have HU := Lib.hid hU
                                    clear hU
                                    obtain ⟨v2, v1', v0, vk⟩ := SI
                                    have vk1 : V1 ≤ 8000000000 := by omega
                                    clear v0 vk
                                    obtain ⟨-, p0, p1, -, -, -, -, -, -, -, -, -, -⟩ := PS
                                    obtain ⟨T0, T1, T2, T3, T4, T5, T6⟩ := Q
                                    dsimp only at p0 p1 CS YES
                                    have p1 : T1 ≤ 192000000000000 := by omega
                                    have BD := Lib.hid BW2.out.drew
                                    have KS := Lib.hid (show ∀ W, Below W0.heap.size W0 W → (W.cell? ⟨w.heap.size, 9, none⟩ = some (.slice (some ⟨gi, 0, none⟩) k ci) ∧ W.cell? ⟨w.heap.size, 10, none⟩ = some (.slice ap j cp) ∧ W.cell? ⟨w.heap.size, 12, none⟩ = some (.int .i64 U)) from fun W hb => ⟨(hb.cell (p := ⟨w.heap.size, 9, none⟩) (show w.heap.size < W0.heap.size by omega)).trans Oh.out.c9, (hb.cell (p := ⟨w.heap.size, 10, none⟩) (show w.heap.size < W0.heap.size by omega)).trans Oh.out.c10, (hb.cell (p := ⟨w.heap.size, 12, none⟩) (show w.heap.size < W0.heap.size by omega)).trans (by rw [Oh.out.c12, HU.out])⟩)
                                    have KD := Lib.hid BB2.out.drew
                                    have fF : ∀ w0, (Instr.field 37 (.agg #[.int .i64 T0, .int .i64 T1, .int .i64 T2, .int .i64 T3, .int .i64 T4, .int .i64 T5, .int .i64 T6]) 1).run Try.prog w0 = .ok (.int .i64 T1) w0 := fun _ => rfl
                                    clear hB2
                                    go_wp2_with fail
                                    go_region_held3 (fun w' => w'.cell? ⟨w.heap.size, 9, none⟩ = some (.slice (some ⟨gi, 0, none⟩) k ci) ∧ w'.cell? ⟨w.heap.size, 10, none⟩ = some (.slice ap j cp) ∧ w'.cell? ⟨w.heap.size, 12, none⟩ = some (.int .i64 U)) (first | exact KS.out _ K5.out | exact KS.out _ K4.out | exact KS.out _ K3.out | exact KS.out _ KD.out | exact KS.out _ BB2.out | go_keep)
                                      (first
                                        | (go_at_call 51; refine (CV2.out w4 B4.out).mono ?_; rintro e w5 ⟨rfl, b'⟩; have B5 := Lib.hid (B4.out.trans (b'.mono B4.out.size)); have K5 := Lib.hid (K4.out.trans (b'.mono K4.out.size)); clear b')
                                        | (go_at_call 51; refine (CV1.out w3 B3.out).mono ?_; rintro e w4 ⟨rfl, b'⟩; have B4 := Lib.hid (B3.out.trans (b'.mono B3.out.size)); have K4 := Lib.hid (K3.out.trans (b'.mono K3.out.size)); clear b')
                                        | (go_at_call 50; refine (CS.out _ BD.out).mono ?_; rintro e w3 ⟨rfl, b'⟩; have B3 := Lib.hid (BD.out.trans (b'.mono BD.out.size)); have K3 := Lib.hid (KD.out.trans (b'.mono KD.out.size)); clear b'))
                                    all_goals
                                      go_wp2
                                      go_ret
                                      exact ⟨show Ending.returned (Value.bool (T1 == IntKind.i64.wrap (IntKind.i64.wrap (V1 - V2) - U))) = _ from by rw [YES.out, show IntKind.i64.wrap (V1 - V2) = V1 - V2 from by rw [IntKind.wrap_i64]; omega, show IntKind.i64.wrap (V1 - V2 - U) = V1 - V2 - U from by rw [IntKind.wrap_i64]; omega], B5.out⟩
end Go.Proofs.Ytmaejlfjdkkpdaa.ob
