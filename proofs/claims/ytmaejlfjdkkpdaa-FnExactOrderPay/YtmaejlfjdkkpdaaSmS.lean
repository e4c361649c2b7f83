/-
  Plain helpers of this seat's proofs: the contract of the model's SumsOf. Conditions: none.
-/
import Derived.Test.YtmaejlfjdkkpdaaSmI
import Derived.Test.YtmaejlfjdkkpdaaPkS
import Derived.StillTailTactics
namespace Go.Proofs.Ytmaejlfjdkkpdaa.base
open Go.ChangeShapes Go.WideShapes Go.ChangeAt Go.RowKit
open seven (F7 zz Row At)
open pl (inR prOk pok)
open gen
set_option maxRecDepth 40000 in
set_option maxHeartbeats 4000000 in
theorem smS (w : World) (a : Option Addr) (cap g : Nat) (l : List F7) (r : Row w a cap g l) (hn : l.length ≤ 1048577) : Calls Try.prog 83 #[.slice a l.length cap] w (fun e w' => e = .returned (.agg #[.int .i64 (pl.sums l).1, .int .i64 (pl.sums l).2.1, .int .i64 (pl.sums l).2.2.1, .int .i64 (pl.sums l).2.2.2.1, .int .i64 (pl.sums l).2.2.2.2.1, .int .i64 (pl.sums l).2.2.2.2.2.1, .int .i64 (pl.sums l).2.2.2.2.2.2]) ∧ Below w.heap.size w w') := by
  obtain ⟨T, hT⟩ : ∃ T, T = pl.sums l := ⟨_, rfl⟩
  rw [← hT]
  have HT := Lib.hid hT
  clear hT
  have e1 := r.addr
  have m1 := r.room
  obtain ⟨W0, hW0⟩ : ∃ W0, W0 = (w.alloc (.cells #[.int .i64 0, .int .i64 0, .int .i64 0, .int .i64 0, .int .i64 0, .int .i64 0, .int .i64 0] 37)).alloc (.cells #[.int .i64 0, .int .i64 0, .int .i64 0, .int .i64 0, .int .i64 0, .int .i64 0, .int .i64 0] 37) := ⟨_, rfl⟩
  have b1 : Below w.heap.size w (w.alloc (.cells #[.int .i64 0, .int .i64 0, .int .i64 0, .int .i64 0, .int .i64 0, .int .i64 0, .int .i64 0] 37)) := (Below.refl w.heap.size w).alloc (Nat.le_refl _) _
  have b0 : Below w.heap.size w W0 := by rw [hW0]; exact b1.alloc b1.size _
  have R := Lib.hid (r.keep (w' := W0) fun h => b0.block g (r.lt h))
  have GL := Lib.hid (fun h : 0 < l.length => r.lt h)
  have B0 := Lib.hid b0
  have X0 := Lib.hid (show Bx W0 w.heap.size zz from by rw [hW0]; exact (Bx.zero w).keep (Below.heap_alloc _ _ _ (by simp)))
  have Y0 := Lib.hid (show Bx W0 (w.heap.size + 1) zz from by rw [hW0]; have := Bx.zero (w.alloc (.cells #[.int .i64 0, .int .i64 0, .int .i64 0, .int .i64 0, .int .i64 0, .int .i64 0, .int .i64 0] 37)); simp only [World.size_alloc] at this; exact this)
  have sz0 : W0.heap.size = w.heap.size + 2 := by rw [hW0]; simp
  have CC := Lib.hid (fun wr (h : Row wr a cap g l) => pkS wr a cap g l h hn)
  clear r b0 b1
  obtain ⟨n, hnz⟩ : ∃ n, n = l.length := ⟨_, rfl⟩
  rw [← hnz] at hn e1 m1 CC ⊢
  have HNZ := Lib.hid hnz
  clear hnz
  go_enter Try.func83, Try.ntmps83
  go_wp2_with fail
  rw [← hW0]
  clear hW0
  obtain ⟨rb, hrb⟩ : ∃ rb, rb = w.heap.size := ⟨_, rfl⟩
  obtain ⟨sb, hsb⟩ : ∃ sb, sb = w.heap.size + 1 := ⟨_, rfl⟩
  rw [← hrb] at X0
  rw [← hsb] at Y0
  try rw [← hsb]
  try rw [← hrb]
  have HRB := Lib.hid (Nat.le_of_eq hrb.symm)
  have nrs : rb ≠ sb := by omega
  have wsb : w.heap.size ≤ sb := by omega
  have GN := Lib.hid (show 0 < l.length → g ≠ sb ∧ g ≠ rb from fun h => by have := GL.out h; omega)
  clear hrb hsb
  rcases Nat.eq_zero_or_pos n with rfl | hp
  · have TZ := Lib.hid (show T = zz from by
      have hv : pl.pv l = true := pl.pv_t ⟨by rw [← HNZ.out]; omega, fun i hi => absurd hi (by rw [← HNZ.out]; omega)⟩
      rw [HT.out, pl.sums_t hv, ← HNZ.out]; rfl)
    clear e1
    obtain ⟨y0, y1, y2, y3, y4, y5, y6⟩ := X0.out.at_
    simp only [Nat.zero_add] at y0 y1 y2 y3 y4 y5 y6
    have f0 := X0.out.free 0
    have f1 := X0.out.free 1
    have f2 := X0.out.free 2
    have f3 := X0.out.free 3
    have f4 := X0.out.free 4
    have f5 := X0.out.free 5
    have f6 := X0.out.free 6
    obtain ⟨v0, v1, v2, v3, v4, v5, v6⟩ := Y0.out.at_
    simp only [Nat.zero_add] at v0 v1 v2 v3 v4 v5 v6
    simp only [zz] at v0 v1 v2 v3 v4 v5 v6
    have S := st7_at X0.out.at_ zz
    have SB := Lib.hid (st7_below B0.out HRB.out zz)
    go_loop [4] (fun i => i = .int .i64 0) (fun _ => 0)
    case atStart => exact rfl
    case round =>
      obtain rfl := hrel
      go_wp2
      change bodyPost _ _ _ _ _ (st7 W0 rb zz)
      generalize st7 W0 rb zz = W9 at S SB ⊢
      obtain ⟨c0, c1, c2, c3, c4, c5, c6⟩ := S
      simp only [zz, Nat.zero_add] at c0 c1 c2 c3 c4 c5 c6
      refine bodyPost_ret (v := .agg #[.int .i64 0, .int .i64 0, .int .i64 0, .int .i64 0, .int .i64 0, .int .i64 0, .int .i64 0]) (by simp [results, Try.results83, go_sem, c0, c1, c2, c3, c4, c5, c6]) rfl ⟨by rw [TZ.out]; try rfl, SB.out⟩
  · obtain rfl := e1 hp
    clear e1
    go_loopw [4] (fun i wr => Below w.heap.size w wr ∧ sb < wr.heap.size ∧ Row wr (some ⟨g, 0, none⟩) cap g l ∧ Bx wr rb zz ∧ ∃ k : Nat, k ≤ n ∧ i = .int .i64 k ∧ (0 < k → pl.pv l = true) ∧ Bx wr sb (pl.sumTo l k)) (fun i _ => n - (intOf i).toNat)
    case atStart => exact ⟨B0.out, Y0.out.at_.lt, R.out, X0.out, 0, by omega, rfl, fun h => by omega, Y0.out⟩
    case round =>
      obtain ⟨hB, hsz, hR, hX, k, hk, rfl, hpv, hY⟩ := hrel
      have BB := Lib.hid hB
      have RR := Lib.hid hR
      have XX := Lib.hid hX
      have YY := Lib.hid hY
      have HPV := Lib.hid hpv
      clear B0 R X0 Y0 sz0 hB hR hX hY hpv
      by_cases hlt : k < n
      · have HLT := Lib.hid (show k < l.length from by rw [← HNZ.out]; exact hlt)
        have z1 : (k : Int) < (n : Int) := by omega
        have u1 : decide (k < n) = true := by simp; omega
        have C := Lib.hid (CC.out wr RR.out)
        cases hv : pl.pv l with
        | false =>
          rw [hv] at C
          have k0 : k = 0 := by
            rcases Nat.eq_zero_or_pos k with h | h
            · exact h
            · have := HPV.out h; rw [hv] at this; cases this
          subst k0
          have TZ := Lib.hid (show T = zz from HT.out.trans (pl.sums_f hv))
          go_wp2_with fail
          refine C.out.mono ?_
          rintro e w1 ⟨rfl, b1⟩
          have X1 := Lib.hid (XX.out.keep (b1.block rb XX.out.at_.lt))
          have Y1 := Lib.hid (YY.out.keep (b1.block sb YY.out.at_.lt))
          have B1 := Lib.hid (BB.out.trans (b1.mono BB.out.size))
          clear b1 hv
          obtain ⟨y0, y1, y2, y3, y4, y5, y6⟩ := X1.out.at_
          simp only [Nat.zero_add] at y0 y1 y2 y3 y4 y5 y6
          have f0 := X1.out.free 0
          have f1 := X1.out.free 1
          have f2 := X1.out.free 2
          have f3 := X1.out.free 3
          have f4 := X1.out.free 4
          have f5 := X1.out.free 5
          have f6 := X1.out.free 6
          obtain ⟨v0, v1, v2, v3, v4, v5, v6⟩ := Y1.out.at_
          simp only [Nat.zero_add] at v0 v1 v2 v3 v4 v5 v6
          simp only [pl.sumTo, zz] at v0 v1 v2 v3 v4 v5 v6
          have S := st7_at X1.out.at_ zz
          have SB := Lib.hid (st7_below B1.out HRB.out zz)
          go_wp2
          change bodyPost _ _ _ _ _ (st7 w1 rb zz)
          generalize st7 w1 rb zz = W9 at S SB ⊢
          obtain ⟨c0, c1, c2, c3, c4, c5, c6⟩ := S
          simp only [zz, Nat.zero_add] at c0 c1 c2 c3 c4 c5 c6
          refine bodyPost_ret (v := .agg #[.int .i64 0, .int .i64 0, .int .i64 0, .int .i64 0, .int .i64 0, .int .i64 0, .int .i64 0]) (by simp [results, Try.results83, go_sem, c0, c1, c2, c3, c4, c5, c6]) rfl ⟨by rw [TZ.out]; try rfl, SB.out⟩
        | true =>
          rw [hv] at C
          have PVH := Lib.hid (pl.pv_iff.1 hv)
          have HV := Lib.hid hv
          clear hv
          have ngs := (GN.out (by rw [← HNZ.out]; exact hp)).1
          have ngr := (GN.out (by rw [← HNZ.out]; exact hp)).2
          have hn24 : n ≤ 24 := by rw [HNZ.out]; exact PVH.out.1
          go_wp2_with fail
          refine C.out.mono ?_
          rintro e W0 ⟨rfl, b1⟩
          have glt := RR.out.lt (by rw [← HNZ.out]; exact hp)
          have R1 := Lib.hid (RR.out.keep fun _ => b1.block g glt)
          have X1 := Lib.hid (XX.out.keep (b1.block rb XX.out.at_.lt))
          have A0 := YY.out.keep (b1.block sb YY.out.at_.lt)
          have B1 := Lib.hid (BB.out.trans (b1.mono BB.out.size))
          have SI := pl.sin PVH.out (k := k) (by rw [← HNZ.out]; omega)
          have PX := PVH.out.pin HLT.out
          have Q0 := R1.out.cells k HLT.out
          have T0 := Lib.hid (Turned.refl sb W0)
          obtain ⟨S, hS⟩ : ∃ S, S = pl.sumTo l k := ⟨_, rfl⟩
          obtain ⟨x, hx⟩ : ∃ x, x = l.getD k zz := ⟨_, rfl⟩
          rw [← hS] at A0 SI
          rw [← hx] at Q0 PX
          have HS := Lib.hid hS
          have HX := Lib.hid hx
          clear hS hx b1 C RR XX YY BB
          obtain ⟨s0, s1, s2, s3, s4, s5, s6⟩ := S
          obtain ⟨x0, x1, x2, x3, x4, x5, x6⟩ := x
          obtain ⟨_, v1, v2, v3, v4, v5, v6, v7, v8, v9, v10, v11, v12⟩ := SI
          obtain ⟨_, _, t1, t2, t3, t4, t5, t6, t7, t8, t9, t10, t11, t12⟩ := PX
          replace v2 : s1 ≤ 1000000000000000 := by dsimp only at v2; omega
          replace v4 : s2 ≤ 1000000000000000 := by dsimp only at v4; omega
          replace v6 : s3 ≤ 1000000000000000 := by dsimp only at v6; omega
          dsimp only at v1 v2 v3 v4 v5 v6 v7 v8 v9 v10 v11 v12 t1 t2 t3 t4 t5 t6 t7 t8 t9 t10 t11 t12
          go_wp2_with fail
          have p1 := A0.at_.c1
          have q1 := Q0.c1
          have f1 := A0.free 1
          simp only [Nat.zero_add] at p1
          go_still_tail 9, (by kernel_rfl)
          change wpList _ _ _ _ _ W0.drew
          have T1 := Lib.hid ((T0.out.set 1 (.int .i64 (s1 + x1))).drew)
          have A1 : Bx (W0.setCell ⟨sb, 1, none⟩ (.int .i64 (s1 + x1))).drew sb (s0, s1 + x1, s2, s3, s4, s5, s6) := ⟨(setAt1 A0.at_ _).keep rfl, fun i => (World.frozen?_setCell W0 _ _ _).trans (A0.free i)⟩
          have Q1 : At (W0.setCell ⟨sb, 1, none⟩ (.int .i64 (s1 + x1))).drew g (k * 7) (x0, x1, x2, x3, x4, x5, x6) := Q0.keep (Below.heap_setCell W0 ⟨sb, 1, none⟩ _ _ ngs)
          replace f1 : W0.drew.frozen? ⟨sb, 1, none⟩ = false := f1
          replace p1 : W0.drew.cell? ⟨sb, 1, none⟩ = some (.int .i64 s1) := p1
          clear q1
          go_wp2_with fail
          generalize (W0.setCell ⟨sb, 1, none⟩ (.int .i64 (s1 + x1))).drew = W1 at T1 A1 Q1 ⊢
          clear p1 f1 T0 A0 Q0
          have p2 := A1.at_.c2
          have q2 := Q1.c2
          have f2 := A1.free 2
          simp only [Nat.zero_add] at p2
          go_still_tail 9, (by kernel_rfl)
          change wpList _ _ _ _ _ W1.drew
          have T2 := Lib.hid ((T1.out.set 2 (.int .i64 (s2 + x2))).drew)
          have A2 : Bx (W1.setCell ⟨sb, 2, none⟩ (.int .i64 (s2 + x2))).drew sb (s0, s1 + x1, s2 + x2, s3, s4, s5, s6) := ⟨(setAt2 A1.at_ _).keep rfl, fun i => (World.frozen?_setCell W1 _ _ _).trans (A1.free i)⟩
          have Q2 : At (W1.setCell ⟨sb, 2, none⟩ (.int .i64 (s2 + x2))).drew g (k * 7) (x0, x1, x2, x3, x4, x5, x6) := Q1.keep (Below.heap_setCell W1 ⟨sb, 2, none⟩ _ _ ngs)
          replace f2 : W1.drew.frozen? ⟨sb, 2, none⟩ = false := f2
          replace p2 : W1.drew.cell? ⟨sb, 2, none⟩ = some (.int .i64 s2) := p2
          clear q2
          go_wp2_with fail
          generalize (W1.setCell ⟨sb, 2, none⟩ (.int .i64 (s2 + x2))).drew = W2 at T2 A2 Q2 ⊢
          clear p2 f2 T1 A1 Q1
          have p3 := A2.at_.c3
          have q3 := Q2.c3
          have f3 := A2.free 3
          simp only [Nat.zero_add] at p3
          go_still_tail 9, (by kernel_rfl)
          change wpList _ _ _ _ _ W2.drew
          have T3 := Lib.hid ((T2.out.set 3 (.int .i64 (s3 + x3))).drew)
          have A3 : Bx (W2.setCell ⟨sb, 3, none⟩ (.int .i64 (s3 + x3))).drew sb (s0, s1 + x1, s2 + x2, s3 + x3, s4, s5, s6) := ⟨(setAt3 A2.at_ _).keep rfl, fun i => (World.frozen?_setCell W2 _ _ _).trans (A2.free i)⟩
          have Q3 : At (W2.setCell ⟨sb, 3, none⟩ (.int .i64 (s3 + x3))).drew g (k * 7) (x0, x1, x2, x3, x4, x5, x6) := Q2.keep (Below.heap_setCell W2 ⟨sb, 3, none⟩ _ _ ngs)
          replace f3 : W2.drew.frozen? ⟨sb, 3, none⟩ = false := f3
          replace p3 : W2.drew.cell? ⟨sb, 3, none⟩ = some (.int .i64 s3) := p3
          clear q3
          go_wp2_with fail
          generalize (W2.setCell ⟨sb, 3, none⟩ (.int .i64 (s3 + x3))).drew = W3 at T3 A3 Q3 ⊢
          clear p3 f3 T2 A2 Q2
          have p4 := A3.at_.c4
          have q4 := Q3.c4
          have f4 := A3.free 4
          simp only [Nat.zero_add] at p4
          go_still_tail 9, (by kernel_rfl)
          change wpList _ _ _ _ _ W3.drew
          have T4 := Lib.hid ((T3.out.set 4 (.int .i64 (s4 + x4))).drew)
          have A4 : Bx (W3.setCell ⟨sb, 4, none⟩ (.int .i64 (s4 + x4))).drew sb (s0, s1 + x1, s2 + x2, s3 + x3, s4 + x4, s5, s6) := ⟨(setAt4 A3.at_ _).keep rfl, fun i => (World.frozen?_setCell W3 _ _ _).trans (A3.free i)⟩
          have Q4 : At (W3.setCell ⟨sb, 4, none⟩ (.int .i64 (s4 + x4))).drew g (k * 7) (x0, x1, x2, x3, x4, x5, x6) := Q3.keep (Below.heap_setCell W3 ⟨sb, 4, none⟩ _ _ ngs)
          replace f4 : W3.drew.frozen? ⟨sb, 4, none⟩ = false := f4
          replace p4 : W3.drew.cell? ⟨sb, 4, none⟩ = some (.int .i64 s4) := p4
          clear q4
          go_wp2_with fail
          generalize (W3.setCell ⟨sb, 4, none⟩ (.int .i64 (s4 + x4))).drew = W4 at T4 A4 Q4 ⊢
          clear p4 f4 T3 A3 Q3
          have p5 := A4.at_.c5
          have q5 := Q4.c5
          have f5 := A4.free 5
          simp only [Nat.zero_add] at p5
          go_still_tail 9, (by kernel_rfl)
          change wpList _ _ _ _ _ W4.drew
          have T5 := Lib.hid ((T4.out.set 5 (.int .i64 (s5 + x5))).drew)
          have A5 : Bx (W4.setCell ⟨sb, 5, none⟩ (.int .i64 (s5 + x5))).drew sb (s0, s1 + x1, s2 + x2, s3 + x3, s4 + x4, s5 + x5, s6) := ⟨(setAt5 A4.at_ _).keep rfl, fun i => (World.frozen?_setCell W4 _ _ _).trans (A4.free i)⟩
          have Q5 : At (W4.setCell ⟨sb, 5, none⟩ (.int .i64 (s5 + x5))).drew g (k * 7) (x0, x1, x2, x3, x4, x5, x6) := Q4.keep (Below.heap_setCell W4 ⟨sb, 5, none⟩ _ _ ngs)
          replace f5 : W4.drew.frozen? ⟨sb, 5, none⟩ = false := f5
          replace p5 : W4.drew.cell? ⟨sb, 5, none⟩ = some (.int .i64 s5) := p5
          clear q5
          go_wp2_with fail
          generalize (W4.setCell ⟨sb, 5, none⟩ (.int .i64 (s5 + x5))).drew = W5 at T5 A5 Q5 ⊢
          clear p5 f5 T4 A4 Q4
          have p6 := A5.at_.c6
          have q6 := Q5.c6
          have f6 := A5.free 6
          simp only [Nat.zero_add] at p6
          go_still_tail 9, (by kernel_rfl)
          change wpList _ _ _ _ _ W5.drew
          have T6 := Lib.hid ((T5.out.set 6 (.int .i64 (s6 + x6))).drew)
          have A6 : Bx (W5.setCell ⟨sb, 6, none⟩ (.int .i64 (s6 + x6))).drew sb (s0, s1 + x1, s2 + x2, s3 + x3, s4 + x4, s5 + x5, s6 + x6) := ⟨(setAt6 A5.at_ _).keep rfl, fun i => (World.frozen?_setCell W5 _ _ _).trans (A5.free i)⟩
          have Q6 : At (W5.setCell ⟨sb, 6, none⟩ (.int .i64 (s6 + x6))).drew g (k * 7) (x0, x1, x2, x3, x4, x5, x6) := Q5.keep (Below.heap_setCell W5 ⟨sb, 6, none⟩ _ _ ngs)
          replace f6 : W5.drew.frozen? ⟨sb, 6, none⟩ = false := f6
          replace p6 : W5.drew.cell? ⟨sb, 6, none⟩ = some (.int .i64 s6) := p6
          clear q6
          go_wp2_with fail
          generalize (W5.setCell ⟨sb, 6, none⟩ (.int .i64 (s6 + x6))).drew = W6 at T6 A6 Q6 ⊢
          clear p6 f6 T5 A5 Q5
          go_wp2
          go_roundw
          case rel =>
            have g1 := R1.out.lt (by rw [← HNZ.out]; exact hp)
            refine ⟨B1.out.trans (T6.out.below wsb), Nat.lt_of_lt_of_le A6.at_.lt (Nat.le_refl _), R1.out.keep fun _ => T6.out.2 g ngs g1, X1.out.keep (T6.out.2 rb nrs X1.out.at_.lt), k + 1, by omega, by go_num, fun _ => (by first | exact HV.out | trivial), ?_⟩
            rw [pl.sumTo, ← HS.out, ← HX.out]
            exact A6
          case measure => simp [intOf]; omega
      · have u1 : decide (k < n) = false := by simp; omega
        obtain rfl : k = n := by omega
        obtain ⟨t, ht⟩ : ∃ t, t = pl.sumTo l k := ⟨_, rfl⟩
        rw [← ht] at YY
        have TZ := Lib.hid (show T = t from by rw [HT.out, pl.sums_t (HPV.out hp), ht, ← HNZ.out])
        clear ht
        obtain ⟨y0, y1, y2, y3, y4, y5, y6⟩ := XX.out.at_
        simp only [Nat.zero_add] at y0 y1 y2 y3 y4 y5 y6
        have f0 := XX.out.free 0
        have f1 := XX.out.free 1
        have f2 := XX.out.free 2
        have f3 := XX.out.free 3
        have f4 := XX.out.free 4
        have f5 := XX.out.free 5
        have f6 := XX.out.free 6
        obtain ⟨v0, v1, v2, v3, v4, v5, v6⟩ := YY.out.at_
        simp only [Nat.zero_add] at v0 v1 v2 v3 v4 v5 v6
        have S := st7_at XX.out.at_ t
        have SB := Lib.hid (st7_below BB.out HRB.out t)
        go_wp2
        change bodyPost _ _ _ _ _ (st7 wr rb t)
        generalize st7 wr rb t = W9 at S SB ⊢
        obtain ⟨c0, c1, c2, c3, c4, c5, c6⟩ := S
        simp only [Nat.zero_add] at c0 c1 c2 c3 c4 c5 c6
        refine bodyPost_ret (v := .agg #[.int .i64 t.1, .int .i64 t.2.1, .int .i64 t.2.2.1, .int .i64 t.2.2.2.1, .int .i64 t.2.2.2.2.1, .int .i64 t.2.2.2.2.2.1, .int .i64 t.2.2.2.2.2.2]) (by simp [results, Try.results83, go_sem, c0, c1, c2, c3, c4, c5, c6]) rfl ⟨by rw [TZ.out]; try rfl, SB.out⟩
end Go.Proofs.Ytmaejlfjdkkpdaa.base
