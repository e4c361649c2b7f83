/-
  Proved: for every plan and amount, the landed PayPlan answers as its model does, in memory of its own, and writes into no argument; the law laws.FnExactPayPlan returns true and its arguments read as before. Conditions: none beyond the given row.
-/
import Derived.Test.YtmnmijiikjpdnaaPyS
import Derived.Test.YtmnmijiikjpdnaaPyI
import Derived.Test.YtmnmijiikjpdnaaCp7
import Derived.Test.YtmnmijiikjpdnaaEq7
import Derived.Test.YtmnmijiikjpdnaaHd7
import Derived.Test.YtmnmijiikjpdnaaOp7
import Derived.Test.YtmnmijiikjpdnaaLn7
import Derived.Carry
namespace Go.Proofs.Ytmnmijiikjpdnaa.fnExactPayPlan
open Go.ChangeShapes Go.WideShapes Go.ChangeAt Go.RowKit


theorem walk_big (d : Int) (a : Option Addr) (len cap : Nat) (w : World) (hl : len ≤ maxLen) (hb : 1048576 < len) : Calls Try.prog 3 #[.slice a len cap, .int .i64 d] w fun e w' => e = .returned (.bool true) ∧ Below w.heap.size w w' := by
  unfold maxLen at hl
  have t1 : decide ((1048576 : Int) < (len : Int)) = true := by simp; omega
  go_enter Try.func3, Try.ntmps3
  go_wp2
  go_ret
  exact ⟨rfl, Below.refl _ _⟩

set_option maxRecDepth 100000 in
set_option maxHeartbeats 8000000 in
theorem walk_small (d : Int) (a : Option Addr) (cap : Nat) (l : List seven.F7) (w : World) (hI : seven.Inp w a l) (hn : l.length ≤ 1048576) : Calls Try.prog 3 #[.slice a l.length cap, .int .i64 d] w fun e w' => e = .returned (.bool true) ∧ Below w.heap.size w w' := by
  have HI := Lib.hid hI
  clear hI
  have lp : (base.pyL l d).length ≤ 1048576 := Nat.le_trans (base.pyL_len l d) hn
  have CS := fun w0 c g r => base.ppS d w0 c g l r (by omega)
  have CI := fun w0 c g r => base.ppI d w0 c g l r (by omega)
  unfold base.Out3 at CS CI
  generalize base.pyL l d = P at CS CI lp
  generalize base.pyS l d = t at CS CI
  obtain ⟨m, t2, t3, t4⟩ := t
  dsimp only at CS CI
  have CSh := Lib.hid CS
  have CIh := Lib.hid CI
  clear CS CI
  have tc : (m != m) = false := by simp
  have t1 : decide ((1048576 : Int) < (l.length : Int)) = false := by simp; omega
  have BB := Lib.hid (Below.refl w.heap.size w)
  go_enter Try.func3, Try.ntmps3
  go_wp2_with fail
  refine (seven.szOk a l.length cap 1048576 w hn (Nat.le_refl _)).mono ?_
  rintro e w' ⟨rfl, rfl⟩
  go_wp2_with fail
  refine (seven.copy a cap l w (HI.out.below BB.out) hn).mono ?_
  rintro e w1 ⟨g1, rfl, r0, lg1, kg1, bb⟩
  replace BB := Lib.hid (BB.out.trans (bb.mono BB.out.size))
  have z1 := bb.size
  clear bb
  have R1 := Lib.hid r0
  clear r0
  go_wp2_with fail
  refine (CSh.out w1 _ g1 R1.out).mono ?_
  rintro e w2 ⟨a3, c3, g3, rfl, r0, G0, bb⟩
  replace BB := Lib.hid (BB.out.trans (bb.mono BB.out.size))
  have z2 := bb.size
  replace R1 := Lib.hid (R1.out.keep (w' := w2) fun h => bb.block g1 (by omega))
  clear bb
  have R3 := Lib.hid r0
  have GR3 := Lib.hid G0
  clear r0 G0
  clear R1
  have XW := Lib.hid (base.Bx.new w2 (0, 0, 0, 0, t4, t3, t2))
  have zbbw : (w2.alloc (.cells #[.int .i64 0, .int .i64 0, .int .i64 0, .int .i64 0, .int .i64 t4, .int .i64 t3, .int .i64 t2] 26)).heap.size = w2.heap.size + 1 := by simp
  have al := fun k hk => Below.heap_alloc w2 (.cells #[.int .i64 0, .int .i64 0, .int .i64 0, .int .i64 0, .int .i64 t4, .int .i64 t3, .int .i64 t2] 26) k hk
  replace R3 := Lib.hid (R3.out.keep (w' := w2.alloc (.cells #[.int .i64 0, .int .i64 0, .int .i64 0, .int .i64 0, .int .i64 t4, .int .i64 t3, .int .i64 t2] 26)) fun h => al g3 (by have := (GR3.out h).2; omega))
  replace BB := Lib.hid (BB.out.alloc BB.out.size (.cells #[.int .i64 0, .int .i64 0, .int .i64 0, .int .i64 0, .int .i64 t4, .int .i64 t3, .int .i64 t2] 26))
  clear al
  go_wp2_with fail
  obtain ⟨bw, hbw⟩ : ∃ bw, bw = w2.heap.size := ⟨_, rfl⟩
  rw [← hbw] at XW zbbw ⊢
  generalize w2.alloc (.cells #[.int .i64 0, .int .i64 0, .int .i64 0, .int .i64 0, .int .i64 t4, .int .i64 t3, .int .i64 t2] 26) = Wbw at XW BB zbbw R3 ⊢
  have lbw : bw < Wbw.heap.size := by omega
  have mbw : w2.heap.size ≤ bw := by omega
  clear hbw
  refine (seven.copy a cap l Wbw (HI.out.below BB.out) hn).mono ?_
  rintro e w3 ⟨gx, rfl, r0, lgx, kgx, bb⟩
  replace BB := Lib.hid (BB.out.trans (bb.mono BB.out.size))
  have z3 := bb.size
  replace R3 := Lib.hid (R3.out.keep (w' := w3) fun h => bb.block g3 (by have := (GR3.out h).2; omega))
  replace XW := Lib.hid (XW.out.keep (w' := w3) (bb.block bw (by omega)))
  clear bb
  have RX := Lib.hid r0
  clear r0
  go_wp2_with fail
  refine (CIh.out w3 _ gx RX.out).mono ?_
  rintro e w4 ⟨ag, cg, gg, rfl, r0, G0, bb⟩
  replace BB := Lib.hid (BB.out.trans (bb.mono BB.out.size))
  have z4 := bb.size
  replace R3 := Lib.hid (R3.out.keep (w' := w4) fun h => bb.block g3 (by have := (GR3.out h).2; omega))
  replace XW := Lib.hid (XW.out.keep (w' := w4) (bb.block bw (by omega)))
  replace RX := Lib.hid (RX.out.keep (w' := w4) fun h => bb.block gx (by omega))
  clear bb
  have RG := Lib.hid r0
  have GRG := Lib.hid G0
  clear r0 G0
  have XG := Lib.hid (base.Bx.new w4 (0, 0, 0, 0, t4, t3, t2))
  have zbbg : (w4.alloc (.cells #[.int .i64 0, .int .i64 0, .int .i64 0, .int .i64 0, .int .i64 t4, .int .i64 t3, .int .i64 t2] 26)).heap.size = w4.heap.size + 1 := by simp
  have al := fun k hk => Below.heap_alloc w4 (.cells #[.int .i64 0, .int .i64 0, .int .i64 0, .int .i64 0, .int .i64 t4, .int .i64 t3, .int .i64 t2] 26) k hk
  replace R3 := Lib.hid (R3.out.keep (w' := w4.alloc (.cells #[.int .i64 0, .int .i64 0, .int .i64 0, .int .i64 0, .int .i64 t4, .int .i64 t3, .int .i64 t2] 26)) fun h => al g3 (by have := (GR3.out h).2; omega))
  replace XW := Lib.hid (XW.out.keep (w' := w4.alloc (.cells #[.int .i64 0, .int .i64 0, .int .i64 0, .int .i64 0, .int .i64 t4, .int .i64 t3, .int .i64 t2] 26)) (al bw (by omega)))
  replace RX := Lib.hid (RX.out.keep (w' := w4.alloc (.cells #[.int .i64 0, .int .i64 0, .int .i64 0, .int .i64 0, .int .i64 t4, .int .i64 t3, .int .i64 t2] 26)) fun h => al gx (by omega))
  replace RG := Lib.hid (RG.out.keep (w' := w4.alloc (.cells #[.int .i64 0, .int .i64 0, .int .i64 0, .int .i64 0, .int .i64 t4, .int .i64 t3, .int .i64 t2] 26)) fun h => al gg (by have := (GRG.out h).2; omega))
  replace BB := Lib.hid (BB.out.alloc BB.out.size (.cells #[.int .i64 0, .int .i64 0, .int .i64 0, .int .i64 0, .int .i64 t4, .int .i64 t3, .int .i64 t2] 26))
  clear al
  go_wp2_with fail
  obtain ⟨bg, hbg⟩ : ∃ bg, bg = w4.heap.size := ⟨_, rfl⟩
  rw [← hbg] at XG zbbg ⊢
  generalize w4.alloc (.cells #[.int .i64 0, .int .i64 0, .int .i64 0, .int .i64 0, .int .i64 t4, .int .i64 t3, .int .i64 t2] 26) = Wbg at XG BB zbbg R3 XW RX RG ⊢
  have lbg : bg < Wbg.heap.size := by omega
  have mbg : w4.heap.size ≤ bg := by omega
  clear hbg
  refine (seven.eqT Wbg ag a3 cg c3 gg g3 P RG.out R3.out lp).mono ?_
  rintro e w5 ⟨rfl, bb⟩
  replace BB := Lib.hid (BB.out.trans (bb.mono BB.out.size))
  have z5 := bb.size
  replace R3 := Lib.hid (R3.out.keep (w' := w5) fun h => bb.block g3 (by have := (GR3.out h).2; omega))
  replace XW := Lib.hid (XW.out.keep (w' := w5) (bb.block bw (by omega)))
  replace RX := Lib.hid (RX.out.keep (w' := w5) fun h => bb.block gx (by omega))
  replace RG := Lib.hid (RG.out.keep (w' := w5) fun h => bb.block gg (by have := (GRG.out h).2; omega))
  replace XG := Lib.hid (XG.out.keep (w' := w5) (bb.block bg (by omega)))
  clear bb
  obtain ⟨p0, p1, p2, p3, p4, p5, p6⟩ := XG.out.at_
  obtain ⟨q0, q1, q2, q3, q4, q5, q6⟩ := XW.out.at_
  simp only [Nat.zero_add] at p0 p1 p2 p3 p4 p5 p6 q0 q1 q2 q3 q4 q5 q6
  go_wp2_with fail
  refine (seven.eqElT (0, 0, 0, 0, t4, t3, t2) w5).mono ?_
  rintro e w6 ⟨rfl, bb⟩
  replace BB := Lib.hid (BB.out.trans (bb.mono BB.out.size))
  have z6 := bb.size
  replace R3 := Lib.hid (R3.out.keep (w' := w6) fun h => bb.block g3 (by have := (GR3.out h).2; omega))
  replace XW := Lib.hid (XW.out.keep (w' := w6) (bb.block bw (by omega)))
  replace RX := Lib.hid (RX.out.keep (w' := w6) fun h => bb.block gx (by omega))
  replace RG := Lib.hid (RG.out.keep (w' := w6) fun h => bb.block gg (by have := (GRG.out h).2; omega))
  replace XG := Lib.hid (XG.out.keep (w' := w6) (bb.block bg (by omega)))
  clear bb
  clear p0 p1 p2 p3 p4 p5 p6 q0 q1 q2 q3 q4 q5 q6
  go_wp2_with fail
  refine (seven.copy a cap l w6 (HI.out.below BB.out) hn).mono ?_
  rintro e w7 ⟨gz, rfl, r0, lgz, kgz, bb⟩
  replace BB := Lib.hid (BB.out.trans (bb.mono BB.out.size))
  have z7 := bb.size
  replace R3 := Lib.hid (R3.out.keep (w' := w7) fun h => bb.block g3 (by have := (GR3.out h).2; omega))
  replace XW := Lib.hid (XW.out.keep (w' := w7) (bb.block bw (by omega)))
  replace RX := Lib.hid (RX.out.keep (w' := w7) fun h => bb.block gx (by omega))
  replace RG := Lib.hid (RG.out.keep (w' := w7) fun h => bb.block gg (by have := (GRG.out h).2; omega))
  replace XG := Lib.hid (XG.out.keep (w' := w7) (bb.block bg (by omega)))
  clear bb
  have RZ := Lib.hid r0
  clear r0
  go_wp2_with fail
  refine (seven.eqT w7 _ _ _ _ gx gz l RX.out RZ.out hn).mono ?_
  rintro e w8 ⟨rfl, bb⟩
  replace BB := Lib.hid (BB.out.trans (bb.mono BB.out.size))
  have z8 := bb.size
  replace R3 := Lib.hid (R3.out.keep (w' := w8) fun h => bb.block g3 (by have := (GR3.out h).2; omega))
  replace XW := Lib.hid (XW.out.keep (w' := w8) (bb.block bw (by omega)))
  replace RX := Lib.hid (RX.out.keep (w' := w8) fun h => bb.block gx (by omega))
  replace RG := Lib.hid (RG.out.keep (w' := w8) fun h => bb.block gg (by have := (GRG.out h).2; omega))
  replace XG := Lib.hid (XG.out.keep (w' := w8) (bb.block bg (by omega)))
  replace RZ := Lib.hid (RZ.out.keep (w' := w8) fun h => bb.block gz (by omega))
  clear bb
  clear RZ
  go_wp2_with fail
  refine (seven.mark w8 _ _ gx l RX.out (by omega)).mono ?_
  rintro e w9 ⟨rfl, hk⟩
  have z9 : w9.heap.size = w8.heap.size := hk.size
  replace R3 := Lib.hid (R3.out.keep (w' := w9) fun h => hk.other g3 (fun e => by have := (GR3.out h).2; omega))
  replace RG := Lib.hid (RG.out.keep (w' := w9) fun h => hk.other gg (fun e => by have := (GRG.out h).1; omega))
  replace XW := Lib.hid (XW.out.keep (w' := w9) (hk.other bw (fun e => by omega)))
  replace XG := Lib.hid (XG.out.keep (w' := w9) (hk.other bg (fun e => by omega)))
  replace BB := Lib.hid (BB.out.trans (hk.below (B := w.heap.size) (fun _ => by omega)))
  clear hk RX
  have p1 : decide (1 + (l.length : Int) * 7 < 0) = false := by simp; omega
  have p1' : decide (1 + ((l.length * 7 : Nat) : Int) < 0) = false := by simp; omega
  go_wp2_with fail
  refine (seven.eqT w9 ag a3 cg c3 gg g3 P RG.out R3.out lp).mono ?_
  rintro e w10 ⟨rfl, bb⟩
  replace BB := Lib.hid (BB.out.trans (bb.mono BB.out.size))
  have z10 := bb.size
  replace R3 := Lib.hid (R3.out.keep (w' := w10) fun h => bb.block g3 (by have := (GR3.out h).2; omega))
  replace XW := Lib.hid (XW.out.keep (w' := w10) (bb.block bw (by omega)))
  replace RG := Lib.hid (RG.out.keep (w' := w10) fun h => bb.block gg (by have := (GRG.out h).2; omega))
  replace XG := Lib.hid (XG.out.keep (w' := w10) (bb.block bg (by omega)))
  clear bb
  have P1 := Lib.hid p1
  clear p1
  obtain ⟨p0, p1, p2, p3, p4, p5, p6⟩ := XG.out.at_
  obtain ⟨q0, q1, q2, q3, q4, q5, q6⟩ := XW.out.at_
  simp only [Nat.zero_add] at p0 p1 p2 p3 p4 p5 p6 q0 q1 q2 q3 q4 q5 q6
  go_wp2_with fail
  refine (seven.eqElT (0, 0, 0, 0, t4, t3, t2) w10).mono ?_
  rintro e w11 ⟨rfl, bb⟩
  replace BB := Lib.hid (BB.out.trans (bb.mono BB.out.size))
  have z11 := bb.size
  replace R3 := Lib.hid (R3.out.keep (w' := w11) fun h => bb.block g3 (by have := (GR3.out h).2; omega))
  replace XW := Lib.hid (XW.out.keep (w' := w11) (bb.block bw (by omega)))
  replace RG := Lib.hid (RG.out.keep (w' := w11) fun h => bb.block gg (by have := (GRG.out h).2; omega))
  replace XG := Lib.hid (XG.out.keep (w' := w11) (bb.block bg (by omega)))
  clear bb
  clear p0 p1 p2 p3 p4 p5 p6 q0 q1 q2 q3 q4 q5 q6
  have p1 := P1.out
  go_wp2_with fail
  refine (seven.mark w11 ag cg gg P RG.out (by omega)).mono ?_
  rintro e w12 ⟨rfl, hk⟩
  have z12 : w12.heap.size = w11.heap.size := hk.size
  have MK := Lib.hid (show seven.Mks w12 ag cg gg P.length from ⟨RG.out.addr, RG.out.room, hk.done⟩)
  replace R3 := Lib.hid (R3.out.keep (w' := w12) fun h => hk.other g3 (fun e => by have := (GR3.out h).2; have := (GRG.out h).1; omega))
  replace XW := Lib.hid (XW.out.keep (w' := w12) (hk.other bw (fun e => by rcases Nat.eq_zero_or_pos P.length with h0 | h0 <;> first | omega | (have := (GRG.out h0).1; omega))))
  replace BB := Lib.hid (BB.out.trans (hk.below (B := w.heap.size) (fun hp => by have := (GRG.out (by omega)).1; omega)))
  clear hk RG XG
  go_wp2_with fail
  refine (seven.held w12 ag cg gg P.length MK.out (by omega)).mono ?_
  rintro e w' ⟨rfl, rfl⟩
  have p2 : decide (1 + (P.length : Int) * 7 < 0) = false := by simp; omega
  have p2' : decide (1 + ((P.length * 7 : Nat) : Int) < 0) = false := by simp; omega
  have p3 : (1 + (P.length : Int) * 7 != 1 + (P.length : Int) * 7) = false := by simp
  have p3' : (1 + ((P.length * 7 : Nat) : Int) != 1 + ((P.length * 7 : Nat) : Int)) = false := by simp
  have GMK := Lib.hid GRG.out
  go_wp2_with fail
  refine (seven.copy a cap l w12 (HI.out.below BB.out) hn).mono ?_
  rintro e w13 ⟨ga, rfl, r0, lga, kga, bb⟩
  replace BB := Lib.hid (BB.out.trans (bb.mono BB.out.size))
  have z13 := bb.size
  replace R3 := Lib.hid (R3.out.keep (w' := w13) fun h => bb.block g3 (by have := (GR3.out h).2; omega))
  replace XW := Lib.hid (XW.out.keep (w' := w13) (bb.block bw (by omega)))
  replace MK := Lib.hid (MK.out.keep (w' := w13) fun h => bb.block gg (by have := (GMK.out h).2; omega))
  clear bb
  have RA := Lib.hid r0
  clear r0
  go_wp2_with fail
  refine (CIh.out w13 _ ga RA.out).mono ?_
  rintro e w14 ⟨ah, ch, gh, rfl, r0, G0, bb⟩
  replace BB := Lib.hid (BB.out.trans (bb.mono BB.out.size))
  have z14 := bb.size
  replace R3 := Lib.hid (R3.out.keep (w' := w14) fun h => bb.block g3 (by have := (GR3.out h).2; omega))
  replace XW := Lib.hid (XW.out.keep (w' := w14) (bb.block bw (by omega)))
  replace MK := Lib.hid (MK.out.keep (w' := w14) fun h => bb.block gg (by have := (GMK.out h).2; omega))
  replace RA := Lib.hid (RA.out.keep (w' := w14) fun h => bb.block ga (by omega))
  clear bb
  have RH := Lib.hid r0
  have GRH := Lib.hid G0
  clear r0 G0
  clear RA
  have XH := Lib.hid (base.Bx.new w14 (0, 0, 0, 0, t4, t3, t2))
  have zbbh : (w14.alloc (.cells #[.int .i64 0, .int .i64 0, .int .i64 0, .int .i64 0, .int .i64 t4, .int .i64 t3, .int .i64 t2] 26)).heap.size = w14.heap.size + 1 := by simp
  have al := fun k hk => Below.heap_alloc w14 (.cells #[.int .i64 0, .int .i64 0, .int .i64 0, .int .i64 0, .int .i64 t4, .int .i64 t3, .int .i64 t2] 26) k hk
  replace R3 := Lib.hid (R3.out.keep (w' := w14.alloc (.cells #[.int .i64 0, .int .i64 0, .int .i64 0, .int .i64 0, .int .i64 t4, .int .i64 t3, .int .i64 t2] 26)) fun h => al g3 (by have := (GR3.out h).2; omega))
  replace XW := Lib.hid (XW.out.keep (w' := w14.alloc (.cells #[.int .i64 0, .int .i64 0, .int .i64 0, .int .i64 0, .int .i64 t4, .int .i64 t3, .int .i64 t2] 26)) (al bw (by omega)))
  replace MK := Lib.hid (MK.out.keep (w' := w14.alloc (.cells #[.int .i64 0, .int .i64 0, .int .i64 0, .int .i64 0, .int .i64 t4, .int .i64 t3, .int .i64 t2] 26)) fun h => al gg (by have := (GMK.out h).2; omega))
  replace RH := Lib.hid (RH.out.keep (w' := w14.alloc (.cells #[.int .i64 0, .int .i64 0, .int .i64 0, .int .i64 0, .int .i64 t4, .int .i64 t3, .int .i64 t2] 26)) fun h => al gh (by have := (GRH.out h).2; omega))
  replace BB := Lib.hid (BB.out.alloc BB.out.size (.cells #[.int .i64 0, .int .i64 0, .int .i64 0, .int .i64 0, .int .i64 t4, .int .i64 t3, .int .i64 t2] 26))
  clear al
  go_wp2_with fail
  obtain ⟨bh, hbh⟩ : ∃ bh, bh = w14.heap.size := ⟨_, rfl⟩
  rw [← hbh] at XH zbbh ⊢
  generalize w14.alloc (.cells #[.int .i64 0, .int .i64 0, .int .i64 0, .int .i64 0, .int .i64 t4, .int .i64 t3, .int .i64 t2] 26) = Wbh at XH BB zbbh R3 XW MK RH ⊢
  have lbh : bh < Wbh.heap.size := by omega
  have mbh : w14.heap.size ≤ bh := by omega
  clear hbh
  refine (seven.eqT Wbh ah a3 ch c3 gh g3 P RH.out R3.out lp).mono ?_
  rintro e w15 ⟨rfl, bb⟩
  replace BB := Lib.hid (BB.out.trans (bb.mono BB.out.size))
  have z15 := bb.size
  replace R3 := Lib.hid (R3.out.keep (w' := w15) fun h => bb.block g3 (by have := (GR3.out h).2; omega))
  replace XW := Lib.hid (XW.out.keep (w' := w15) (bb.block bw (by omega)))
  replace MK := Lib.hid (MK.out.keep (w' := w15) fun h => bb.block gg (by have := (GMK.out h).2; omega))
  replace RH := Lib.hid (RH.out.keep (w' := w15) fun h => bb.block gh (by have := (GRH.out h).2; omega))
  replace XH := Lib.hid (XH.out.keep (w' := w15) (bb.block bh (by omega)))
  clear bb
  have P2 := Lib.hid (And.intro p2 p3)
  clear p2 p3
  obtain ⟨p0, p1, p2, p3, p4, p5, p6⟩ := XH.out.at_
  obtain ⟨q0, q1, q2, q3, q4, q5, q6⟩ := XW.out.at_
  simp only [Nat.zero_add] at p0 p1 p2 p3 p4 p5 p6 q0 q1 q2 q3 q4 q5 q6
  go_wp2_with fail
  refine (seven.eqElT (0, 0, 0, 0, t4, t3, t2) w15).mono ?_
  rintro e w16 ⟨rfl, bb⟩
  replace BB := Lib.hid (BB.out.trans (bb.mono BB.out.size))
  have z16 := bb.size
  replace R3 := Lib.hid (R3.out.keep (w' := w16) fun h => bb.block g3 (by have := (GR3.out h).2; omega))
  replace XW := Lib.hid (XW.out.keep (w' := w16) (bb.block bw (by omega)))
  replace MK := Lib.hid (MK.out.keep (w' := w16) fun h => bb.block gg (by have := (GMK.out h).2; omega))
  replace RH := Lib.hid (RH.out.keep (w' := w16) fun h => bb.block gh (by have := (GRH.out h).2; omega))
  replace XH := Lib.hid (XH.out.keep (w' := w16) (bb.block bh (by omega)))
  clear bb
  clear p0 p1 p2 p3 p4 p5 p6 q0 q1 q2 q3 q4 q5 q6
  obtain ⟨p2, p3⟩ := P2.out
  go_wp2_with fail
  refine (seven.held w16 ag cg gg P.length MK.out (by omega)).mono ?_
  rintro e w' ⟨rfl, rfl⟩
  go_wp2
  go_ret
  exact ⟨rfl, BB.out⟩

theorem own : ownKnob Try.prog.godebug = none := by kernel_rfl
theorem laidOut : laidOutB Try.prog = true := by kernel_rfl
theorem isLaw : lift.IsLaw Rows.fnExactPayPlanSpec 2 0 := fun _ ds gs h1 h2 => match ds, h1 with | [_, _], _ => match gs, h2 with | [], _ => rfl

set_option maxRecDepth 100000 in
theorem lifted (os : Os) (started : os.Started) (H : Type) (enc : TypeId × Value → H) :
    ReturnsInHanded {} Try.checked os 3 .any (Rows.fnExactPayPlanSpec.pre6 enc Try.prog Try.f3 Rows.fnExactPayPlanRow.domain false) (Rows.fnExactPayPlanSpec.post enc Try.prog Try.f3 false true false false) := by
  refine returnsInHanded_of_change (C := Try.checked) own started (by kernel_rfl) Try.func3
    (ChangeSpec.witness6 (enc := enc) (C := Try.checked) false ⟨#[], #[.slice none 0 0, .int .i64 0], []⟩ 8 (by kernel_rfl) (by kernel_rfl) (by kernel_rfl) (by kernel_rfl)) ?_
  intro W base args ds gs before hval0 hW _ _
  have hval : ∀ (j : Nat) t v, Try.f3.params[j]? = some t → args[j]? = some v → Value.okWide Try.prog W .any base t v := hval0
  have hW' := hW
  obtain ⟨p, q, hA0, hV, hrest⟩ := hW
  have hA : DataW.TrodAll enc Try.prog W 0 (fun _ => true) true Try.f3.params.toList args.toList ds p := hA0
  clear hA0 hval0 hV hrest
  rw [Try.params3] at hA hval
  obtain ⟨v0, v1, d0, d1, p0, p1, rfl, rfl, rfl, h0, h1⟩ := trodAll_two hA
  obtain ⟨a, cap, l, rfl, hlen, hI, wfl⟩ := seven.open_parts (hval 0 22 v0 rfl rfl) h0
  obtain ⟨a1, rfl, rfl, rfl, w1⟩ := open_int Try.underlying2 (hval 1 2 v1 rfl rfl) h1
  have wk : Calls Try.prog 3 #[.slice a l.length cap, .int .i64 a1] W fun e w' => e = .returned (.bool true) ∧ Below W.heap.size W w' := by
    by_cases hb : l.length ≤ 1048576
    · exact walk_small a1 a cap l W hI hb
    · exact walk_big a1 a l.length cap W hlen (by omega)
  refine (wk).mono fun e W' ⟨he, hb⟩ => ?_
  subst he
  exact ⟨_, rfl, lift.law_post laidOut (by kernel_rfl) (by kernel_rfl) (by kernel_rfl) Try.underlying4 (by rw [Try.params3]; exact isLaw) hW' hb⟩

theorem over : Rows.fnExactPayPlanRow.holds Try.pinned (OpenSpec.ofChange Rows.fnExactPayPlanSpec) :=
  OpenClaim.holds_of_wide 3 Try.f3 rfl rfl rfl rfl rfl rfl rfl ⟨rfl, rfl, rfl, rfl, rfl⟩ rfl rfl rfl rfl rfl (by kernel_rfl) Try.func3 (by kernel_rfl)
    (of_decide_eq_true (by kernel_rfl)) (by unfold Func.isWrapper; first | (rw [if_pos (by decide +kernel)]; kernel_rfl) | (rw [if_neg (by decide +kernel)]; exact ⟨rfl, rfl⟩))
    (fun os started H enc _ => lifted os started H enc)

theorem proved : Rows.FnExactPayPlanSaid := over
#print axioms proved
end Go.Proofs.Ytmnmijiikjpdnaa.fnExactPayPlan
