/-
  Proved: for every order, item and count, the landed OrderRefund answers as its model does, in memory of its own, and writes into no argument; the law laws.FnExactOrderRefund returns true and its arguments read as before. Conditions: none beyond the given row.
-/
import Derived.Test.YtmaejlfjdkkpdaaOrS
import Derived.Test.YtmaejlfjdkkpdaaJOp
import Derived.Test.YtmaejlfjdkkpdaaJEq
import Derived.Test.YtmaejlfjdkkpdaaJMk
import Derived.Deep.RegionHeld3
import Derived.Carry
namespace Go.Proofs.Ytmaejlfjdkkpdaa.fnExactOrderRefund
open Go.ChangeShapes Go.WideShapes Go.ChangeAt Go.RowKit
open gen
open seven (F7 zz)
open four (F4)
open pls (nth Pls OL InpP OI MI)
open ob (OB)
set_option maxRecDepth 100000 in
set_option maxHeartbeats 16000000 in
theorem walk (it qt : Int) (s : ord.Sc) (ai : Option Addr) (ci : Nat) (l : List F4) (ap : Option Addr) (cp : Nat) (p : List (List F7)) (w : World) (h1 : four.Inp w ai l) (h2 : InpP w ap p) (hl : l.length ≤ maxLen) (hn : p.length ≤ maxLen) (hm : ∀ i, i < p.length → (nth p i).length ≤ maxLen) :
    Calls Try.prog 11 #[.agg #[.int .i64 s.id, .int .i64 s.co, .int .i64 s.me, .int .i64 s.cu, .int .i64 s.da, .int .i64 s.nn, .int .i64 s.ra, .int .i64 s.nu, .int .i64 s.de, .slice ai l.length ci, .slice ap p.length cp, .int .i64 s.op, .int .i64 s.up], .int .i64 it, .int .i64 qt] w fun e w' => e = .returned (.bool true) ∧ Below w.heap.size w w' := by
  have B0 := Lib.hid (show Below w.heap.size w (w.alloc (.cells #[.int .i64 s.id, .int .i64 s.co, .int .i64 s.me, .int .i64 s.cu, .int .i64 s.da, .int .i64 s.nn, .int .i64 s.ra, .int .i64 s.nu, .int .i64 s.de, .slice ai l.length ci, .slice ap p.length cp, .int .i64 s.op, .int .i64 s.up] 25)) from bAl (Below.refl _ _) (Nat.le_refl _) _)
  have OA := Lib.hid (OB.new w s ai l.length ci ap p.length cp 25)
  have z0 : (w.alloc (.cells #[.int .i64 s.id, .int .i64 s.co, .int .i64 s.me, .int .i64 s.cu, .int .i64 s.da, .int .i64 s.nn, .int .i64 s.ra, .int .i64 s.nu, .int .i64 s.de, .slice ai l.length ci, .slice ap p.length cp, .int .i64 s.op, .int .i64 s.up] 25)).heap.size = w.heap.size + 1 := by simp only [sz_al]
  have SZ := pls.szO s ai ci l ap cp p (w.alloc (.cells #[.int .i64 s.id, .int .i64 s.co, .int .i64 s.me, .int .i64 s.cu, .int .i64 s.da, .int .i64 s.nn, .int .i64 s.ra, .int .i64 s.nu, .int .i64 s.de, .slice ai l.length ci, .slice ap p.length cp, .int .i64 s.op, .int .i64 s.up] 25)) (h2.below B0.out) hl hn hm
  by_cases hT : l.length + (p.length + pls.tl p p.length) ≤ 1048576
  · rw [pls.lft_t hT] at SZ
    have hl' : l.length ≤ 1048576 := by omega
    have hn' : p.length ≤ 1048576 := by omega
    have hm' : ∀ i, i < p.length → (nth p i).length ≤ 1048576 := fun i hi => by have := pls.tl_le p hi; omega
    have hT' : pls.tl p p.length ≤ 1048576 := by omega
    obtain ⟨d0, hd0⟩ : ∃ d0, d0 = 1048576 - (l.length + (p.length + pls.tl p p.length)) := ⟨_, rfl⟩
    rw [← hd0] at SZ
    have t1 : decide ((d0 : Int) < 0) = false := by simp
    obtain ⟨S0, S1, C, s', l', p', hr⟩ := ob.refR_ex s l p it qt
    have SH := ob.refR_short hr
    have CT := Lib.hid (fun W (hb : Below w.heap.size w W) => pls.toO s ai ci l ap cp p W (h1.below hb) (h2.below hb) hl' hn' hm')
    have CSP := Lib.hid (fun W B gi gp gs (h : OL W B l p (some ⟨gi, 0, none⟩) l.length gi (some ⟨gp, 0, none⟩) p.length gp gs (fun i => (nth p i).length)) => ob.orS it qt W B s _ _ l _ _ p gs _ h hl' hn' hm' hr)
    have CIM := Lib.hid (fun W B gi gp gs (h : OL W B l p (some ⟨gi, 0, none⟩) l.length gi (some ⟨gp, 0, none⟩) p.length gp gs (fun i => (nth p i).length)) => ob.orI it qt W B s _ _ l _ _ p gs _ h hl' hn' hm' hr)
    have CEQ := Lib.hid (fun W B B' gi gp gs gi' gp' gs' (h : OL W B l p (some ⟨gi, 0, none⟩) l.length gi (some ⟨gp, 0, none⟩) p.length gp gs (fun i => (nth p i).length)) (h' : OL W B' l p (some ⟨gi', 0, none⟩) l.length gi' (some ⟨gp', 0, none⟩) p.length gp' gs' (fun i => (nth p i).length)) => pls.eqOT W s l p B B' _ _ _ _ _ _ _ _ _ _ _ _ gs _ gs' _ h h' hl' hn' hm')
    have CER := Lib.hid (fun W lo hi lo' hi' a1 c1 g1 b1 d1 k1 e1 f1 a2 c2 g2 b2 d2 k2 e2 f2 (h : OI W lo hi l' p' a1 c1 g1 b1 d1 k1 e1 f1) (h' : OI W lo' hi' l' p' a2 c2 g2 b2 d2 k2 e2 f2) => pls.eqOT W s' l' p' lo lo' a1 b1 a2 b2 c1 g1 d1 k1 c2 g2 d2 k2 e1 f1 e2 f2 h.ol h'.ol SH.1 SH.2.1 SH.2.2.2)
    have CMX := Lib.hid (fun W lo hi g1 k1 e1 (h : OI W lo hi l p (some ⟨g1, 0, none⟩) l.length g1 (some ⟨k1, 0, none⟩) p.length k1 e1 (fun i => (nth p i).length)) => pls.markO W lo s _ _ _ l _ _ _ p e1 _ h.ol hl' hn' hT')
    have CMG := Lib.hid (fun W lo hi a1 c1 g1 b1 d1 k1 e1 f1 (h : OI W lo hi l' p' a1 c1 g1 b1 d1 k1 e1 f1) => pls.markO W lo s' a1 c1 g1 l' b1 d1 k1 p' e1 f1 h.ol SH.1 SH.2.1 SH.2.2.1)
    have CHG := Lib.hid (fun W lo hi a1 c1 g1 b1 d1 k1 e1 f1 (h : MI W lo hi l' p' a1 c1 g1 b1 d1 k1 e1 f1) (hs : hi ≤ W.heap.size) => pls.heldO W s' a1 c1 g1 l' b1 d1 k1 p' e1 f1 h.mm (h.lt hs) SH.1 SH.2.1 SH.2.2.1)
    have q1 : (pls.cnt l p < 0) = False := by unfold pls.cnt; simp; omega
    have q2 : (pls.cnt l' p' < 0) = False := by unfold pls.cnt; simp; omega
    clear h1 h2 hm hm' hd0 hT hT' hl hn hr SH
    obtain ⟨K1, hK1⟩ : ∃ K, K = pls.cnt l p := ⟨_, rfl⟩
    obtain ⟨K2, hK2⟩ : ∃ K, K = pls.cnt l' p' := ⟨_, rfl⟩
    rw [← hK1] at CMX q1
    rw [← hK2] at CMG CHG q2
    have t2 : decide (K1 < 0) = false := by simp [q1]
    have t3 : decide (K2 < 0) = false := by simp [q2]
    clear hK1 hK2 q1 q2
    go_enter Try.func11, Try.ntmps11
    go_wp2_with fail
    generalize w.alloc (.cells #[.int .i64 s.id, .int .i64 s.co, .int .i64 s.me, .int .i64 s.cu, .int .i64 s.da, .int .i64 s.nn, .int .i64 s.ra, .int .i64 s.nu, .int .i64 s.de, .slice ai l.length ci, .slice ap p.length cp, .int .i64 s.op, .int .i64 s.up] 25) = W0 at B0 OA z0 SZ ⊢
    have BB := B0
    clear B0
    refine SZ.mono ?_
    rintro e w1 ⟨rfl, b⟩
    replace BB := Lib.hid (BB.out.trans (b.mono BB.out.size))
    have n1 := b.size
    replace OA := Lib.hid (OA.out.keep (b.block _ OA.out.lt))
    clear b SZ
    obtain ⟨y0, y1, y2, y3, y4, y5, y6, y7, y8, y9, y10, y11, y12⟩ := OA.out
    go_wp2_with fail
    refine (CT.out w1 BB.out).mono ?_
    rintro e w2 ⟨gi, gp, gs, rfl, ol, -, -, -, b⟩
    replace BB := Lib.hid (BB.out.trans (b.mono BB.out.size))
    have n2 := b.size
    replace OA := Lib.hid (OA.out.keep (b.block _ OA.out.lt))
    have L2 := Lib.hid ol
    clear b ol
    clear y0 y1 y2 y3 y4 y5 y6 y7 y8 y9 y10 y11 y12
    go_wp2_with fail
    refine (CSP.out w2 _ gi gp gs L2.out).mono ?_
    rintro e w3 ⟨v, rfl, aw, cw, gw, apw, cpw, gpw, gsw, csw, rfl, ol, b⟩
    replace BB := Lib.hid (BB.out.trans (b.mono BB.out.size))
    have n3 := b.size
    replace OA := Lib.hid (OA.out.keep (b.block _ OA.out.lt))
    have LW := Lib.hid (OI.of ol)
    have sLW := Nat.le_refl w3.heap.size
    clear b ol L2
    have bl := (Below.refl w3.heap.size w3).alloc (Nat.le_refl _) (.cells #[.int .i64 s'.id, .int .i64 s'.co, .int .i64 s'.me, .int .i64 s'.cu, .int .i64 s'.da, .int .i64 s'.nn, .int .i64 s'.ra, .int .i64 s'.nu, .int .i64 s'.de, .slice aw l'.length cw, .slice apw p'.length cpw, .int .i64 s'.op, .int .i64 s'.up] 31)
    replace BB := Lib.hid (BB.out.trans (bl.mono BB.out.size))
    replace OA := Lib.hid (OA.out.keep (bl.block _ OA.out.lt))
    replace LW := Lib.hid (LW.out.keep (fun c _ hc => bl.block c (Nat.lt_of_lt_of_le hc sLW)) bl.size)
    replace sLW := Nat.le_trans sLW bl.size
    have OW := Lib.hid (OB.new w3 s' aw l'.length cw apw p'.length cpw 31)
    have ebw : (w3.alloc (.cells #[.int .i64 s'.id, .int .i64 s'.co, .int .i64 s'.me, .int .i64 s'.cu, .int .i64 s'.da, .int .i64 s'.nn, .int .i64 s'.ra, .int .i64 s'.nu, .int .i64 s'.de, .slice aw l'.length cw, .slice apw p'.length cpw, .int .i64 s'.op, .int .i64 s'.up] 31)).heap.size = w3.heap.size + 1 := by simp only [sz_al]
    clear bl
    obtain ⟨y0, y1, y2, y3, y4, y5, y6, y7, y8, y9, y10, y11, y12⟩ := OA.out
    go_wp2_with fail
    obtain ⟨bw, hbw⟩ : ∃ bw, bw = w3.heap.size := ⟨_, rfl⟩
    rw [← hbw] at OW ebw ⊢
    have gbw : bw ≤ w3.heap.size := Nat.le_of_eq hbw
    have kbw : w3.heap.size ≤ bw := Nat.le_of_eq hbw.symm
    clear hbw
    generalize w3.alloc (.cells #[.int .i64 s'.id, .int .i64 s'.co, .int .i64 s'.me, .int .i64 s'.cu, .int .i64 s'.da, .int .i64 s'.nn, .int .i64 s'.ra, .int .i64 s'.nu, .int .i64 s'.de, .slice aw l'.length cw, .slice apw p'.length cpw, .int .i64 s'.op, .int .i64 s'.up] 31) = W3 at BB OA LW sLW OW ebw y0 y1 y2 y3 y4 y5 y6 y7 y8 y9 y10 y11 y12 ⊢
    refine (CT.out W3 BB.out).mono ?_
    rintro e w4 ⟨gx, hx, gsx, rfl, ol, -, -, -, b⟩
    replace BB := Lib.hid (BB.out.trans (b.mono BB.out.size))
    have n4 := b.size
    replace OA := Lib.hid (OA.out.keep (b.block _ OA.out.lt))
    replace LW := Lib.hid (LW.out.keep (fun c _ hc => b.block c (Nat.lt_of_lt_of_le hc sLW)) b.size)
    replace OW := Lib.hid (OW.out.keep (b.block _ OW.out.lt))
    replace sLW := Nat.le_trans sLW b.size
    have LX := Lib.hid (OI.of ol)
    have sLX := Nat.le_refl w4.heap.size
    clear b ol
    clear y0 y1 y2 y3 y4 y5 y6 y7 y8 y9 y10 y11 y12
    have bl := (Below.refl w4.heap.size w4).alloc (Nat.le_refl _) (.cells #[.int .i64 s.id, .int .i64 s.co, .int .i64 s.me, .int .i64 s.cu, .int .i64 s.da, .int .i64 s.nn, .int .i64 s.ra, .int .i64 s.nu, .int .i64 s.de, .slice (some ⟨gx, 0, none⟩) l.length l.length, .slice (some ⟨hx, 0, none⟩) p.length p.length, .int .i64 s.op, .int .i64 s.up] 31)
    replace BB := Lib.hid (BB.out.trans (bl.mono BB.out.size))
    replace OA := Lib.hid (OA.out.keep (bl.block _ OA.out.lt))
    replace LW := Lib.hid (LW.out.keep (fun c _ hc => bl.block c (Nat.lt_of_lt_of_le hc sLW)) bl.size)
    replace OW := Lib.hid (OW.out.keep (bl.block _ OW.out.lt))
    replace LX := Lib.hid (LX.out.keep (fun c _ hc => bl.block c (Nat.lt_of_lt_of_le hc sLX)) bl.size)
    replace sLW := Nat.le_trans sLW bl.size
    replace sLX := Nat.le_trans sLX bl.size
    have OX := Lib.hid (OB.new w4 s (some ⟨gx, 0, none⟩) l.length l.length (some ⟨hx, 0, none⟩) p.length p.length 31)
    have ebx : (w4.alloc (.cells #[.int .i64 s.id, .int .i64 s.co, .int .i64 s.me, .int .i64 s.cu, .int .i64 s.da, .int .i64 s.nn, .int .i64 s.ra, .int .i64 s.nu, .int .i64 s.de, .slice (some ⟨gx, 0, none⟩) l.length l.length, .slice (some ⟨hx, 0, none⟩) p.length p.length, .int .i64 s.op, .int .i64 s.up] 31)).heap.size = w4.heap.size + 1 := by simp only [sz_al]
    clear bl
    go_wp2_with fail
    obtain ⟨bx, hbx⟩ : ∃ bx, bx = w4.heap.size := ⟨_, rfl⟩
    rw [← hbx] at OX ebx ⊢
    have gbx : bx ≤ w4.heap.size := Nat.le_of_eq hbx
    have kbx : w4.heap.size ≤ bx := Nat.le_of_eq hbx.symm
    clear hbx
    generalize w4.alloc (.cells #[.int .i64 s.id, .int .i64 s.co, .int .i64 s.me, .int .i64 s.cu, .int .i64 s.da, .int .i64 s.nn, .int .i64 s.ra, .int .i64 s.nu, .int .i64 s.de, .slice (some ⟨gx, 0, none⟩) l.length l.length, .slice (some ⟨hx, 0, none⟩) p.length p.length, .int .i64 s.op, .int .i64 s.up] 31) = W4 at BB OA LW OW LX sLW sLX OX ebx  ⊢
    refine (CIM.out W4 _ gx hx gsx LX.out.ol).mono ?_
    rintro e w5 ⟨v, rfl, ag, cg, gg, apg, cpg, gpg, gsg, csg, rfl, ol, b⟩
    replace BB := Lib.hid (BB.out.trans (b.mono BB.out.size))
    have n5 := b.size
    replace OA := Lib.hid (OA.out.keep (b.block _ OA.out.lt))
    replace LW := Lib.hid (LW.out.keep (fun c _ hc => b.block c (Nat.lt_of_lt_of_le hc sLW)) b.size)
    replace OW := Lib.hid (OW.out.keep (b.block _ OW.out.lt))
    replace LX := Lib.hid (LX.out.keep (fun c _ hc => b.block c (Nat.lt_of_lt_of_le hc sLX)) b.size)
    replace OX := Lib.hid (OX.out.keep (b.block _ OX.out.lt))
    replace sLW := Nat.le_trans sLW b.size
    replace sLX := Nat.le_trans sLX b.size
    have LG := Lib.hid (OI.of ol)
    have sLG := Nat.le_refl w5.heap.size
    clear b ol
    have bl := (Below.refl w5.heap.size w5).alloc (Nat.le_refl _) (.cells #[.int .i64 s'.id, .int .i64 s'.co, .int .i64 s'.me, .int .i64 s'.cu, .int .i64 s'.da, .int .i64 s'.nn, .int .i64 s'.ra, .int .i64 s'.nu, .int .i64 s'.de, .slice ag l'.length cg, .slice apg p'.length cpg, .int .i64 s'.op, .int .i64 s'.up] 31)
    replace BB := Lib.hid (BB.out.trans (bl.mono BB.out.size))
    replace OA := Lib.hid (OA.out.keep (bl.block _ OA.out.lt))
    replace LW := Lib.hid (LW.out.keep (fun c _ hc => bl.block c (Nat.lt_of_lt_of_le hc sLW)) bl.size)
    replace OW := Lib.hid (OW.out.keep (bl.block _ OW.out.lt))
    replace LX := Lib.hid (LX.out.keep (fun c _ hc => bl.block c (Nat.lt_of_lt_of_le hc sLX)) bl.size)
    replace OX := Lib.hid (OX.out.keep (bl.block _ OX.out.lt))
    replace LG := Lib.hid (LG.out.keep (fun c _ hc => bl.block c (Nat.lt_of_lt_of_le hc sLG)) bl.size)
    replace sLW := Nat.le_trans sLW bl.size
    replace sLX := Nat.le_trans sLX bl.size
    replace sLG := Nat.le_trans sLG bl.size
    have OG := Lib.hid (OB.new w5 s' ag l'.length cg apg p'.length cpg 31)
    have ebg : (w5.alloc (.cells #[.int .i64 s'.id, .int .i64 s'.co, .int .i64 s'.me, .int .i64 s'.cu, .int .i64 s'.da, .int .i64 s'.nn, .int .i64 s'.ra, .int .i64 s'.nu, .int .i64 s'.de, .slice ag l'.length cg, .slice apg p'.length cpg, .int .i64 s'.op, .int .i64 s'.up] 31)).heap.size = w5.heap.size + 1 := by simp only [sz_al]
    clear bl
    obtain ⟨v0, v1, v2, v3, v4, v5, v6, v7, v8, v9, v10, v11, v12⟩ := OW.out
    go_wp2_with fail
    obtain ⟨bg, hbg⟩ : ∃ bg, bg = w5.heap.size := ⟨_, rfl⟩
    rw [← hbg] at OG ebg ⊢
    have gbg : bg ≤ w5.heap.size := Nat.le_of_eq hbg
    have kbg : w5.heap.size ≤ bg := Nat.le_of_eq hbg.symm
    clear hbg
    generalize w5.alloc (.cells #[.int .i64 s'.id, .int .i64 s'.co, .int .i64 s'.me, .int .i64 s'.cu, .int .i64 s'.da, .int .i64 s'.nn, .int .i64 s'.ra, .int .i64 s'.nu, .int .i64 s'.de, .slice ag l'.length cg, .slice apg p'.length cpg, .int .i64 s'.op, .int .i64 s'.up] 31) = W5 at BB OA LW OW LX OX LG OG sLW sLX sLG ebg v0 v1 v2 v3 v4 v5 v6 v7 v8 v9 v10 v11 v12 ⊢
    refine (CER.out W5 _ _ _ _ ag cg gg apg cpg gpg gsg csg aw cw gw apw cpw gpw gsw csw LG.out LW.out).mono ?_
    rintro e w6 ⟨rfl, b⟩
    replace BB := Lib.hid (BB.out.trans (b.mono BB.out.size))
    have n6 := b.size
    replace OA := Lib.hid (OA.out.keep (b.block _ OA.out.lt))
    replace LW := Lib.hid (LW.out.keep (fun c _ hc => b.block c (Nat.lt_of_lt_of_le hc sLW)) b.size)
    replace OW := Lib.hid (OW.out.keep (b.block _ OW.out.lt))
    replace LX := Lib.hid (LX.out.keep (fun c _ hc => b.block c (Nat.lt_of_lt_of_le hc sLX)) b.size)
    replace OX := Lib.hid (OX.out.keep (b.block _ OX.out.lt))
    replace LG := Lib.hid (LG.out.keep (fun c _ hc => b.block c (Nat.lt_of_lt_of_le hc sLG)) b.size)
    replace OG := Lib.hid (OG.out.keep (b.block _ OG.out.lt))
    replace sLW := Nat.le_trans sLW b.size
    replace sLX := Nat.le_trans sLX b.size
    replace sLG := Nat.le_trans sLG b.size
    clear b
    clear v0 v1 v2 v3 v4 v5 v6 v7 v8 v9 v10 v11 v12
    have tC : (C != C) = false := by simp
    have tK : (K2 != K2) = false := by simp
    have tS0 : (S0 != S0) = false := by simp
    have tS1 : (S1 != S1) = false := by simp
    have KS := Lib.hid (show ∀ W, OB W w.heap.size s ai l.length ci ap p.length cp → OB W bx s (some ⟨gx, 0, none⟩) l.length l.length (some ⟨hx, 0, none⟩) p.length p.length → (W.cell? ⟨w.heap.size, 0, none⟩ = some (.int .i64 s.id) ∧ W.cell? ⟨w.heap.size, 1, none⟩ = some (.int .i64 s.co) ∧ W.cell? ⟨w.heap.size, 2, none⟩ = some (.int .i64 s.me) ∧ W.cell? ⟨w.heap.size, 3, none⟩ = some (.int .i64 s.cu) ∧ W.cell? ⟨w.heap.size, 4, none⟩ = some (.int .i64 s.da) ∧ W.cell? ⟨w.heap.size, 5, none⟩ = some (.int .i64 s.nn) ∧ W.cell? ⟨w.heap.size, 6, none⟩ = some (.int .i64 s.ra) ∧ W.cell? ⟨w.heap.size, 7, none⟩ = some (.int .i64 s.nu) ∧ W.cell? ⟨w.heap.size, 8, none⟩ = some (.int .i64 s.de) ∧ W.cell? ⟨w.heap.size, 9, none⟩ = some (.slice ai l.length ci) ∧ W.cell? ⟨w.heap.size, 10, none⟩ = some (.slice ap p.length cp) ∧ W.cell? ⟨w.heap.size, 11, none⟩ = some (.int .i64 s.op) ∧ W.cell? ⟨w.heap.size, 12, none⟩ = some (.int .i64 s.up) ∧ W.cell? ⟨bx, 0, none⟩ = some (.int .i64 s.id) ∧ W.cell? ⟨bx, 1, none⟩ = some (.int .i64 s.co) ∧ W.cell? ⟨bx, 2, none⟩ = some (.int .i64 s.me) ∧ W.cell? ⟨bx, 3, none⟩ = some (.int .i64 s.cu) ∧ W.cell? ⟨bx, 4, none⟩ = some (.int .i64 s.da) ∧ W.cell? ⟨bx, 5, none⟩ = some (.int .i64 s.nn) ∧ W.cell? ⟨bx, 6, none⟩ = some (.int .i64 s.ra) ∧ W.cell? ⟨bx, 7, none⟩ = some (.int .i64 s.nu) ∧ W.cell? ⟨bx, 8, none⟩ = some (.int .i64 s.de) ∧ W.cell? ⟨bx, 9, none⟩ = some (.slice (some ⟨gx, 0, none⟩) l.length l.length) ∧ W.cell? ⟨bx, 10, none⟩ = some (.slice (some ⟨hx, 0, none⟩) p.length p.length) ∧ W.cell? ⟨bx, 11, none⟩ = some (.int .i64 s.op) ∧ W.cell? ⟨bx, 12, none⟩ = some (.int .i64 s.up)) from fun W h k => ⟨h.c0, h.c1, h.c2, h.c3, h.c4, h.c5, h.c6, h.c7, h.c8, h.c9, h.c10, h.c11, h.c12, k.c0, k.c1, k.c2, k.c3, k.c4, k.c5, k.c6, k.c7, k.c8, k.c9, k.c10, k.c11, k.c12⟩)
    have S0h := Lib.hid (KS.out w6 OA.out OX.out)
    have bd := (Below.refl w6.heap.size w6).drew
    replace BB := Lib.hid (BB.out.trans (bd.mono BB.out.size))
    replace OA := Lib.hid (OA.out.keep (bd.block _ OA.out.lt))
    replace LW := Lib.hid (LW.out.keep (fun c _ hc => bd.block c (Nat.lt_of_lt_of_le hc sLW)) bd.size)
    replace OW := Lib.hid (OW.out.keep (bd.block _ OW.out.lt))
    replace LX := Lib.hid (LX.out.keep (fun c _ hc => bd.block c (Nat.lt_of_lt_of_le hc sLX)) bd.size)
    replace OX := Lib.hid (OX.out.keep (bd.block _ OX.out.lt))
    replace LG := Lib.hid (LG.out.keep (fun c _ hc => bd.block c (Nat.lt_of_lt_of_le hc sLG)) bd.size)
    replace OG := Lib.hid (OG.out.keep (bd.block _ OG.out.lt))
    replace sLW := Nat.le_trans sLW bd.size
    replace sLX := Nat.le_trans sLX bd.size
    replace sLG := Nat.le_trans sLG bd.size
    clear bd
    have SD := Lib.hid (KS.out w6.drew OA.out OX.out)
    go_wp2_with fail
    go_region_held3 (fun w' => w'.cell? ⟨w.heap.size, 0, none⟩ = some (.int .i64 s.id) ∧ w'.cell? ⟨w.heap.size, 1, none⟩ = some (.int .i64 s.co) ∧ w'.cell? ⟨w.heap.size, 2, none⟩ = some (.int .i64 s.me) ∧ w'.cell? ⟨w.heap.size, 3, none⟩ = some (.int .i64 s.cu) ∧ w'.cell? ⟨w.heap.size, 4, none⟩ = some (.int .i64 s.da) ∧ w'.cell? ⟨w.heap.size, 5, none⟩ = some (.int .i64 s.nn) ∧ w'.cell? ⟨w.heap.size, 6, none⟩ = some (.int .i64 s.ra) ∧ w'.cell? ⟨w.heap.size, 7, none⟩ = some (.int .i64 s.nu) ∧ w'.cell? ⟨w.heap.size, 8, none⟩ = some (.int .i64 s.de) ∧ w'.cell? ⟨w.heap.size, 9, none⟩ = some (.slice ai l.length ci) ∧ w'.cell? ⟨w.heap.size, 10, none⟩ = some (.slice ap p.length cp) ∧ w'.cell? ⟨w.heap.size, 11, none⟩ = some (.int .i64 s.op) ∧ w'.cell? ⟨w.heap.size, 12, none⟩ = some (.int .i64 s.up) ∧ w'.cell? ⟨bx, 0, none⟩ = some (.int .i64 s.id) ∧ w'.cell? ⟨bx, 1, none⟩ = some (.int .i64 s.co) ∧ w'.cell? ⟨bx, 2, none⟩ = some (.int .i64 s.me) ∧ w'.cell? ⟨bx, 3, none⟩ = some (.int .i64 s.cu) ∧ w'.cell? ⟨bx, 4, none⟩ = some (.int .i64 s.da) ∧ w'.cell? ⟨bx, 5, none⟩ = some (.int .i64 s.nn) ∧ w'.cell? ⟨bx, 6, none⟩ = some (.int .i64 s.ra) ∧ w'.cell? ⟨bx, 7, none⟩ = some (.int .i64 s.nu) ∧ w'.cell? ⟨bx, 8, none⟩ = some (.int .i64 s.de) ∧ w'.cell? ⟨bx, 9, none⟩ = some (.slice (some ⟨gx, 0, none⟩) l.length l.length) ∧ w'.cell? ⟨bx, 10, none⟩ = some (.slice (some ⟨hx, 0, none⟩) p.length p.length) ∧ w'.cell? ⟨bx, 11, none⟩ = some (.int .i64 s.op) ∧ w'.cell? ⟨bx, 12, none⟩ = some (.int .i64 s.up)) (first | exact S9.out | exact S7.out | exact SD.out | exact S0h.out | go_keep)
      (first
        | (go_at_call 18; refine (CEQ.out w7 _ _ gx hx gsx gy hy gsy LX7.out.ol LY.out).mono ?_; rintro e w8 ⟨rfl, b8⟩; have S9 := Lib.hid (KS.out w8 (OA7.out.keep (b8.block _ OA7.out.lt)) (OX7.out.keep (b8.block _ OX7.out.lt))); have b8h := Lib.hid b8; clear b8)
        | (go_at_call 16; refine (CT.out _ BB.out).mono ?_; rintro e w7 ⟨gy, hy, gsy, rfl, ol, -, -, -, b7⟩; have LX7 := Lib.hid (LX.out.keep (fun c _ hc => b7.block c (Nat.lt_of_lt_of_le hc sLX)) b7.size); have LY := Lib.hid ol; have OA7 := Lib.hid (OA.out.keep (b7.block _ OA.out.lt)); have OX7 := Lib.hid (OX.out.keep (b7.block _ OX.out.lt)); have S7 := Lib.hid (KS.out w7 OA7.out OX7.out); have b7h := Lib.hid b7; clear b7 ol))
    have b7 := b7h.out
    replace BB := Lib.hid (BB.out.trans (b7.mono BB.out.size))
    replace OA := Lib.hid (OA.out.keep (b7.block _ OA.out.lt))
    replace LW := Lib.hid (LW.out.keep (fun c _ hc => b7.block c (Nat.lt_of_lt_of_le hc sLW)) b7.size)
    replace OW := Lib.hid (OW.out.keep (b7.block _ OW.out.lt))
    replace LX := Lib.hid (LX.out.keep (fun c _ hc => b7.block c (Nat.lt_of_lt_of_le hc sLX)) b7.size)
    replace OX := Lib.hid (OX.out.keep (b7.block _ OX.out.lt))
    replace LG := Lib.hid (LG.out.keep (fun c _ hc => b7.block c (Nat.lt_of_lt_of_le hc sLG)) b7.size)
    replace OG := Lib.hid (OG.out.keep (b7.block _ OG.out.lt))
    replace sLW := Nat.le_trans sLW b7.size
    replace sLX := Nat.le_trans sLX b7.size
    replace sLG := Nat.le_trans sLG b7.size
    have b8 := b8h.out
    replace BB := Lib.hid (BB.out.trans (b8.mono BB.out.size))
    replace OA := Lib.hid (OA.out.keep (b8.block _ OA.out.lt))
    replace LW := Lib.hid (LW.out.keep (fun c _ hc => b8.block c (Nat.lt_of_lt_of_le hc sLW)) b8.size)
    replace OW := Lib.hid (OW.out.keep (b8.block _ OW.out.lt))
    replace LX := Lib.hid (LX.out.keep (fun c _ hc => b8.block c (Nat.lt_of_lt_of_le hc sLX)) b8.size)
    replace OX := Lib.hid (OX.out.keep (b8.block _ OX.out.lt))
    replace LG := Lib.hid (LG.out.keep (fun c _ hc => b8.block c (Nat.lt_of_lt_of_le hc sLG)) b8.size)
    replace OG := Lib.hid (OG.out.keep (b8.block _ OG.out.lt))
    replace sLW := Nat.le_trans sLW b8.size
    replace sLX := Nat.le_trans sLX b8.size
    replace sLG := Nat.le_trans sLG b8.size
    clear b7 b8 b7h b8h S9 S7 SD S0h LX7 LY OA7 OX7 KS
    obtain ⟨x0, x1, x2, x3, x4, x5, x6, x7, x8, x9, x10, x11, x12⟩ := OX.out
    go_wp2_with fail
    refine (CMX.out w8 _ _ gx hx gsx LX.out).mono ?_
    rintro e w9 ⟨rfl, T, -⟩
    replace T := T.mono LX.out.ins
    replace BB := Lib.hid (BB.out.trans (T.below (B := w.heap.size) (by have := BB.out.size; exact this) (fun c hc => by have := hc.1; omega)))
    replace OA := Lib.hid (OA.out.keep (T.other _ OA.out.lt (fun hc => by have := hc.1; have := hc.2; omega)))
    replace LW := Lib.hid (LW.out.keep (fun c hc1 hc2 => T.other c (Nat.lt_of_lt_of_le hc2 sLW) (fun hc => by have := hc.1; have := hc.2; omega)) T.size)
    replace OW := Lib.hid (OW.out.keep (T.other _ OW.out.lt (fun hc => by have := hc.1; have := hc.2; omega)))
    replace OX := Lib.hid (OX.out.keep (T.other _ OX.out.lt (fun hc => by have := hc.1; have := hc.2; omega)))
    replace LG := Lib.hid (LG.out.keep (fun c hc1 hc2 => T.other c (Nat.lt_of_lt_of_le hc2 sLG) (fun hc => by have := hc.1; have := hc.2; omega)) T.size)
    replace OG := Lib.hid (OG.out.keep (T.other _ OG.out.lt (fun hc => by have := hc.1; have := hc.2; omega)))
    replace sLW := Nat.le_trans sLW T.size
    replace sLX := Nat.le_trans sLX T.size
    replace sLG := Nat.le_trans sLG T.size
    clear T LX sLX
    clear x0 x1 x2 x3 x4 x5 x6 x7 x8 x9 x10 x11 x12
    obtain ⟨x0, x1, x2, x3, x4, x5, x6, x7, x8, x9, x10, x11, x12⟩ := OG.out
    obtain ⟨v0, v1, v2, v3, v4, v5, v6, v7, v8, v9, v10, v11, v12⟩ := OW.out
    go_wp2_with fail
    refine (CER.out w9 _ _ _ _ ag cg gg apg cpg gpg gsg csg aw cw gw apw cpw gpw gsw csw LG.out LW.out).mono ?_
    rintro e w10 ⟨rfl, b⟩
    replace BB := Lib.hid (BB.out.trans (b.mono BB.out.size))
    have n7 := b.size
    replace OA := Lib.hid (OA.out.keep (b.block _ OA.out.lt))
    replace LW := Lib.hid (LW.out.keep (fun c _ hc => b.block c (Nat.lt_of_lt_of_le hc sLW)) b.size)
    replace OW := Lib.hid (OW.out.keep (b.block _ OW.out.lt))
    replace OX := Lib.hid (OX.out.keep (b.block _ OX.out.lt))
    replace LG := Lib.hid (LG.out.keep (fun c _ hc => b.block c (Nat.lt_of_lt_of_le hc sLG)) b.size)
    replace OG := Lib.hid (OG.out.keep (b.block _ OG.out.lt))
    replace sLW := Nat.le_trans sLW b.size
    replace sLG := Nat.le_trans sLG b.size
    clear b
    clear x0 x1 x2 x3 x4 x5 x6 x7 x8 x9 x10 x11 x12 v0 v1 v2 v3 v4 v5 v6 v7 v8 v9 v10 v11 v12
    obtain ⟨x0, x1, x2, x3, x4, x5, x6, x7, x8, x9, x10, x11, x12⟩ := OG.out
    go_wp2_with fail
    refine (CMG.out w10 _ _ ag cg gg apg cpg gpg gsg csg LG.out).mono ?_
    rintro e w11 ⟨rfl, T, mk⟩
    replace T := T.mono LG.out.ins
    replace BB := Lib.hid (BB.out.trans (T.below (B := w.heap.size) (by have := BB.out.size; exact this) (fun c hc => by have := hc.1; omega)))
    replace OA := Lib.hid (OA.out.keep (T.other _ OA.out.lt (fun hc => by have := hc.1; have := hc.2; omega)))
    replace LW := Lib.hid (LW.out.keep (fun c hc1 hc2 => T.other c (Nat.lt_of_lt_of_le hc2 sLW) (fun hc => by have := hc.1; have := hc.2; omega)) T.size)
    replace OW := Lib.hid (OW.out.keep (T.other _ OW.out.lt (fun hc => by have := hc.1; have := hc.2; omega)))
    replace OX := Lib.hid (OX.out.keep (T.other _ OX.out.lt (fun hc => by have := hc.1; have := hc.2; omega)))
    replace OG := Lib.hid (OG.out.keep (T.other _ OG.out.lt (fun hc => by have := hc.1; have := hc.2; omega)))
    replace sLW := Nat.le_trans sLW T.size
    replace sLG := Nat.le_trans sLG T.size
    have MG := Lib.hid (MI.of LG.out mk)
    have sMG := sLG
    clear T LG sLG mk
    clear x0 x1 x2 x3 x4 x5 x6 x7 x8 x9 x10 x11 x12
    obtain ⟨x0, x1, x2, x3, x4, x5, x6, x7, x8, x9, x10, x11, x12⟩ := OG.out
    go_wp2_with fail
    refine (CHG.out w11 _ _ ag cg gg apg cpg gpg gsg csg MG.out sMG).mono ?_
    rintro e w12 ⟨rfl, b⟩
    replace BB := Lib.hid (BB.out.trans (b.mono BB.out.size))
    have n8 := b.size
    replace OA := Lib.hid (OA.out.keep (b.block _ OA.out.lt))
    replace LW := Lib.hid (LW.out.keep (fun c _ hc => b.block c (Nat.lt_of_lt_of_le hc sLW)) b.size)
    replace OW := Lib.hid (OW.out.keep (b.block _ OW.out.lt))
    replace OX := Lib.hid (OX.out.keep (b.block _ OX.out.lt))
    replace OG := Lib.hid (OG.out.keep (b.block _ OG.out.lt))
    replace MG := Lib.hid (MG.out.keep (fun c _ hc => b.block c (Nat.lt_of_lt_of_le hc sMG)))
    replace sLW := Nat.le_trans sLW b.size
    replace sMG := Nat.le_trans sMG b.size
    clear b
    clear x0 x1 x2 x3 x4 x5 x6 x7 x8 x9 x10 x11 x12
    obtain ⟨y0, y1, y2, y3, y4, y5, y6, y7, y8, y9, y10, y11, y12⟩ := OA.out
    go_wp2_with fail
    refine (CT.out w12 BB.out).mono ?_
    rintro e w13 ⟨gz, hz, gsz, rfl, ol, -, -, -, b⟩
    replace BB := Lib.hid (BB.out.trans (b.mono BB.out.size))
    have n9 := b.size
    replace OA := Lib.hid (OA.out.keep (b.block _ OA.out.lt))
    replace LW := Lib.hid (LW.out.keep (fun c _ hc => b.block c (Nat.lt_of_lt_of_le hc sLW)) b.size)
    replace OW := Lib.hid (OW.out.keep (b.block _ OW.out.lt))
    replace OX := Lib.hid (OX.out.keep (b.block _ OX.out.lt))
    replace OG := Lib.hid (OG.out.keep (b.block _ OG.out.lt))
    replace MG := Lib.hid (MG.out.keep (fun c _ hc => b.block c (Nat.lt_of_lt_of_le hc sMG)))
    replace sLW := Nat.le_trans sLW b.size
    replace sMG := Nat.le_trans sMG b.size
    have LZ := Lib.hid ol
    clear b ol
    clear y0 y1 y2 y3 y4 y5 y6 y7 y8 y9 y10 y11 y12
    go_wp2_with fail
    refine (CIM.out w13 _ gz hz gsz LZ.out).mono ?_
    rintro e w14 ⟨v, rfl, ah, ch, gh, aph, cph, gph, gsh, csh, rfl, ol, b⟩
    replace BB := Lib.hid (BB.out.trans (b.mono BB.out.size))
    have n10 := b.size
    replace OA := Lib.hid (OA.out.keep (b.block _ OA.out.lt))
    replace LW := Lib.hid (LW.out.keep (fun c _ hc => b.block c (Nat.lt_of_lt_of_le hc sLW)) b.size)
    replace OW := Lib.hid (OW.out.keep (b.block _ OW.out.lt))
    replace OX := Lib.hid (OX.out.keep (b.block _ OX.out.lt))
    replace OG := Lib.hid (OG.out.keep (b.block _ OG.out.lt))
    replace MG := Lib.hid (MG.out.keep (fun c _ hc => b.block c (Nat.lt_of_lt_of_le hc sMG)))
    replace sLW := Nat.le_trans sLW b.size
    replace sMG := Nat.le_trans sMG b.size
    have LH := Lib.hid (OI.of ol)
    have sLH := Nat.le_refl w14.heap.size
    clear b ol LZ
    have bl := (Below.refl w14.heap.size w14).alloc (Nat.le_refl _) (.cells #[.int .i64 s'.id, .int .i64 s'.co, .int .i64 s'.me, .int .i64 s'.cu, .int .i64 s'.da, .int .i64 s'.nn, .int .i64 s'.ra, .int .i64 s'.nu, .int .i64 s'.de, .slice ah l'.length ch, .slice aph p'.length cph, .int .i64 s'.op, .int .i64 s'.up] 31)
    replace BB := Lib.hid (BB.out.trans (bl.mono BB.out.size))
    replace OA := Lib.hid (OA.out.keep (bl.block _ OA.out.lt))
    replace LW := Lib.hid (LW.out.keep (fun c _ hc => bl.block c (Nat.lt_of_lt_of_le hc sLW)) bl.size)
    replace OW := Lib.hid (OW.out.keep (bl.block _ OW.out.lt))
    replace OX := Lib.hid (OX.out.keep (bl.block _ OX.out.lt))
    replace OG := Lib.hid (OG.out.keep (bl.block _ OG.out.lt))
    replace MG := Lib.hid (MG.out.keep (fun c _ hc => bl.block c (Nat.lt_of_lt_of_le hc sMG)))
    replace LH := Lib.hid (LH.out.keep (fun c _ hc => bl.block c (Nat.lt_of_lt_of_le hc sLH)) bl.size)
    replace sLW := Nat.le_trans sLW bl.size
    replace sMG := Nat.le_trans sMG bl.size
    replace sLH := Nat.le_trans sLH bl.size
    clear bl
    obtain ⟨v0, v1, v2, v3, v4, v5, v6, v7, v8, v9, v10, v11, v12⟩ := OW.out
    go_wp2_with fail
    generalize w14.alloc (.cells #[.int .i64 s'.id, .int .i64 s'.co, .int .i64 s'.me, .int .i64 s'.cu, .int .i64 s'.da, .int .i64 s'.nn, .int .i64 s'.ra, .int .i64 s'.nu, .int .i64 s'.de, .slice ah l'.length ch, .slice aph p'.length cph, .int .i64 s'.op, .int .i64 s'.up] 31) = W14 at BB OA LW OW OX OG MG LH sLW sMG sLH v0 v1 v2 v3 v4 v5 v6 v7 v8 v9 v10 v11 v12 ⊢
    refine (CER.out W14 _ _ _ _ ah ch gh aph cph gph gsh csh aw cw gw apw cpw gpw gsw csw LH.out LW.out).mono ?_
    rintro e w15 ⟨rfl, b⟩
    replace BB := Lib.hid (BB.out.trans (b.mono BB.out.size))
    have n11 := b.size
    replace OA := Lib.hid (OA.out.keep (b.block _ OA.out.lt))
    replace LW := Lib.hid (LW.out.keep (fun c _ hc => b.block c (Nat.lt_of_lt_of_le hc sLW)) b.size)
    replace OW := Lib.hid (OW.out.keep (b.block _ OW.out.lt))
    replace OX := Lib.hid (OX.out.keep (b.block _ OX.out.lt))
    replace OG := Lib.hid (OG.out.keep (b.block _ OG.out.lt))
    replace MG := Lib.hid (MG.out.keep (fun c _ hc => b.block c (Nat.lt_of_lt_of_le hc sMG)))
    replace LH := Lib.hid (LH.out.keep (fun c _ hc => b.block c (Nat.lt_of_lt_of_le hc sLH)) b.size)
    replace sLW := Nat.le_trans sLW b.size
    replace sMG := Nat.le_trans sMG b.size
    replace sLH := Nat.le_trans sLH b.size
    clear b
    clear v0 v1 v2 v3 v4 v5 v6 v7 v8 v9 v10 v11 v12
    obtain ⟨x0, x1, x2, x3, x4, x5, x6, x7, x8, x9, x10, x11, x12⟩ := OG.out
    go_wp2_with fail
    refine (CHG.out w15 _ _ ag cg gg apg cpg gpg gsg csg MG.out sMG).mono ?_
    rintro e w16 ⟨rfl, b⟩
    replace BB := Lib.hid (BB.out.trans (b.mono BB.out.size))
    have n12 := b.size
    replace OA := Lib.hid (OA.out.keep (b.block _ OA.out.lt))
    replace LW := Lib.hid (LW.out.keep (fun c _ hc => b.block c (Nat.lt_of_lt_of_le hc sLW)) b.size)
    replace OW := Lib.hid (OW.out.keep (b.block _ OW.out.lt))
    replace OX := Lib.hid (OX.out.keep (b.block _ OX.out.lt))
    replace OG := Lib.hid (OG.out.keep (b.block _ OG.out.lt))
    replace MG := Lib.hid (MG.out.keep (fun c _ hc => b.block c (Nat.lt_of_lt_of_le hc sMG)))
    replace LH := Lib.hid (LH.out.keep (fun c _ hc => b.block c (Nat.lt_of_lt_of_le hc sLH)) b.size)
    replace sLW := Nat.le_trans sLW b.size
    replace sMG := Nat.le_trans sMG b.size
    replace sLH := Nat.le_trans sLH b.size
    clear b
    clear x0 x1 x2 x3 x4 x5 x6 x7 x8 x9 x10 x11 x12
    go_wp2
    go_ret
    exact ⟨rfl, BB.out⟩
  · rw [pls.lft_f hT] at SZ
    have t1 : decide ((-1 : Int) < 0) = true := by decide
    clear h1 h2 hm hT hl hn
    go_enter Try.func11, Try.ntmps11
    go_wp2_with fail
    refine SZ.mono ?_
    rintro e w1 ⟨rfl, b⟩
    have B1 := Lib.hid (B0.out.trans (b.mono B0.out.size))
    clear b
    go_wp2
    go_ret
    exact ⟨rfl, B1.out⟩

theorem own : ownKnob Try.prog.godebug = none := by kernel_rfl
theorem laidOut : laidOutB Try.prog = true := by kernel_rfl
theorem isLaw : lift.IsLaw Rows.fnExactOrderRefundSpec 3 0 := fun _ ds gs h1 h2 => match ds, h1 with | [_, _, _], _ => match gs, h2 with | [], _ => rfl

set_option maxRecDepth 100000 in
theorem lifted (os : Os) (started : os.Started) (H : Type) (enc : TypeId × Value → H) :
    ReturnsInHanded {} Try.checked os 11 .any (Rows.fnExactOrderRefundSpec.pre6 enc Try.prog Try.f11 Rows.fnExactOrderRefundRow.domain false) (Rows.fnExactOrderRefundSpec.post enc Try.prog Try.f11 false true false false) := by
  refine returnsInHanded_of_change (C := Try.checked) own started (by kernel_rfl) Try.func11
    (ChangeSpec.witness6 (enc := enc) (C := Try.checked) false ⟨#[], #[.agg #[.int .i64 0, .int .i64 0, .int .i64 0, .int .i64 0, .int .i64 0, .int .i64 0, .int .i64 0, .int .i64 0, .int .i64 0, .slice none 0 0, .slice none 0 0, .int .i64 0, .int .i64 0], .int .i64 0, .int .i64 0], []⟩ 20 (by kernel_rfl) (by kernel_rfl) (by kernel_rfl) (by kernel_rfl)) ?_
  intro W base args ds gs before hval0 hW _ _
  have hval : ∀ (j : Nat) t v, Try.f11.params[j]? = some t → args[j]? = some v → Value.okWide Try.prog W .any base t v := hval0
  have hW' := hW
  obtain ⟨p, q, hA0, hV, hrest⟩ := hW
  have hA : DataW.TrodAll enc Try.prog W 0 (fun _ => true) true Try.f11.params.toList args.toList ds p := hA0
  clear hA0 hval0 hV hrest
  rw [Try.params11] at hA hval
  obtain ⟨v0, v1, v2, d0, d1, d2, p0, p1, p2, rfl, rfl, rfl, h0, h1, h2⟩ := trodAll_three hA
  obtain ⟨s, ai, ci, l, ap, cp, pp, rfl, hl, hn, i1, i2, hm⟩ := pls.open_order (hval 0 25 v0 rfl rfl) h0
  obtain ⟨x1, rfl, rfl, rfl, _⟩ := open_int Try.underlying2 (hval 1 2 v1 rfl rfl) h1
  obtain ⟨x2, rfl, rfl, rfl, _⟩ := open_int Try.underlying2 (hval 2 2 v2 rfl rfl) h2
  refine (walk x1 x2 s ai ci l ap cp pp W i1 i2 hl hn hm).mono fun e W' ⟨he, hb⟩ => ?_
  subst he
  exact ⟨_, rfl, lift.law_post laidOut (by kernel_rfl) (by kernel_rfl) (by kernel_rfl) Try.underlying4 (by rw [Try.params11]; exact isLaw) hW' hb⟩

theorem over : Rows.fnExactOrderRefundRow.holds Try.pinned (OpenSpec.ofChange Rows.fnExactOrderRefundSpec) :=
  OpenClaim.holds_of_wide 11 Try.f11 rfl rfl rfl rfl rfl rfl rfl ⟨rfl, rfl, rfl, rfl, rfl⟩ rfl rfl rfl rfl rfl (by kernel_rfl) Try.func11 (by kernel_rfl)
    (of_decide_eq_true (by kernel_rfl)) (by unfold Func.isWrapper; first | (rw [if_pos (by decide +kernel)]; kernel_rfl) | (rw [if_neg (by decide +kernel)]; exact ⟨rfl, rfl⟩))
    (fun os started H enc _ => lifted os started H enc)

theorem proved : Rows.FnExactOrderRefundSaid := over
#print axioms proved
end Go.Proofs.Ytmaejlfjdkkpdaa.fnExactOrderRefund
