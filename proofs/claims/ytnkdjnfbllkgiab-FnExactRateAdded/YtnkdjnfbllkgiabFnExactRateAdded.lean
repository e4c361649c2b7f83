/-
  Proved: for every list of rates and rate, the landed RateAdded answers as its model does, in memory of its own, and writes into no argument; the law laws.FnExactRateAdded returns true and its arguments read as before. Conditions: none beyond the given row.
-/
import Derived.Test.YtnkdjnfbllkgiabAddS
import Derived.Test.YtnkdjnfbllkgiabCopy
import Derived.Test.YtnkdjnfbllkgiabEqS
import Derived.Test.YtnkdjnfbllkgiabHeld5
import Derived.Deep.RegionWith
import Derived.Deep.DeepCutAuto
namespace Go.Proofs.Ytnkdjnfbllkgiab.fnExactRateAdded
open Go.ChangeShapes Go.WideShapes Go.ChangeAt Go.RowKit


theorem pcell {B W : World} {n i : Nat} {v : Value} (h : Below B.heap.size B W) (hn : n < B.heap.size) (hc : B.cell? ⟨n, i, none⟩ = some v) : W.cell? ⟨n, i, none⟩ = some v := (h.cell (p := ⟨n, i, none⟩) hn).trans hc
theorem cpB (B : World) (a : Option Addr) (cap : Nat) (l0 : List led.F5) (hI : five.Inp B a l0) (hn : l0.length ≤ 1048576) (W : World) (p : Below B.heap.size B W) : Calls Try.prog 16 #[.slice a l0.length cap] W fun e w' => ∃ g, e = .returned (.slice (some ⟨g, 0, none⟩) l0.length l0.length) ∧ five.Row w' (some ⟨g, 0, none⟩) l0.length g l0 ∧ B.heap.size ≤ g ∧ g < w'.heap.size ∧ Below B.heap.size B w' ∧ Below W.heap.size W w' :=
  (five.copy a cap l0 W (hI.below p) hn).mono fun _ _ ⟨g, he, r, l1, k1, b⟩ => ⟨g, he, r, Nat.le_trans p.size l1, k1, p.trans (b.mono p.size), b⟩
theorem toB (B : World) (x : led.F5) (W : World) (p : Below B.heap.size B W) : Calls Try.prog 12 #[.agg #[.int .i64 x.1, .int .i64 x.2.1, .int .i64 x.2.2.1, .int .i64 x.2.2.2.1, .int .i64 x.2.2.2.2]] W fun e w' => e = .returned (.agg #[.int .i64 x.1, .int .i64 x.2.1, .int .i64 x.2.2.1, .int .i64 x.2.2.2.1, .int .i64 x.2.2.2.2]) ∧ Below B.heap.size B w' ∧ Below W.heap.size W w' :=
  (five.toEl x W).mono fun _ _ ⟨he, b⟩ => ⟨he, p.trans (b.mono p.size), b⟩
def AddB (B : World) (l : List led.F5) (bb : Bool) (e : Ending) (w' : World) : Prop := ∃ a c g, e = .returned (.tuple #[.slice a l.length c, .bool bb]) ∧ five.Row w' a c g l ∧ (0 < l.length → B.heap.size ≤ g ∧ g < w'.heap.size) ∧ Below B.heap.size B w'
theorem walk_big (x : led.F5) (a : Option Addr) (len cap : Nat) (w : World) (hl : len ≤ maxLen) (hb : 1048576 < len) : Calls Try.prog 6 #[.slice a len cap, .agg #[.int .i64 x.1, .int .i64 x.2.1, .int .i64 x.2.2.1, .int .i64 x.2.2.2.1, .int .i64 x.2.2.2.2]] w fun e w' => e = .returned (.bool true) ∧ Below w.heap.size w w' := by
  unfold maxLen at hl
  have t1 : decide ((1048576 : Int) < (len : Int)) = true := by simp; omega
  go_enter Try.func6, Try.ntmps6
  go_wp2
  go_ret
  exact ⟨rfl, (five.Grew.alloc _ _).below⟩
set_option maxRecDepth 100000 in
set_option maxHeartbeats 8000000 in
theorem walk_small (x : led.F5) (a : Option Addr) (cap : Nat) (l0 : List led.F5) (w : World) (hI : five.Inp w a l0) (hn : l0.length ≤ 1048576) : Calls Try.prog 6 #[.slice a l0.length cap, .agg #[.int .i64 x.1, .int .i64 x.2.1, .int .i64 x.2.2.1, .int .i64 x.2.2.2.1, .int .i64 x.2.2.2.2]] w fun e w' => e = .returned (.bool true) ∧ Below w.heap.size w w' := by
  have HI := Lib.hid hI
  clear hI
  have t1 : decide ((1048576 : Int) < (l0.length : Int)) = false := by simp; omega
  have small : (base.adl l0 x).length ≤ 60 := by
    cases hv : led.lv (l0 ++ [x])
    · rw [base.adl_f hv]; simp
    · rw [base.adl_t hv]; exact (led.lv_iff.1 hv).1
  have CS := fun w0 g cl r lg => base.addS w0 g cl l0 x hn lg r
  have CI := fun w0 g cl r => base.addI w0 g cl l0 x hn r
  unfold base.Added at CS CI
  generalize base.adl l0 x = l at CS CI small
  generalize led.lv (l0 ++ [x]) = bb at CS CI
  have CSh := Lib.hid CS
  have CIh := Lib.hid CI
  clear CS CI
  have tt : (bb != bb) = false := by simp
  obtain ⟨W0, hW0⟩ : ∃ W0, W0 = w.alloc (.cells #[.int .i64 x.1, .int .i64 x.2.1, .int .i64 x.2.2.1, .int .i64 x.2.2.2.1, .int .i64 x.2.2.2.2] 23) := ⟨_, rfl⟩
  have K0 := Lib.hid (show Below (w.heap.size + 1) (w.alloc (.cells #[.int .i64 x.1, .int .i64 x.2.1, .int .i64 x.2.2.1, .int .i64 x.2.2.2.1, .int .i64 x.2.2.2.2] 23)) W0 from by rw [hW0]; exact five.box_refl w _)
  have BOX := Lib.hid (show ∀ W, Below (w.heap.size + 1) (w.alloc (.cells #[.int .i64 x.1, .int .i64 x.2.1, .int .i64 x.2.2.1, .int .i64 x.2.2.2.1, .int .i64 x.2.2.2.2] 23)) W → Below w.heap.size w W from fun W h => five.below_box h)
  have CSB := Lib.hid (show ∀ (B W : World) (g cl : Nat), five.Row W (some ⟨g, 0, none⟩) cl g l0 → g < W.heap.size → Below B.heap.size B W → Calls Try.prog 22 #[.slice (some ⟨g, 0, none⟩) l0.length cl, .agg #[.int .i64 x.1, .int .i64 x.2.1, .int .i64 x.2.2.1, .int .i64 x.2.2.2.1, .int .i64 x.2.2.2.2]] W (AddB B l bb) from fun B W g cl r k p => (CSh.out W g cl r k).mono fun e w' ⟨a, c, g', he, r', G, b⟩ => ⟨a, c, g', he, r', fun h => ⟨Nat.le_trans p.size (G h).1, (G h).2⟩, p.trans (b.mono p.size)⟩)
  have CIB := Lib.hid (show ∀ (B W : World) (g cl : Nat), five.Row W (some ⟨g, 0, none⟩) cl g l0 → g < W.heap.size → Below B.heap.size B W → Calls Try.prog 23 #[.slice (some ⟨g, 0, none⟩) l0.length cl, .agg #[.int .i64 x.1, .int .i64 x.2.1, .int .i64 x.2.2.1, .int .i64 x.2.2.2.1, .int .i64 x.2.2.2.2]] W (AddB B l bb) from fun B W g cl r _ p => (CIh.out W g cl r).mono fun e w' ⟨a, c, g', he, r', G, b⟩ => ⟨a, c, g', he, r', fun h => ⟨Nat.le_trans p.size (G h).1, (G h).2⟩, p.trans (b.mono p.size)⟩)
  go_enter Try.func6, Try.ntmps6
  go_wp2_with fail
  refine (five.szOk a l0.length cap 1048576 _ hn (Nat.le_refl _)).mono ?_
  rintro e w' ⟨rfl, rfl⟩
  rw [← hW0]
  have sW0 : W0.heap.size = w.heap.size + 1 := by rw [hW0]; simp
  clear hW0
  go_upto_region 5 with (fail)
  go_cut [6, 7] (fun s6 s7 wx => ∃ a0 c0 g0, s6 = .slice a0 l.length c0 ∧ s7 = .bool bb ∧ five.Row wx a0 c0 g0 l ∧ (0 < l.length → W0.heap.size ≤ g0 ∧ g0 < wx.heap.size) ∧ Below W0.heap.size W0 wx)
  case first =>
    have HB := Lib.hid (show w.heap.size < W0.heap.size from by omega)
    have P0 := Lib.hid (Below.refl W0.heap.size W0)
    have CPB := Lib.hid (cpB W0 a cap l0 (HI.out.below (BOX.out _ K0.out)) hn)
    have TOB := Lib.hid (toB W0 x)
    have CC := Lib.hid (CSB.out W0)
    have b0 := five.box_cell K0.out 0 rfl
    have b1 := five.box_cell K0.out 1 rfl
    have b2 := five.box_cell K0.out 2 rfl
    have b3 := five.box_cell K0.out 3 rfl
    have b4 := five.box_cell K0.out 4 rfl
    clear sW0
    go_region_with (first
      | (go_at_call 16; refine (CPB.out _ ?_).mono ?_; (first | exact PT.out | exact PT.out.drew | exact P0.out | exact P0.out.drew | exact P0.out.drew.drew); rintro e wC ⟨gC, rfl, rc, lc, kc, pc, bc⟩; have RC := Lib.hid rc; have KC := Lib.hid kc; have PC := Lib.hid pc; clear rc kc pc bc lc; have n0 := pcell PC.out HB.out b0; have n1 := pcell PC.out HB.out b1; have n2 := pcell PC.out HB.out b2; have n3 := pcell PC.out HB.out b3; have n4 := pcell PC.out HB.out b4)
      | (go_at_call 12; refine (TOB.out _ ?_).mono ?_; (first | exact PC.out | exact PC.out.drew | exact P0.out | exact P0.out.drew | exact P0.out.drew.drew); rintro e wT ⟨rfl, pt, bt⟩; (try (have RT := Lib.hid (RC.out.keep (w' := wT) fun _ => bt.block gC KC.out); have KT := Lib.hid (show gC < wT.heap.size from Nat.lt_of_lt_of_le KC.out bt.size))); have PT := Lib.hid pt; clear pt bt)
      | (go_at_call 22; refine (CC.out _ gC l0.length ?_ ?_ ?_).mono ?_; (first | exact RT.out | exact RT.out.keep fun _ => rfl | exact RC.out | exact RC.out.keep fun _ => rfl); (first | exact KT.out | exact KC.out); (first | exact PT.out | exact PT.out.drew | exact PC.out | exact PC.out.drew); rintro e wS ⟨aS, cS, gS, rfl, rS, GS, pS⟩; have RS := Lib.hid rS; have HS := Lib.hid GS; have PS := Lib.hid pS; clear rS GS pS))
    all_goals (go_wp2_with fail; go_meet; exact ⟨aS, cS, gS, rfl, rfl, RS.out, HS.out, PS.out⟩)
  case rest =>
  obtain ⟨a0, c0, g0, rfl, rfl, r0, G, b2⟩ := hcut
  have R0 := Lib.hid r0
  have G0 := Lib.hid G
  have K2 := Lib.hid (five.box_step K0.out b2)
  have z12 := b2.size
  clear r0 G b2
  generalize wc = w2 at *
  go_wp2_with fail
  refine (five.copy a cap l0 w2 (HI.out.below (BOX.out _ K2.out)) hn).mono ?_
  rintro e w3 ⟨gx, rfl, rx, lx, kx, b3⟩
  have RX := Lib.hid rx
  have R03 := Lib.hid (R0.out.keep (w' := w3) fun h => b3.block g0 (G0.out h).2)
  have K3 := Lib.hid (five.box_step K2.out b3)
  have z23 := b3.size
  clear rx b3
  have m0 := five.box_cell K3.out 0 rfl
  have m1 := five.box_cell K3.out 1 rfl
  have m2 := five.box_cell K3.out 2 rfl
  have m3 := five.box_cell K3.out 3 rfl
  have m4 := five.box_cell K3.out 4 rfl
  go_wp2_with fail
  refine (five.toEl x w3).mono ?_
  rintro e w3' ⟨rfl, b3⟩
  have RX' := Lib.hid (RX.out.keep (w' := w3') fun _ => b3.block gx kx)
  have R03' := Lib.hid (R03.out.keep (w' := w3') fun h => b3.block g0 (by have := (G0.out h).2; omega))
  have K3' := Lib.hid (five.box_step K3.out b3)
  have z33 := b3.size
  clear b3 m0 m1 m2 m3 m4 RX R03
  go_wp2_with fail
  refine (CIh.out w3' gx _ RX'.out).mono ?_
  rintro e w4 ⟨ag, cg, gg, rfl, rg, G, b4⟩
  have RG := Lib.hid rg
  have GG := Lib.hid G
  have R04 := Lib.hid (R03'.out.keep (w' := w4) fun h => b4.block g0 (by have := (G0.out h).2; omega))
  have RX4 := Lib.hid (RX'.out.keep (w' := w4) fun h => b4.block gx (by omega))
  have K4 := Lib.hid (five.box_step K3'.out b4)
  have z34 := b4.size
  clear rg G b4 R03' RX' R0
  go_wp2_with fail
  refine (five.eqT w4 ag a0 cg c0 gg g0 l RG.out R04.out (by omega)).mono ?_
  rintro e w4' ⟨rfl, b44⟩
  have RG4 := Lib.hid (RG.out.keep (w' := w4') fun h => b44.block gg (GG.out h).2)
  have R044 := Lib.hid (R04.out.keep (w' := w4') fun h => b44.block g0 (by have := (G0.out h).2; omega))
  have RX44 := Lib.hid (RX4.out.keep (w' := w4') fun h => b44.block gx (by omega))
  have K4' := Lib.hid (five.box_step K4.out b44)
  have z44 := b44.size
  clear b44 RG R04 RX4
  go_wp2_with fail
  refine (five.copy a cap l0 w4' (HI.out.below (BOX.out _ K4'.out)) hn).mono ?_
  rintro e w5 ⟨gy, rfl, ry, ly, ky, b5⟩
  have RY := Lib.hid ry
  have RX5 := Lib.hid (RX44.out.keep (w' := w5) fun h => b5.block gx (by omega))
  have RG5 := Lib.hid (RG4.out.keep (w' := w5) fun h => b5.block gg (by have := (GG.out h).2; omega))
  have R05 := Lib.hid (R044.out.keep (w' := w5) fun h => b5.block g0 (by have := (G0.out h).2; omega))
  have K5 := Lib.hid (five.box_step K4'.out b5)
  have z45 := b5.size
  clear ry b5 RX44 RG4 R044
  go_wp2_with fail
  refine (five.eqT w5 _ _ _ _ gx gy l0 RX5.out RY.out hn).mono ?_
  rintro e w5' ⟨rfl, b55⟩
  have RX6 := Lib.hid (RX5.out.keep (w' := w5') fun h => b55.block gx (by omega))
  have RG55 := Lib.hid (RG5.out.keep (w' := w5') fun h => b55.block gg (by have := (GG.out h).2; omega))
  have R055 := Lib.hid (R05.out.keep (w' := w5') fun h => b55.block g0 (by have := (G0.out h).2; omega))
  have K55 := Lib.hid (five.box_step K5.out b55)
  have z55 := b55.size
  clear b55 RX5 RG5 R05 RY
  go_wp2_with fail
  refine (five.mark w5' _ _ gx l0 RX6.out (by omega)).mono ?_
  rintro e w6 ⟨rfl, hm⟩
  have s6 : w6.heap.size = w5'.heap.size := hm.size
  have R06 := Lib.hid (R055.out.keep (w' := w6) fun h => hm.other g0 (fun e => by have := (G0.out h).2; omega))
  have RG6 := Lib.hid (RG55.out.keep (w' := w6) fun h => hm.other gg (fun e => by have := (GG.out h).1; omega))
  have zk2 := K2.out.size
  have K6 := Lib.hid (K55.out.trans (hm.below (B := w.heap.size + 1) (fun _ => by simp at zk2; omega)))
  clear hm RX6 R055 RG55 zk2
  have p1 : decide (1 + (l0.length : Int) * 5 < 0) = false := by simp; omega
  have p1' : decide (1 + ((l0.length * 5 : Nat) : Int) < 0) = false := by simp; omega
  go_wp2_with fail
  refine (five.eqT w6 ag a0 cg c0 gg g0 l RG6.out R06.out (by omega)).mono ?_
  rintro e w6' ⟨rfl, b66⟩
  have RG7 := Lib.hid (RG6.out.keep (w' := w6') fun h => b66.block gg (by have := (GG.out h).2; omega))
  have R066 := Lib.hid (R06.out.keep (w' := w6') fun h => b66.block g0 (by have := (G0.out h).2; omega))
  have K66 := Lib.hid (five.box_step K6.out b66)
  have z66 := b66.size
  clear b66 RG6 R06
  go_wp2_with fail
  refine (five.mark w6' ag cg gg l RG7.out (by omega)).mono ?_
  rintro e w7 ⟨rfl, hm⟩
  have s7 : w7.heap.size = w6'.heap.size := hm.size
  have MK := Lib.hid (show five.Mks w7 ag cg gg l.length from ⟨RG7.out.addr, RG7.out.room, hm.done⟩)
  have R07 := Lib.hid (R066.out.keep (w' := w7) fun h => hm.other g0 (fun e => by have := (G0.out h).2; have := (GG.out h).1; omega))
  have zk3 := K3.out.size
  have K7 := Lib.hid (K66.out.trans (hm.below (B := w.heap.size + 1) (fun hp => by have := (GG.out (by omega)).1; simp at zk3; omega)))
  clear hm RG7 R066 zk3
  go_wp2_with fail
  refine (five.held w7 ag cg gg l.length MK.out (by omega)).mono ?_
  rintro e w' ⟨rfl, rfl⟩
  have p2 : decide (1 + (l.length : Int) * 5 < 0) = false := by simp; omega
  have p2' : decide (1 + ((l.length * 5 : Nat) : Int) < 0) = false := by simp; omega
  have p3 : (1 + (l.length : Int) * 5 != 1 + (l.length : Int) * 5) = false := by simp
  have p3' : (1 + ((l.length * 5 : Nat) : Int) != 1 + ((l.length * 5 : Nat) : Int)) = false := by simp
  go_upto_region 24 with (fail)
  go_cut [14, 15] (fun s6 s7 wx => ∃ a0 c0 g0, s6 = .slice a0 l.length c0 ∧ s7 = .bool bb ∧ five.Row wx a0 c0 g0 l ∧ (0 < l.length → w7.heap.size ≤ g0 ∧ g0 < wx.heap.size) ∧ Below w7.heap.size w7 wx)
  case first =>
    have HB := Lib.hid (show w.heap.size < w7.heap.size from by omega)
    have P0 := Lib.hid (Below.refl w7.heap.size w7)
    have CPB := Lib.hid (cpB w7 a cap l0 (HI.out.below (BOX.out _ K7.out)) hn)
    have TOB := Lib.hid (toB w7 x)
    have CC := Lib.hid (CIB.out w7)
    have b0 := five.box_cell K7.out 0 rfl
    have b1 := five.box_cell K7.out 1 rfl
    have b2 := five.box_cell K7.out 2 rfl
    have b3 := five.box_cell K7.out 3 rfl
    have b4 := five.box_cell K7.out 4 rfl
    go_region_with (first
      | (go_at_call 16; refine (CPB.out _ ?_).mono ?_; (first | exact PT.out | exact PT.out.drew | exact P0.out | exact P0.out.drew | exact P0.out.drew.drew); rintro e wC ⟨gC, rfl, rc, lc, kc, pc, bc⟩; have RC := Lib.hid rc; have KC := Lib.hid kc; have PC := Lib.hid pc; clear rc kc pc bc lc; have n0 := pcell PC.out HB.out b0; have n1 := pcell PC.out HB.out b1; have n2 := pcell PC.out HB.out b2; have n3 := pcell PC.out HB.out b3; have n4 := pcell PC.out HB.out b4)
      | (go_at_call 12; refine (TOB.out _ ?_).mono ?_; (first | exact PC.out | exact PC.out.drew | exact P0.out | exact P0.out.drew | exact P0.out.drew.drew); rintro e wT ⟨rfl, pt, bt⟩; (try (have RT := Lib.hid (RC.out.keep (w' := wT) fun _ => bt.block gC KC.out); have KT := Lib.hid (show gC < wT.heap.size from Nat.lt_of_lt_of_le KC.out bt.size))); have PT := Lib.hid pt; clear pt bt)
      | (go_at_call 23; refine (CC.out _ gC l0.length ?_ ?_ ?_).mono ?_; (first | exact RT.out | exact RT.out.keep fun _ => rfl | exact RC.out | exact RC.out.keep fun _ => rfl); (first | exact KT.out | exact KC.out); (first | exact PT.out | exact PT.out.drew | exact PC.out | exact PC.out.drew); rintro e wS ⟨aS, cS, gS, rfl, rS, GS, pS⟩; have RS := Lib.hid rS; have HS := Lib.hid GS; have PS := Lib.hid pS; clear rS GS pS))
    all_goals (go_wp2_with fail; go_meet; exact ⟨aS, cS, gS, rfl, rfl, RS.out, HS.out, PS.out⟩)
  case rest =>
  obtain ⟨ah, ch, gh, rfl, rfl, rh, G, b9⟩ := hcut
  generalize wc = w9 at *
  have RH := Lib.hid rh
  have R09 := Lib.hid (R07.out.keep (w' := w9) fun h => b9.block g0 (by have := (G0.out h).2; omega))
  have MK9 := Lib.hid (MK.out.keep (w' := w9) fun h => b9.block gg (by have := (GG.out h).2; omega))
  have K9 := Lib.hid (five.box_step K7.out b9)
  have z99 := b9.size
  clear rh G b9 R07 MK
  go_wp2_with fail
  refine (five.eqT w9 ah a0 ch c0 gh g0 l RH.out R09.out (by omega)).mono ?_
  rintro e w9' ⟨rfl, b99⟩
  have MKA := Lib.hid (MK9.out.keep (w' := w9') fun h => b99.block gg (by have := (GG.out h).2; omega))
  have KA := Lib.hid (five.box_step K9.out b99)
  clear b99
  go_wp2_with fail
  refine (five.held w9' ag cg gg l.length MKA.out (by omega)).mono ?_
  rintro e w' ⟨rfl, rfl⟩
  go_wp2
  go_ret
  exact ⟨rfl, BOX.out _ KA.out⟩

theorem own : ownKnob Try.prog.godebug = none := by kernel_rfl
theorem laidOut : laidOutB Try.prog = true := by kernel_rfl
theorem isLaw : lift.IsLaw Rows.fnExactRateAddedSpec 2 0 := fun _ ds gs h1 h2 => match ds, h1 with | [_, _], _ => match gs, h2 with | [], _ => rfl

set_option maxRecDepth 100000 in
theorem lifted (os : Os) (started : os.Started) (H : Type) (enc : TypeId × Value → H) :
    ReturnsInHanded {} Try.checked os 6 .any (Rows.fnExactRateAddedSpec.pre6 enc Try.prog Try.f6 Rows.fnExactRateAddedRow.domain false) (Rows.fnExactRateAddedSpec.post enc Try.prog Try.f6 false true false false) := by
  refine returnsInHanded_of_change (C := Try.checked) own started (by kernel_rfl) Try.func6
    (ChangeSpec.witness6 (enc := enc) (C := Try.checked) false ⟨#[], #[.slice none 0 0, .agg #[.int .i64 0, .int .i64 0, .int .i64 0, .int .i64 0, .int .i64 0]], []⟩ 8 (by kernel_rfl) (by kernel_rfl) (by kernel_rfl) (by kernel_rfl)) ?_
  intro W base args ds gs before hval0 hW _ _
  have hval : ∀ (j : Nat) t v, Try.f6.params[j]? = some t → args[j]? = some v → Value.okWide Try.prog W .any base t v := hval0
  have hW' := hW
  obtain ⟨p, q, hA0, hV, hrest⟩ := hW
  have hA : DataW.TrodAll enc Try.prog W 0 (fun _ => true) true Try.f6.params.toList args.toList ds p := hA0
  clear hA0 hval0 hV hrest
  rw [Try.params6] at hA hval
  obtain ⟨v0, v1, d0, d1, p0, p1, rfl, rfl, rfl, h0, h1⟩ := trodAll_two hA
  obtain ⟨a, cap, l, rfl, hlen, hI, wfl⟩ := five.open_rates (hval 0 28 v0 rfl rfl) h0
  obtain ⟨x, rfl, wx⟩ := five.open_rate (hval 1 23 v1 rfl rfl) h1
  have wk : Calls Try.prog 6 #[.slice a l.length cap, .agg #[.int .i64 x.1, .int .i64 x.2.1, .int .i64 x.2.2.1, .int .i64 x.2.2.2.1, .int .i64 x.2.2.2.2]] W fun e w' => e = .returned (.bool true) ∧ Below W.heap.size W w' := by
    by_cases hb : l.length ≤ 1048576
    · exact walk_small x a cap l W hI hb
    · exact walk_big x a l.length cap W hlen (by omega)
  refine (wk).mono fun e W' ⟨he, hb⟩ => ?_
  subst he
  exact ⟨_, rfl, lift.law_post laidOut (by kernel_rfl) (by kernel_rfl) (by kernel_rfl) Try.underlying4 (by rw [Try.params6]; exact isLaw) hW' hb⟩

theorem over : Rows.fnExactRateAddedRow.holds Try.pinned (OpenSpec.ofChange Rows.fnExactRateAddedSpec) :=
  OpenClaim.holds_of_wide 6 Try.f6 rfl rfl rfl rfl rfl rfl rfl ⟨rfl, rfl, rfl, rfl, rfl⟩ rfl rfl rfl rfl rfl (by kernel_rfl) Try.func6 (by kernel_rfl)
    (of_decide_eq_true (by kernel_rfl)) (by unfold Func.isWrapper; first | (rw [if_pos (by decide +kernel)]; kernel_rfl) | (rw [if_neg (by decide +kernel)]; exact ⟨rfl, rfl⟩))
    (fun os started H enc _ => lifted os started H enc)

theorem proved : Rows.FnExactRateAddedSaid := over
#print axioms proved
end Go.Proofs.Ytnkdjnfbllkgiab.fnExactRateAdded
