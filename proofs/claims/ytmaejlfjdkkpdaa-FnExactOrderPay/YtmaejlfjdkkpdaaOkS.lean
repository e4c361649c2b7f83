/-
  Plain helpers of this seat's proofs: the contract of the model's OrderOk. Conditions: none.
-/
import Derived.Test.YtmaejlfjdkkpdaaSi
import Derived.Test.YtmaejlfjdkkpdaaSmS
import Derived.Test.YtmaejlfjdkkpdaaSmI
import Derived.Test.YtmaejlfjdkkpdaaBxs
import Derived.Test.YtmaejlfjdkkpdaaOk6
import Derived.Test.YtmaejlfjdkkpdaaPkS
import Derived.Test.YtmaejlfjdkkpdaaVaS1
import Derived.Test.YtmaejlfjdkkpdaaVaS2
import Derived.Deep.RegionHeld3
namespace Go.Proofs.Ytmaejlfjdkkpdaa.ob
open Go.ChangeShapes Go.WideShapes Go.ChangeAt Go.RowKit
open gen
open seven (F7 zz Row At)
open four (F4)
open pl (inR)
open pls (nth Pls OL)
open ord (Sc iok)
set_option maxRecDepth 40000 in
set_option maxHeartbeats 4000000 in
theorem sumsS (w : World) (ap : Option Addr) (cp gp : Nat) (p : List (List F7)) (gs cs : Nat → Nat) (r : Pls w ap cp gp p gs cs) (hn : p.length ≤ 8) (hm : ∀ i, i < p.length → (nth p i).length ≤ 1048577) :
    Calls Try.prog 50 #[.slice ap p.length cp] w fun e w' => e = .returned (.agg #[.int .i64 (ord.ps p p.length).1, .int .i64 (ord.ps p p.length).2.1, .int .i64 (ord.ps p p.length).2.2.1, .int .i64 (ord.ps p p.length).2.2.2.1, .int .i64 (ord.ps p p.length).2.2.2.2.1, .int .i64 (ord.ps p p.length).2.2.2.2.2.1, .int .i64 (ord.ps p p.length).2.2.2.2.2.2]) ∧ Below w.heap.size w w' := by
  have R := Lib.hid r
  have HM := Lib.hid hm
  have e1 := r.addr
  have m1 := r.room
  have B0 := Lib.hid (show Below w.heap.size w ((w.alloc (.cells #[.int .i64 0, .int .i64 0, .int .i64 0, .int .i64 0, .int .i64 0, .int .i64 0, .int .i64 0] 37)).alloc (.cells #[.int .i64 0, .int .i64 0, .int .i64 0, .int .i64 0, .int .i64 0, .int .i64 0, .int .i64 0] 37)) from bAl (bAl (Below.refl _ _) (Nat.le_refl _) _) (Nat.le_refl _) _)
  have X0 := (base.Bx.zero w).keep (Below.heap_alloc (w.alloc (.cells #[.int .i64 0, .int .i64 0, .int .i64 0, .int .i64 0, .int .i64 0, .int .i64 0, .int .i64 0] 37)) (.cells #[.int .i64 0, .int .i64 0, .int .i64 0, .int .i64 0, .int .i64 0, .int .i64 0, .int .i64 0] 37) w.heap.size (by simp))
  have Y0 := base.Bx.zero (w.alloc (.cells #[.int .i64 0, .int .i64 0, .int .i64 0, .int .i64 0, .int .i64 0, .int .i64 0, .int .i64 0] 37))
  have z0 : ((w.alloc (.cells #[.int .i64 0, .int .i64 0, .int .i64 0, .int .i64 0, .int .i64 0, .int .i64 0, .int .i64 0] 37)).alloc (.cells #[.int .i64 0, .int .i64 0, .int .i64 0, .int .i64 0, .int .i64 0, .int .i64 0, .int .i64 0] 37)).heap.size = w.heap.size + 1 + 1 := by simp only [sz_al]
  simp only [sz_al] at Y0
  clear r hm
  obtain ⟨n, hnz⟩ : ∃ n, n = p.length := ⟨_, rfl⟩
  rw [← hnz] at hn e1 m1 ⊢
  have HNZ := Lib.hid hnz
  clear hnz
  go_enter Try.func50, Try.ntmps50
  go_wp2_with fail
  generalize (w.alloc (.cells #[.int .i64 0, .int .i64 0, .int .i64 0, .int .i64 0, .int .i64 0, .int .i64 0, .int .i64 0] 37)).alloc (.cells #[.int .i64 0, .int .i64 0, .int .i64 0, .int .i64 0, .int .i64 0, .int .i64 0, .int .i64 0] 37) = W0 at B0 X0 Y0 z0 ⊢
  rcases Nat.eq_zero_or_pos n with rfl | hp
  · clear e1
    go_loop [4] (fun i => i = .int .i64 0) (fun _ => 0)
    case atStart => exact rfl
    case round =>
      obtain rfl := hrel
      obtain ⟨t, ht⟩ : ∃ t, t = zz := ⟨_, rfl⟩
      rw [← ht] at Y0
      have HT := Lib.hid ht
      clear ht
      have S := base.st7_at X0.at_ t
      have SB := Lib.hid (base.st7_below B0.out (Nat.le_refl w.heap.size) t)
      obtain ⟨v0, v1, v2, v3, v4, v5, v6⟩ := Y0.at_
      obtain ⟨a0, a1, a2, a3, a4, a5, a6⟩ := X0.at_
      have f0 := X0.free 0
      have f1 := X0.free 1
      have f2 := X0.free 2
      have f3 := X0.free 3
      have f4 := X0.free 4
      have f5 := X0.free 5
      have f6 := X0.free 6
      simp only [zz, Nat.zero_add] at v0 v1 v2 v3 v4 v5 v6 a0 a1 a2 a3 a4 a5 a6
      go_wp2
      change bodyPost _ _ _ _ _ (base.st7 W0 w.heap.size t)
      generalize base.st7 W0 w.heap.size t = W9 at S SB ⊢
      obtain ⟨c0, c1, c2, c3, c4, c5, c6⟩ := S
      simp only [Nat.zero_add] at c0 c1 c2 c3 c4 c5 c6
      exact bodyPost_ret (v := .agg #[.int .i64 t.1, .int .i64 t.2.1, .int .i64 t.2.2.1, .int .i64 t.2.2.2.1, .int .i64 t.2.2.2.2.1, .int .i64 t.2.2.2.2.2.1, .int .i64 t.2.2.2.2.2.2]) (by simp [results, Try.results50, go_sem, c0, c1, c2, c3, c4, c5, c6]) rfl ⟨by rw [HT.out]; rfl, SB.out⟩
  · obtain rfl := e1 hp
    clear e1
    go_loopw [4] (fun i wr => Below w.heap.size w wr ∧ w.heap.size + 1 < wr.heap.size ∧ base.Bx wr w.heap.size zz ∧ ∃ k : Nat, k ≤ n ∧ i = .int .i64 k ∧ base.Bx wr (w.heap.size + 1) (ord.ps p k)) (fun i _ => n - (intOf i).toNat)
    case atStart => exact ⟨B0.out, by omega, X0, 0, by omega, rfl, Y0⟩
    case round =>
      obtain ⟨hB, hsz, hX, k, hk, rfl, hY⟩ := hrel
      have BB := Lib.hid hB
      clear X0 Y0 z0
      by_cases hlt : k < n
      · have XX := Lib.hid hX
        have YY := Lib.hid hY
        have HLT := Lib.hid (show k < p.length from by rw [← HNZ.out]; exact hlt)
        have q1 := (R.out.below hB).cells k HLT.out
        have CS := Lib.hid (fun W (hb : Below w.heap.size w W) => base.smS W _ _ _ (nth p k) ((R.out.below hb).rows k HLT.out) (HM.out k HLT.out))
        have PS := ord.ps_sin p k
        have TS := ord.sums_sin (nth p k)
        have NX : ord.ps p (k + 1) = pl.add (ord.ps p k) (pl.sums (nth p k)) := rfl
        obtain ⟨T, hT⟩ : ∃ T, T = pl.sums (nth p k) := ⟨_, rfl⟩
        rw [← hT] at CS NX TS
        clear hT
        obtain ⟨S, hS⟩ : ∃ S, S = ord.ps p k := ⟨_, rfl⟩
        rw [← hS] at NX YY PS
        obtain ⟨S0, S1, S2, S3, S4, S5, S6⟩ := S
        obtain ⟨T0, T1, T2, T3, T4, T5, T6⟩ := T
        obtain ⟨d0, a1, a2, a3, a4, a5, a6, a7, a8, a9, b0, b1, b2⟩ := PS
        obtain ⟨-, g1, g2, g3, g4, g5, g6, g7, g8, g9, h0, h1, h2⟩ := TS
        unfold pl.add at NX
        dsimp only at d0 a1 a2 a3 a4 a5 a6 a7 a8 a9 b0 b1 b2 g1 g2 g3 g4 g5 g6 g7 g8 g9 h0 h1 h2 NX CS
        subst d0
        replace a2 : S1 ≤ 200000000000000 := by omega
        replace a4 : S2 ≤ 200000000000000 := by omega
        replace a6 : S3 ≤ 200000000000000 := by omega
        replace g2 : T1 ≤ 24000000000000 := by omega
        replace g4 : T2 ≤ 24000000000000 := by omega
        replace g6 : T3 ≤ 24000000000000 := by omega
        have NX := Lib.hid NX
        clear hS hB hX hY
        generalize (nth p k).length = ln at q1 CS
        generalize gs k = gk at q1 CS
        generalize cs k = ck at q1 CS
        have z1 : (k : Int) < (n : Int) := by omega
        have v1 : decide (k < n) = true := by simp; omega
        go_wp2_with fail
        refine (CS.out _ BB.out).mono ?_
        rintro e w1 ⟨rfl, b1'⟩
        have B1 := Lib.hid (BB.out.trans (b1'.mono BB.out.size))
        have z1' := b1'.size
        have X1 := Lib.hid (XX.out.keep (b1'.block w.heap.size (by omega)))
        have Y1 := Lib.hid (YY.out.keep (b1'.block (w.heap.size + 1) hsz))
        have lw : w.heap.size + 1 < w1.heap.size := by omega
        obtain ⟨y0, y1, y2, y3, y4, y5, y6⟩ := Y1.out.at_
        have f0 := Y1.out.free 0
        have f1 := Y1.out.free 1
        have f2 := Y1.out.free 2
        have f3 := Y1.out.free 3
        have f4 := Y1.out.free 4
        have f5 := Y1.out.free 5
        have f6 := Y1.out.free 6
        simp only [Nat.zero_add] at y0 y1 y2 y3 y4 y5 y6
        clear b1'
        go_wp2
        go_roundw
        case rel =>
          have YS := base.st7_at Y1.out.at_ (0, S1 + T1, S2 + T2, S3 + T3, S4 + T4, S5 + T5, S6 + T6)
          have YF : ∀ i, (base.st7 w1 (w.heap.size + 1) (0, S1 + T1, S2 + T2, S3 + T3, S4 + T4, S5 + T5, S6 + T6)).frozen? ⟨w.heap.size + 1, i, none⟩ = false := fun i => by unfold base.st7; simp only [World.frozen?_setCell]; exact Y1.out.free i
          have YB := base.st7_below B1.out (show w.heap.size ≤ w.heap.size + 1 by omega) (0, S1 + T1, S2 + T2, S3 + T3, S4 + T4, S5 + T5, S6 + T6)
          have YT := base.st7_turned (base.Turned.refl (w.heap.size + 1) w1) (0, S1 + T1, S2 + T2, S3 + T3, S4 + T4, S5 + T5, S6 + T6)
          have YX := X1.out.keep (YT.2 w.heap.size (by omega) (by omega))
          show (fun W => Below w.heap.size w W ∧ w.heap.size + 1 < W.heap.size ∧ base.Bx W w.heap.size zz ∧ ∃ k1 : Nat, k1 ≤ n ∧ Value.int IntKind.i64 ((k : Int) + 1) = .int .i64 k1 ∧ base.Bx W (w.heap.size + 1) (ord.ps p k1)) ((base.st7 w1 (w.heap.size + 1) (0, S1 + T1, S2 + T2, S3 + T3, S4 + T4, S5 + T5, S6 + T6)).alloc (.cells #[.int .i64 T0, .int .i64 T1, .int .i64 T2, .int .i64 T3, .int .i64 T4, .int .i64 T5, .int .i64 T6] 37))
          have YZ := YT.1.size
          generalize base.st7 w1 (w.heap.size + 1) (0, S1 + T1, S2 + T2, S3 + T3, S4 + T4, S5 + T5, S6 + T6) = W5 at YS YF YB YX YZ ⊢
          have YS' := Lib.hid (show base.Bx W5 (w.heap.size + 1) (ord.ps p (k + 1)) from by rw [NX.out]; exact ⟨YS, YF⟩)
          have L5 := YS.lt
          dsimp only
          clear YS YF
          refine ⟨YB.alloc YB.size _, ?_, ?_, k + 1, by omega, by go_num, ?_⟩
          · rw [sz_al]; omega
          · exact YX.keep (Below.heap_alloc _ _ _ (by omega))
          · exact YS'.out.keep (Below.heap_alloc _ _ _ L5)
        case measure => simp [intOf]; omega
      · have u1 : decide (k < n) = false := by simp; omega
        obtain rfl : k = n := by omega
        obtain ⟨t, ht⟩ : ∃ t, t = ord.ps p k := ⟨_, rfl⟩
        rw [← ht] at hY
        have HT := Lib.hid ht
        clear ht hB
        have S := base.st7_at hX.at_ t
        have SB := Lib.hid (base.st7_below BB.out (Nat.le_refl w.heap.size) t)
        obtain ⟨v0, v1, v2, v3, v4, v5, v6⟩ := hY.at_
        obtain ⟨a0, a1, a2, a3, a4, a5, a6⟩ := hX.at_
        have f0 := hX.free 0
        have f1 := hX.free 1
        have f2 := hX.free 2
        have f3 := hX.free 3
        have f4 := hX.free 4
        have f5 := hX.free 5
        have f6 := hX.free 6
        simp only [zz, Nat.zero_add] at v0 v1 v2 v3 v4 v5 v6 a0 a1 a2 a3 a4 a5 a6
        go_wp2
        change bodyPost _ _ _ _ _ (base.st7 wr w.heap.size t)
        generalize base.st7 wr w.heap.size t = W9 at S SB ⊢
        obtain ⟨c0, c1, c2, c3, c4, c5, c6⟩ := S
        simp only [Nat.zero_add] at c0 c1 c2 c3 c4 c5 c6
        exact bodyPost_ret (v := .agg #[.int .i64 t.1, .int .i64 t.2.1, .int .i64 t.2.2.1, .int .i64 t.2.2.2.1, .int .i64 t.2.2.2.2.1, .int .i64 t.2.2.2.2.2.1, .int .i64 t.2.2.2.2.2.2]) (by simp [results, Try.results50, go_sem, c0, c1, c2, c3, c4, c5, c6]) rfl ⟨by rw [HT.out], SB.out⟩
end Go.Proofs.Ytmaejlfjdkkpdaa.ob

namespace Go.Proofs.Ytmaejlfjdkkpdaa.ob
open Go.ChangeShapes Go.WideShapes Go.ChangeAt Go.RowKit
open gen
open seven (F7 zz Row At)
open four (F4)
open pl (inR)
open pls (nth Pls OL)
open ord (Sc iok)
set_option maxRecDepth 100000 in
set_option maxHeartbeats 16000000 in
theorem okS (w : World) (B : Nat) (s : Sc) (ai : Option Addr) (ci gi : Nat) (l : List F4) (ap : Option Addr) (cp gp : Nat) (p : List (List F7)) (gs cs : Nat → Nat) (h : OL w B l p ai ci gi ap cp gp gs cs) (hl : l.length ≤ 1048576) (hn : p.length ≤ 1048576) (hm : ∀ i, i < p.length → (nth p i).length ≤ 1048577) :
    Calls Try.prog 15 #[.agg #[.int .i64 s.id, .int .i64 s.co, .int .i64 s.me, .int .i64 s.cu, .int .i64 s.da, .int .i64 s.nn, .int .i64 s.ra, .int .i64 s.nu, .int .i64 s.de, .slice ai l.length ci, .slice ap p.length cp, .int .i64 s.op, .int .i64 s.up]] w fun e w' => e = .returned (.bool (ord.ok s l p)) ∧ Below w.heap.size w w' := by
  have B0 := Lib.hid (show Below w.heap.size w (w.alloc (.cells #[.int .i64 s.id, .int .i64 s.co, .int .i64 s.me, .int .i64 s.cu, .int .i64 s.da, .int .i64 s.nn, .int .i64 s.ra, .int .i64 s.nu, .int .i64 s.de, .slice ai l.length ci, .slice ap p.length cp, .int .i64 s.op, .int .i64 s.up] 31)) from bAl (Below.refl _ _) (Nat.le_refl _) _)
  have O0 := OB.new w s ai l.length ci ap p.length cp 31
  have z0 : (w.alloc (.cells #[.int .i64 s.id, .int .i64 s.co, .int .i64 s.me, .int .i64 s.cu, .int .i64 s.da, .int .i64 s.nn, .int .i64 s.ra, .int .i64 s.nu, .int .i64 s.de, .slice ai l.length ci, .slice ap p.length cp, .int .i64 s.op, .int .i64 s.up] 31)).heap.size = w.heap.size + 1 := by simp only [sz_al]
  have L := Lib.hid h
  have ei := h.items.addr
  have ri := h.items.room
  have ep := h.plans.addr
  have rp := h.plans.room
  clear h
  obtain ⟨T, hT⟩ : ∃ T, T = ord.ok s l p := ⟨_, rfl⟩
  rw [← hT]
  have HT := Lib.hid hT
  have HM := Lib.hid hm
  clear hT hm
  have TKE : ord.tok s = (inR s.id 1 999 && inR s.co 1 999 && inR s.me 1 999 && inR s.cu 0 5 && inR s.da 0 100000 && inR s.nn 1 24 && inR s.ra 0 10000 && inR s.nu 1 1000000 && inR s.de 1 1000000 && inR s.op 0 1000000000000 && inR s.up 0 1000000000000) := rfl
  have c0 := idS s.id
  have c1 := idS s.co
  have c2 := idS s.me
  have c3 := curS s.cu
  have c4 := base.dayS s.da
  have c5 := base.inB s.nn 1 24
  have c6 := base.inB s.ra 0 10000
  have c7 := base.inB s.nu 1 1000000
  have c8 := base.inB s.de 1 1000000
  have c9 := base.inB s.op 0 1000000000000
  have c10 := base.inB s.up 0 1000000000000
  generalize inR s.id 1 999 = t0 at c0 TKE
  generalize inR s.co 1 999 = t1 at c1 TKE
  generalize inR s.me 1 999 = t2 at c2 TKE
  generalize inR s.cu 0 5 = t3 at c3 TKE
  generalize inR s.da 0 100000 = t4 at c4 TKE
  generalize inR s.nn 1 24 = t5 at c5 TKE
  generalize inR s.ra 0 10000 = t6 at c6 TKE
  generalize inR s.nu 1 1000000 = t7 at c7 TKE
  generalize inR s.de 1 1000000 = t8 at c8 TKE
  generalize inR s.op 0 1000000000000 = t9 at c9 TKE
  generalize inR s.up 0 1000000000000 = t10 at c10 TKE
  have TK := Lib.hid TKE
  clear TKE
  have C0 := Lib.hid c0
  have C1 := Lib.hid c1
  have C2 := Lib.hid c2
  have C3 := Lib.hid c3
  have C4 := Lib.hid c4
  have C5 := Lib.hid c5
  have C6 := Lib.hid c6
  have C7 := Lib.hid c7
  have C8 := Lib.hid c8
  have C9 := Lib.hid c9
  have C10 := Lib.hid c10
  clear c0 c1 c2 c3 c4 c5 c6 c7 c8 c9 c10
  have Oh := Lib.hid O0
  obtain ⟨y0, y1, y2, y3, y4, y5, y6, y7, y8, y9, y10, y11, y12⟩ := O0
  obtain ⟨n, hnz⟩ : ∃ n, n = l.length := ⟨_, rfl⟩
  obtain ⟨m, hmz⟩ : ∃ m, m = p.length := ⟨_, rfl⟩
  have HNZ := Lib.hid hnz
  have HMZ := Lib.hid hmz
  rw [← hnz] at hl ei ri B0 Oh y0 y1 y2 y3 y4 y5 y6 y7 y8 y9 y10 y11 y12 z0 ⊢
  rw [← hmz] at hn ep rp B0 Oh y0 y1 y2 y3 y4 y5 y6 y7 y8 y9 y10 y11 y12 z0 ⊢
  clear hnz hmz
  have CN := Lib.hid (fun W => base.inB (n : Int) 1 8 W)
  go_enter Try.func15, Try.ntmps15
  go_wp2_with fail
  generalize w.alloc (.cells #[.int .i64 s.id, .int .i64 s.co, .int .i64 s.me, .int .i64 s.cu, .int .i64 s.da, .int .i64 s.nn, .int .i64 s.ra, .int .i64 s.nu, .int .i64 s.de, .slice ai n ci, .slice ap m cp, .int .i64 s.op, .int .i64 s.up] 31) = W0 at B0 Oh y0 y1 y2 y3 y4 y5 y6 y7 y8 y9 y10 y11 y12 z0 ⊢
  refine (C0.out _).mono ?_
  rintro e w' ⟨rfl, rfl⟩
  cases t0
  · skip
    have NO := Lib.hid (show T = false from HT.out.trans (ok_no1 (by rw [TK.out]; simp)))
    go_wp2
    go_ret
    exact ⟨by rw [NO.out]; rfl, B0.out⟩
  · skip
    go_wp2_with fail
    refine (C1.out _).mono ?_
    rintro e w' ⟨rfl, rfl⟩
    cases t1
    · skip
      have NO := Lib.hid (show T = false from HT.out.trans (ok_no1 (by rw [TK.out]; simp)))
      go_wp2
      go_ret
      exact ⟨by rw [NO.out]; rfl, B0.out⟩
    · skip
      go_wp2_with fail
      refine (C2.out _).mono ?_
      rintro e w' ⟨rfl, rfl⟩
      cases t2
      · skip
        have NO := Lib.hid (show T = false from HT.out.trans (ok_no1 (by rw [TK.out]; simp)))
        go_wp2
        go_ret
        exact ⟨by rw [NO.out]; rfl, B0.out⟩
      · skip
        go_wp2_with fail
        refine (C3.out _).mono ?_
        rintro e w' ⟨rfl, rfl⟩
        cases t3
        · skip
          have NO := Lib.hid (show T = false from HT.out.trans (ok_no1 (by rw [TK.out]; simp)))
          go_wp2
          go_ret
          exact ⟨by rw [NO.out]; rfl, B0.out⟩
        · skip
          go_wp2_with fail
          refine (C4.out _).mono ?_
          rintro e w' ⟨rfl, rfl⟩
          cases t4
          · skip
            have NO := Lib.hid (show T = false from HT.out.trans (ok_no1 (by rw [TK.out]; simp)))
            go_wp2
            go_ret
            exact ⟨by rw [NO.out]; rfl, B0.out⟩
          · skip
            go_wp2_with fail
            refine (C5.out _).mono ?_
            rintro e w' ⟨rfl, rfl⟩
            cases t5
            · skip
              have NO := Lib.hid (show T = false from HT.out.trans (ok_no1 (by rw [TK.out]; simp)))
              go_wp2
              go_ret
              exact ⟨by rw [NO.out]; rfl, B0.out⟩
            · skip
              go_wp2_with fail
              refine (C6.out _).mono ?_
              rintro e w' ⟨rfl, rfl⟩
              cases t6
              · skip
                have NO := Lib.hid (show T = false from HT.out.trans (ok_no1 (by rw [TK.out]; simp)))
                go_wp2
                go_ret
                exact ⟨by rw [NO.out]; rfl, B0.out⟩
              · skip
                go_wp2_with fail
                refine (C7.out _).mono ?_
                rintro e w' ⟨rfl, rfl⟩
                cases t7
                · skip
                  have NO := Lib.hid (show T = false from HT.out.trans (ok_no1 (by rw [TK.out]; simp)))
                  go_wp2
                  go_ret
                  exact ⟨by rw [NO.out]; rfl, B0.out⟩
                · skip
                  go_wp2_with fail
                  refine (C8.out _).mono ?_
                  rintro e w' ⟨rfl, rfl⟩
                  cases t8
                  · skip
                    have NO := Lib.hid (show T = false from HT.out.trans (ok_no1 (by rw [TK.out]; simp)))
                    go_wp2
                    go_ret
                    exact ⟨by rw [NO.out]; rfl, B0.out⟩
                  · skip
                    go_wp2_with fail
                    refine (C9.out _).mono ?_
                    rintro e w' ⟨rfl, rfl⟩
                    cases t9
                    · skip
                      have NO := Lib.hid (show T = false from HT.out.trans (ok_no1 (by rw [TK.out]; simp)))
                      go_wp2
                      go_ret
                      exact ⟨by rw [NO.out]; rfl, B0.out⟩
                    · skip
                      go_wp2_with fail
                      refine (C10.out _).mono ?_
                      rintro e w' ⟨rfl, rfl⟩
                      cases t10
                      · skip
                        have NO := Lib.hid (show T = false from HT.out.trans (ok_no1 (by rw [TK.out]; simp)))
                        go_wp2
                        go_ret
                        exact ⟨by rw [NO.out]; rfl, B0.out⟩
                      · skip
                        have TKT := Lib.hid (show ord.tok s = true from by rw [TK.out]; rfl)
                        clear C0 C1 C2 C3 C4 C5 C6 C7 C8 C9 C10 TK
                        go_wp2_with fail
                        refine (CN.out _).mono ?_
                        rintro e w' ⟨rfl, rfl⟩
                        cases tn : inR (n : Int) 1 8
                        · skip
                          have tn2 := pl.inR_not.1 tn
                          have NO := Lib.hid (show T = false from HT.out.trans (ok_no2 (itv_f fun h => by have := h.1; have := h.2.1; have := HNZ.out; omega)))
                          go_wp2
                          go_ret
                          exact ⟨by rw [NO.out]; rfl, B0.out⟩
                        · skip
                          have tn2 := pl.inR_iff.1 tn
                          have n1 : 1 ≤ n := by omega
                          have n8 : n ≤ 8 := by omega
                          clear tn tn2
                          obtain rfl := ei (by omega)
                          clear ei
                          by_cases hm8 : 8 < m
                          · skip
                            have u1 : decide ((8 : Int) < (m : Int)) = true := by simp; omega
                            have u1' : decide (8 < m) = true := by simp; omega
                            have NO := Lib.hid (show T = false from HT.out.trans (ok_no3 (plv_f fun h => by have := h.1; have := HMZ.out; omega)))
                            go_wp2
                            go_ret
                            exact ⟨by rw [NO.out]; rfl, B0.out⟩
                          · skip
                            have u1 : decide ((8 : Int) < (m : Int)) = false := by simp; omega
                            have u1' : decide (8 < m) = false := by simp; omega
                            have m8 : m ≤ 8 := by omega
                            clear hm8
                            clear y0 y1 y2 y3 y4 y5 y6 y7 y8 y11 y12
                            go_wp2_with fail
                            go_loopw [3] (fun i wr => Below W0.heap.size W0 wr ∧ ∃ k : Nat, k ≤ n ∧ i = .int .i64 k ∧ ∀ j, j < k → iok (l.getD j four.zz) = true) (fun i _ => n - (intOf i).toNat)
                            case atStart => exact ⟨Below.refl _ _, 0, by omega, rfl, fun j h => by omega⟩
                            case round =>
                              obtain ⟨hB, k, hk, rfl, hf⟩ := hrel
                              have BB := Lib.hid hB
                              have FF := Lib.hid hf
                              have BW := Lib.hid (B0.out.trans (hB.mono B0.out.size))
                              have OK := Oh.out.keep (hB.block w.heap.size (by omega))
                              have y9 := OK.c9
                              have y10 := OK.c10
                              clear hf OK
                              by_cases hlt : k < n
                              · skip
                                have HLT := Lib.hid (show k < l.length from by rw [← HNZ.out]; exact hlt)
                                have q1 := (L.out.below BW.out).items.cells k HLT.out
                                obtain ⟨x, hx⟩ : ∃ x, x = l.getD k four.zz := ⟨_, rfl⟩
                                have HX := Lib.hid hx
                                rw [← hx] at q1
                                clear hx
                                obtain ⟨x1, x2, x3, x4⟩ := q1
                                have C := fun W => itemS x W
                                obtain ⟨t, ht⟩ : ∃ t, t = iok x := ⟨_, rfl⟩
                                rw [← ht] at C
                                have HP := Lib.hid ht
                                have z1 : (k : Int) < (n : Int) := by omega
                                have v1 : decide (k < n) = true := by simp; omega
                                clear ht hB
                                cases t with
                                | false =>
                                  have NO := Lib.hid (show T = false from HT.out.trans (ok_no2 (itv_f fun h => by have := h.2.2 k HLT.out; rw [← HX.out, ← HP.out] at this; cases this)))
                                  go_wp2_with fail
                                  refine (C _).mono ?_
                                  rintro e w1 ⟨rfl, hg⟩
                                  have G1 := Lib.hid (show Grew _ w1 from hg)
                                  clear hg
                                  go_wp2
                                  go_ret
                                  exact ⟨by rw [NO.out]; rfl, Grew.step BW.out (Nat.le_refl _) G1.out⟩
                                | true =>
                                  go_wp2_with fail
                                  refine (C _).mono ?_
                                  rintro e w1 ⟨rfl, hg⟩
                                  have G1 := Lib.hid (show Grew _ w1 from hg)
                                  clear hg
                                  go_wp2
                                  go_roundw
                                  case rel => exact ⟨Grew.step BB.out (Nat.le_refl _) G1.out, k + 1, by omega, by go_num, fun j hj => by
                                    by_cases e : j = k
                                    · subst e; rw [← HX.out]; exact HP.out.symm
                                    · exact FF.out j (by omega)⟩
                                  case measure => simp [intOf]; omega
                              · skip
                                have v1 : decide (k < n) = false := by simp; omega
                                obtain rfl : k = n := by omega
                                have TI := Lib.hid (show itv l = true from itv_t ⟨by rw [← HNZ.out]; omega, by rw [← HNZ.out]; omega, fun i hi => FF.out i (by rw [HNZ.out]; exact hi)⟩)
                                clear hB
                                go_wp2_with fail
                                go_loopw [4] (fun i wr2 => Below W0.heap.size W0 wr2 ∧ ∃ j : Nat, j ≤ m ∧ i = .int .i64 j ∧ ∀ q, q < j → pl.pv (nth p q) = true) (fun i _ => m - (intOf i).toNat)
                                case atStart => exact ⟨BB.out, 0, by omega, rfl, fun j h => by omega⟩
                                case round =>
                                  obtain ⟨hB2, j, hj, rfl, hf2⟩ := hrel
                                  have BB2 := Lib.hid hB2
                                  have FF2 := Lib.hid hf2
                                  have BW2 := Lib.hid (B0.out.trans (hB2.mono B0.out.size))
                                  have OK2 := Oh.out.keep (hB2.block w.heap.size (by omega))
                                  have y9 := OK2.c9
                                  have y10 := OK2.c10
                                  have y12 := OK2.c12
                                  clear hf2 OK2 v1
                                  by_cases hlt2 : j < m
                                  · skip
                                    have HLT2 := Lib.hid (show j < p.length from by rw [← HMZ.out]; exact hlt2)
                                    obtain rfl := ep (by omega)
                                    clear ep
                                    have q1 := (L.out.below BW2.out).plans.cells j HLT2.out
                                    have C := Lib.hid (fun W (hb : Below w.heap.size w W) => base.pkS W _ _ _ (nth p j) ((L.out.below hb).plans.rows j HLT2.out) (HM.out j HLT2.out))
                                    obtain ⟨t, ht⟩ : ∃ t, t = pl.pv (nth p j) := ⟨_, rfl⟩
                                    rw [← ht] at C
                                    have HP := Lib.hid ht
                                    have z1 : (j : Int) < (m : Int) := by omega
                                    have v1 : decide (j < m) = true := by simp; omega
                                    clear ht hB2
                                    generalize (nth p j).length = ln at q1 C
                                    generalize gs j = gk at q1 C
                                    generalize cs j = ck at q1 C
                                    cases t with
                                    | false =>
                                      have NO := Lib.hid (show T = false from HT.out.trans (ok_no3 (plv_f fun h => by have := h.2 j HLT2.out; rw [show p.getD j [] = nth p j from rfl, ← HP.out] at this; cases this)))
                                      go_wp2_with fail
                                      refine (C.out _ BW2.out).mono ?_
                                      rintro e w1 ⟨rfl, b1⟩
                                      have B1 := Lib.hid (BW2.out.trans (b1.mono BW2.out.size))
                                      clear b1
                                      go_wp2
                                      go_ret
                                      exact ⟨by rw [NO.out]; rfl, B1.out⟩
                                    | true =>
                                      go_wp2_with fail
                                      refine (C.out _ BW2.out).mono ?_
                                      rintro e w1 ⟨rfl, b1⟩
                                      have B1 := Lib.hid (BB2.out.trans (b1.mono BB2.out.size))
                                      clear b1
                                      go_wp2
                                      go_roundw
                                      case rel => exact ⟨B1.out, j + 1, by omega, by go_num, fun q hq => by
                                        by_cases e : q = j
                                        · subst e; exact HP.out.symm
                                        · exact FF2.out q (by omega)⟩
                                      case measure => simp [intOf]; omega
                                  · skip
                                    have v1 : decide (j < m) = false := by simp; omega
                                    obtain rfl : j = m := by omega
                                    have YES := Lib.hid (show T = bal s l p from HT.out.trans (ok_yes TKT.out TI.out (plv_t ⟨by rw [← HMZ.out]; omega, fun i hi => FF2.out i (by rw [HMZ.out]; exact hi)⟩)))
                                    have IVl := (itv_iff.1 TI.out).2.2
                                    have CV1 := Lib.hid (fun W (hb : Below w.heap.size w W) => valS1 W (some ⟨gi, 0, none⟩) ci gi l (L.out.below hb).items IVl (by rw [← HNZ.out]; omega))
                                    have CV2 := Lib.hid (fun W (hb : Below w.heap.size w W) => valS2 W (some ⟨gi, 0, none⟩) ci gi l (L.out.below hb).items IVl (by rw [← HNZ.out]; omega))
                                    have CS := Lib.hid (fun W (hb : Below w.heap.size w W) => sumsS W ap cp gp p gs cs (L.out.below hb).plans (by rw [← HMZ.out]; omega) HM.out)
                                    have SI := ord.sums_in IVl l.length (Nat.le_refl _)
                                    have PS := ord.ps_sin p p.length
                                    rw [vj1] at CV1
                                    rw [vj2] at CV2
                                    unfold bal at YES
                                    obtain ⟨V1, hV1⟩ : ∃ V, V = ord.su ord.vs l l.length := ⟨_, rfl⟩
                                    obtain ⟨V2, hV2⟩ : ∃ V, V = ord.su ord.vr l l.length := ⟨_, rfl⟩
                                    obtain ⟨Q, hQ⟩ : ∃ Q, Q = ord.ps p p.length := ⟨_, rfl⟩
                                    rw [← hV1, ← hV2] at SI
                                    rw [← hV1] at CV1
                                    rw [← hV2] at CV2
                                    rw [← hQ] at CS PS
                                    rw [← hV1, ← hV2, ← hQ] at YES
                                    rw [← HNZ.out] at CV1 CV2 SI
                                    rw [← HMZ.out] at CS PS
                                    clear hV1 hV2 hQ IVl
                                    obtain ⟨U, hU⟩ : ∃ U, U = s.up := ⟨_, rfl⟩
                                    have hu := tok_up TKT.out
                                    rw [← hU] at hu YES y12
                                    have HU := Lib.hid hU
                                    clear hU
                                    obtain ⟨v2, v1', v0, vk⟩ := SI
                                    have vk1 : V1 ≤ 8000000000 := by omega
                                    clear v0 vk
                                    obtain ⟨-, p0, p1, -, -, -, -, -, -, -, -, -, -⟩ := PS
                                    obtain ⟨T0, T1, T2, T3, T4, T5, T6⟩ := Q
                                    dsimp only at p0 p1 CS YES
                                    have p1 : T1 ≤ 192000000000000 := by omega
                                    have BD := Lib.hid BW2.out.drew
                                    have KS := Lib.hid (show ∀ W, Below W0.heap.size W0 W → (W.cell? ⟨w.heap.size, 9, none⟩ = some (.slice (some ⟨gi, 0, none⟩) k ci) ∧ W.cell? ⟨w.heap.size, 10, none⟩ = some (.slice ap j cp) ∧ W.cell? ⟨w.heap.size, 12, none⟩ = some (.int .i64 U)) from fun W hb => ⟨(hb.cell (p := ⟨w.heap.size, 9, none⟩) (show w.heap.size < W0.heap.size by omega)).trans Oh.out.c9, (hb.cell (p := ⟨w.heap.size, 10, none⟩) (show w.heap.size < W0.heap.size by omega)).trans Oh.out.c10, (hb.cell (p := ⟨w.heap.size, 12, none⟩) (show w.heap.size < W0.heap.size by omega)).trans (by rw [Oh.out.c12, HU.out])⟩)
                                    have KD := Lib.hid BB2.out.drew
                                    have fF : ∀ w0, (Instr.field 37 (.agg #[.int .i64 T0, .int .i64 T1, .int .i64 T2, .int .i64 T3, .int .i64 T4, .int .i64 T5, .int .i64 T6]) 1).run Try.prog w0 = .ok (.int .i64 T1) w0 := fun _ => rfl
                                    clear hB2
                                    go_wp2_with fail
                                    go_region_held3 (fun w' => w'.cell? ⟨w.heap.size, 9, none⟩ = some (.slice (some ⟨gi, 0, none⟩) k ci) ∧ w'.cell? ⟨w.heap.size, 10, none⟩ = some (.slice ap j cp) ∧ w'.cell? ⟨w.heap.size, 12, none⟩ = some (.int .i64 U)) (first | exact KS.out _ K5.out | exact KS.out _ K4.out | exact KS.out _ K3.out | exact KS.out _ KD.out | exact KS.out _ BB2.out | go_keep)
                                      (first
                                        | (go_at_call 51; refine (CV2.out w4 B4.out).mono ?_; rintro e w5 ⟨rfl, b'⟩; have B5 := Lib.hid (B4.out.trans (b'.mono B4.out.size)); have K5 := Lib.hid (K4.out.trans (b'.mono K4.out.size)); clear b')
                                        | (go_at_call 51; refine (CV1.out w3 B3.out).mono ?_; rintro e w4 ⟨rfl, b'⟩; have B4 := Lib.hid (B3.out.trans (b'.mono B3.out.size)); have K4 := Lib.hid (K3.out.trans (b'.mono K3.out.size)); clear b')
                                        | (go_at_call 50; refine (CS.out _ BD.out).mono ?_; rintro e w3 ⟨rfl, b'⟩; have B3 := Lib.hid (BD.out.trans (b'.mono BD.out.size)); have K3 := Lib.hid (KD.out.trans (b'.mono KD.out.size)); clear b'))
                                    all_goals
                                      go_wp2
                                      go_ret
                                      exact ⟨show Ending.returned (Value.bool (T1 == IntKind.i64.wrap (IntKind.i64.wrap (V1 - V2) - U))) = _ from by rw [YES.out, show IntKind.i64.wrap (V1 - V2) = V1 - V2 from by rw [IntKind.wrap_i64]; omega, show IntKind.i64.wrap (V1 - V2 - U) = V1 - V2 - U from by rw [IntKind.wrap_i64]; omega], B5.out⟩
end Go.Proofs.Ytmaejlfjdkkpdaa.ob
