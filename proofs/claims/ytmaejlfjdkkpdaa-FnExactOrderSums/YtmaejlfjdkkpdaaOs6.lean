/-
  Plain helpers of this seat's proofs: contracts of the functions that ask an order for its sums. Conditions: none.
-/
import Derived.Test.YtmaejlfjdkkpdaaOf6
import Derived.Test.YtmaejlfjdkkpdaaSmI
namespace Go.Proofs.Ytmaejlfjdkkpdaa.ob
open Go.ChangeShapes Go.WideShapes Go.ChangeAt Go.RowKit
open gen
open seven (F7 zz Row At)
open four (F4)
open pl (inR)
open pls (nth Pls OL)
open ord (Sc iok)
set_option maxRecDepth 40000 in
set_option maxHeartbeats 4000000 in
theorem osS (w : World) (B : Nat) (s : Sc) (ai : Option Addr) (ci gi : Nat) (l : List F4) (ap : Option Addr) (cp gp : Nat) (p : List (List F7)) (gs cs : Nat → Nat) (h : OL w B l p ai ci gi ap cp gp gs cs) (hl : l.length ≤ 1048576) (hn : p.length ≤ 1048576) (hm : ∀ i, i < p.length → (nth p i).length ≤ 1048577) :
    Calls Try.prog 25 #[.agg #[.int .i64 s.id, .int .i64 s.co, .int .i64 s.me, .int .i64 s.cu, .int .i64 s.da, .int .i64 s.nn, .int .i64 s.ra, .int .i64 s.nu, .int .i64 s.de, .slice ai l.length ci, .slice ap p.length cp, .int .i64 s.op, .int .i64 s.up]] w fun e w' => e = .returned (.agg #[.int .i64 (sof s l p).1, .int .i64 (sof s l p).2.1, .int .i64 (sof s l p).2.2.1, .int .i64 (sof s l p).2.2.2.1, .int .i64 (sof s l p).2.2.2.2.1, .int .i64 (sof s l p).2.2.2.2.2.1, .int .i64 (sof s l p).2.2.2.2.2.2]) ∧ Below w.heap.size w w' := by
  have B0 := Lib.hid (show Below w.heap.size w ((w.alloc (.cells #[.int .i64 s.id, .int .i64 s.co, .int .i64 s.me, .int .i64 s.cu, .int .i64 s.da, .int .i64 s.nn, .int .i64 s.ra, .int .i64 s.nu, .int .i64 s.de, .slice ai l.length ci, .slice ap p.length cp, .int .i64 s.op, .int .i64 s.up] 31)).alloc (.cells #[.int .i64 0, .int .i64 0, .int .i64 0, .int .i64 0, .int .i64 0, .int .i64 0, .int .i64 0] 37)) from bAl (bAl (Below.refl _ _) (Nat.le_refl _) _) (Nat.le_refl _) _)
  have O0 := Lib.hid ((OB.new w s ai l.length ci ap p.length cp 31).keep (Below.heap_alloc (w.alloc (.cells #[.int .i64 s.id, .int .i64 s.co, .int .i64 s.me, .int .i64 s.cu, .int .i64 s.da, .int .i64 s.nn, .int .i64 s.ra, .int .i64 s.nu, .int .i64 s.de, .slice ai l.length ci, .slice ap p.length cp, .int .i64 s.op, .int .i64 s.up] 31)) (.cells #[.int .i64 0, .int .i64 0, .int .i64 0, .int .i64 0, .int .i64 0, .int .i64 0, .int .i64 0] 37) w.heap.size (by simp)))
  have X0 := base.Bx.zero (w.alloc (.cells #[.int .i64 s.id, .int .i64 s.co, .int .i64 s.me, .int .i64 s.cu, .int .i64 s.da, .int .i64 s.nn, .int .i64 s.ra, .int .i64 s.nu, .int .i64 s.de, .slice ai l.length ci, .slice ap p.length cp, .int .i64 s.op, .int .i64 s.up] 31))
  have z0 : ((w.alloc (.cells #[.int .i64 s.id, .int .i64 s.co, .int .i64 s.me, .int .i64 s.cu, .int .i64 s.da, .int .i64 s.nn, .int .i64 s.ra, .int .i64 s.nu, .int .i64 s.de, .slice ai l.length ci, .slice ap p.length cp, .int .i64 s.op, .int .i64 s.up] 31)).alloc (.cells #[.int .i64 0, .int .i64 0, .int .i64 0, .int .i64 0, .int .i64 0, .int .i64 0, .int .i64 0] 37)).heap.size = w.heap.size + 1 + 1 := by simp only [sz_al]
  simp only [sz_al] at X0
  have X0 := Lib.hid X0
  have L := Lib.hid h
  have HM := Lib.hid hm
  clear h hm
  have CK := Lib.hid (fun W (hb : Below w.heap.size w W) => okS W B s ai ci gi l ap cp gp p gs cs (L.out.below hb) (by omega) (by omega) HM.out)
  have CV := Lib.hid (fun (hk : ord.ok s l p = true) W (hb : Below w.heap.size w W) => sumsS W ap cp gp p gs cs (L.out.below hb).plans (ord.ok_iff.1 hk).p1 HM.out)
  obtain ⟨V, hV⟩ : ∃ V, V = sof s l p := ⟨_, rfl⟩
  rw [← hV]
  have HV := Lib.hid hV
  clear hV
  cases hk : ord.ok s l p with
  | false =>
    have NO := Lib.hid (show V = zz from HV.out.trans (by unfold sof; rw [hk]; rfl))
    rw [hk] at CK
    clear CV
    go_enter Try.func25, Try.ntmps25
    go_wp2_with fail
    refine (CK.out _ B0.out).mono ?_
    rintro e w1 ⟨rfl, b1⟩
    have B1 := Lib.hid (B0.out.trans (b1.mono B0.out.size))
    have X1 := Lib.hid (X0.out.keep (b1.block (w.heap.size + 1) (by omega)))
    clear b1
    have S := base.st7_at X1.out.at_ zz
    have SB := Lib.hid (base.st7_below B1.out (show w.heap.size ≤ w.heap.size + 1 by omega) zz)
    obtain ⟨a0, a1, a2, a3, a4, a5, a6⟩ := X1.out.at_
    have f0 := X1.out.free 0
    have f1 := X1.out.free 1
    have f2 := X1.out.free 2
    have f3 := X1.out.free 3
    have f4 := X1.out.free 4
    have f5 := X1.out.free 5
    have f6 := X1.out.free 6
    simp only [zz, Nat.zero_add] at a0 a1 a2 a3 a4 a5 a6
    go_wp2
    change bodyPost _ _ _ _ _ (base.st7 w1 (w.heap.size + 1) zz)
    generalize base.st7 w1 (w.heap.size + 1) zz = W9 at S SB ⊢
    obtain ⟨c0, c1, c2, c3, c4, c5, c6⟩ := S
    simp only [zz, Nat.zero_add] at c0 c1 c2 c3 c4 c5 c6
    exact bodyPost_ret (v := .agg #[.int .i64 0, .int .i64 0, .int .i64 0, .int .i64 0, .int .i64 0, .int .i64 0, .int .i64 0]) (by simp [results, Try.results25, go_sem, c0, c1, c2, c3, c4, c5, c6]) rfl ⟨by rw [NO.out]; rfl, SB.out⟩
  | true =>
    have YES := Lib.hid (show V = ord.ps p p.length from HV.out.trans (by unfold sof; rw [hk]; rfl))
    have CV := Lib.hid (CV.out hk)
    rw [hk] at CK
    generalize ord.ps p p.length = Q at YES CV
    go_enter Try.func25, Try.ntmps25
    go_wp2_with fail
    refine (CK.out _ B0.out).mono ?_
    rintro e w1 ⟨rfl, b1⟩
    have B1 := Lib.hid (B0.out.trans (b1.mono B0.out.size))
    have O1 := Lib.hid (O0.out.keep (b1.block w.heap.size (by omega)))
    have X1 := Lib.hid (X0.out.keep (b1.block (w.heap.size + 1) (by omega)))
    have z1 := b1.size
    clear b1
    have y10 := O1.out.c10
    go_wp2_with fail
    refine (CV.out w1 B1.out).mono ?_
    rintro e w2 ⟨rfl, b2⟩
    have B2 := Lib.hid (B1.out.trans (b2.mono B1.out.size))
    have X2 := Lib.hid (X1.out.keep (b2.block (w.heap.size + 1) (by omega)))
    clear b2
    have S := base.st7_at X2.out.at_ Q
    have SB := Lib.hid (base.st7_below B2.out (show w.heap.size ≤ w.heap.size + 1 by omega) Q)
    obtain ⟨a0, a1, a2, a3, a4, a5, a6⟩ := X2.out.at_
    have f0 := X2.out.free 0
    have f1 := X2.out.free 1
    have f2 := X2.out.free 2
    have f3 := X2.out.free 3
    have f4 := X2.out.free 4
    have f5 := X2.out.free 5
    have f6 := X2.out.free 6
    simp only [zz, Nat.zero_add] at a0 a1 a2 a3 a4 a5 a6
    go_wp2
    change bodyPost _ _ _ _ _ (base.st7 w2 (w.heap.size + 1) Q)
    generalize base.st7 w2 (w.heap.size + 1) Q = W9 at S SB ⊢
    obtain ⟨c0, c1, c2, c3, c4, c5, c6⟩ := S
    simp only [Nat.zero_add] at c0 c1 c2 c3 c4 c5 c6
    exact bodyPost_ret (v := .agg #[.int .i64 Q.1, .int .i64 Q.2.1, .int .i64 Q.2.2.1, .int .i64 Q.2.2.2.1, .int .i64 Q.2.2.2.2.1, .int .i64 Q.2.2.2.2.2.1, .int .i64 Q.2.2.2.2.2.2]) (by simp [results, Try.results25, go_sem, c0, c1, c2, c3, c4, c5, c6]) rfl ⟨by rw [YES.out], SB.out⟩
set_option maxRecDepth 40000 in
set_option maxHeartbeats 4000000 in
theorem osI (w : World) (B : Nat) (s : Sc) (ai : Option Addr) (ci gi : Nat) (l : List F4) (ap : Option Addr) (cp gp : Nat) (p : List (List F7)) (gs cs : Nat → Nat) (h : OL w B l p ai ci gi ap cp gp gs cs) (hl : l.length ≤ 1048576) (hn : p.length ≤ 1048576) (hm : ∀ i, i < p.length → (nth p i).length ≤ 1048577) :
    Calls Try.prog 26 #[.agg #[.int .i64 s.id, .int .i64 s.co, .int .i64 s.me, .int .i64 s.cu, .int .i64 s.da, .int .i64 s.nn, .int .i64 s.ra, .int .i64 s.nu, .int .i64 s.de, .slice ai l.length ci, .slice ap p.length cp, .int .i64 s.op, .int .i64 s.up]] w fun e w' => e = .returned (.agg #[.int .i64 (sof s l p).1, .int .i64 (sof s l p).2.1, .int .i64 (sof s l p).2.2.1, .int .i64 (sof s l p).2.2.2.1, .int .i64 (sof s l p).2.2.2.2.1, .int .i64 (sof s l p).2.2.2.2.2.1, .int .i64 (sof s l p).2.2.2.2.2.2]) ∧ Below w.heap.size w w' := by
  have B0 := Lib.hid (show Below w.heap.size w ((w.alloc (.cells #[.int .i64 s.id, .int .i64 s.co, .int .i64 s.me, .int .i64 s.cu, .int .i64 s.da, .int .i64 s.nn, .int .i64 s.ra, .int .i64 s.nu, .int .i64 s.de, .slice ai l.length ci, .slice ap p.length cp, .int .i64 s.op, .int .i64 s.up] 31)).alloc (.cells #[.int .i64 0, .int .i64 0, .int .i64 0, .int .i64 0, .int .i64 0, .int .i64 0, .int .i64 0] 37)) from bAl (bAl (Below.refl _ _) (Nat.le_refl _) _) (Nat.le_refl _) _)
  have O0 := Lib.hid ((OB.new w s ai l.length ci ap p.length cp 31).keep (Below.heap_alloc (w.alloc (.cells #[.int .i64 s.id, .int .i64 s.co, .int .i64 s.me, .int .i64 s.cu, .int .i64 s.da, .int .i64 s.nn, .int .i64 s.ra, .int .i64 s.nu, .int .i64 s.de, .slice ai l.length ci, .slice ap p.length cp, .int .i64 s.op, .int .i64 s.up] 31)) (.cells #[.int .i64 0, .int .i64 0, .int .i64 0, .int .i64 0, .int .i64 0, .int .i64 0, .int .i64 0] 37) w.heap.size (by simp)))
  have X0 := base.Bx.zero (w.alloc (.cells #[.int .i64 s.id, .int .i64 s.co, .int .i64 s.me, .int .i64 s.cu, .int .i64 s.da, .int .i64 s.nn, .int .i64 s.ra, .int .i64 s.nu, .int .i64 s.de, .slice ai l.length ci, .slice ap p.length cp, .int .i64 s.op, .int .i64 s.up] 31))
  have z0 : ((w.alloc (.cells #[.int .i64 s.id, .int .i64 s.co, .int .i64 s.me, .int .i64 s.cu, .int .i64 s.da, .int .i64 s.nn, .int .i64 s.ra, .int .i64 s.nu, .int .i64 s.de, .slice ai l.length ci, .slice ap p.length cp, .int .i64 s.op, .int .i64 s.up] 31)).alloc (.cells #[.int .i64 0, .int .i64 0, .int .i64 0, .int .i64 0, .int .i64 0, .int .i64 0, .int .i64 0] 37)).heap.size = w.heap.size + 1 + 1 := by simp only [sz_al]
  simp only [sz_al] at X0
  have X0 := Lib.hid X0
  have L := Lib.hid h
  have HM := Lib.hid hm
  clear h hm
  have CK := Lib.hid (fun W (hb : Below w.heap.size w W) => okI W B s ai ci gi l ap cp gp p gs cs (L.out.below hb) (by omega) (by omega) HM.out)
  have CV := Lib.hid (fun (hk : ord.ok s l p = true) W (hb : Below w.heap.size w W) (ho : OB W w.heap.size s ai l.length ci ap p.length cp) => sumsI W w.heap.size s ai l.length ci ap cp gp p gs cs ho (L.out.below hb).plans (ord.ok_iff.1 hk).p1 HM.out)
  obtain ⟨V, hV⟩ : ∃ V, V = sof s l p := ⟨_, rfl⟩
  rw [← hV]
  have HV := Lib.hid hV
  clear hV
  cases hk : ord.ok s l p with
  | false =>
    have NO := Lib.hid (show V = zz from HV.out.trans (by unfold sof; rw [hk]; rfl))
    rw [hk] at CK
    clear CV
    go_enter Try.func26, Try.ntmps26
    go_wp2_with fail
    refine (CK.out _ B0.out).mono ?_
    rintro e w1 ⟨rfl, b1⟩
    have B1 := Lib.hid (B0.out.trans (b1.mono B0.out.size))
    have X1 := Lib.hid (X0.out.keep (b1.block (w.heap.size + 1) (by omega)))
    clear b1
    have S := base.st7_at X1.out.at_ zz
    have SB := Lib.hid (base.st7_below B1.out (show w.heap.size ≤ w.heap.size + 1 by omega) zz)
    obtain ⟨a0, a1, a2, a3, a4, a5, a6⟩ := X1.out.at_
    have f0 := X1.out.free 0
    have f1 := X1.out.free 1
    have f2 := X1.out.free 2
    have f3 := X1.out.free 3
    have f4 := X1.out.free 4
    have f5 := X1.out.free 5
    have f6 := X1.out.free 6
    simp only [zz, Nat.zero_add] at a0 a1 a2 a3 a4 a5 a6
    go_wp2
    change bodyPost _ _ _ _ _ (base.st7 w1 (w.heap.size + 1) zz)
    generalize base.st7 w1 (w.heap.size + 1) zz = W9 at S SB ⊢
    obtain ⟨c0, c1, c2, c3, c4, c5, c6⟩ := S
    simp only [zz, Nat.zero_add] at c0 c1 c2 c3 c4 c5 c6
    exact bodyPost_ret (v := .agg #[.int .i64 0, .int .i64 0, .int .i64 0, .int .i64 0, .int .i64 0, .int .i64 0, .int .i64 0]) (by simp [results, Try.results26, go_sem, c0, c1, c2, c3, c4, c5, c6]) rfl ⟨by rw [NO.out]; rfl, SB.out⟩
  | true =>
    have YES := Lib.hid (show V = ord.ps p p.length from HV.out.trans (by unfold sof; rw [hk]; rfl))
    have CV := Lib.hid (CV.out hk)
    rw [hk] at CK
    generalize ord.ps p p.length = Q at YES CV
    go_enter Try.func26, Try.ntmps26
    go_wp2_with fail
    refine (CK.out _ B0.out).mono ?_
    rintro e w1 ⟨rfl, b1⟩
    have B1 := Lib.hid (B0.out.trans (b1.mono B0.out.size))
    have O1 := Lib.hid (O0.out.keep (b1.block w.heap.size (by omega)))
    have X1 := Lib.hid (X0.out.keep (b1.block (w.heap.size + 1) (by omega)))
    have z1 := b1.size
    clear b1
    go_wp2_with fail
    refine (CV.out w1 B1.out O1.out).mono ?_
    rintro e w2 ⟨rfl, b2⟩
    have B2 := Lib.hid (B1.out.trans (b2.mono B1.out.size))
    have X2 := Lib.hid (X1.out.keep (b2.block (w.heap.size + 1) (by omega)))
    clear b2
    have S := base.st7_at X2.out.at_ Q
    have SB := Lib.hid (base.st7_below B2.out (show w.heap.size ≤ w.heap.size + 1 by omega) Q)
    obtain ⟨a0, a1, a2, a3, a4, a5, a6⟩ := X2.out.at_
    have f0 := X2.out.free 0
    have f1 := X2.out.free 1
    have f2 := X2.out.free 2
    have f3 := X2.out.free 3
    have f4 := X2.out.free 4
    have f5 := X2.out.free 5
    have f6 := X2.out.free 6
    simp only [zz, Nat.zero_add] at a0 a1 a2 a3 a4 a5 a6
    go_wp2
    change bodyPost _ _ _ _ _ (base.st7 w2 (w.heap.size + 1) Q)
    generalize base.st7 w2 (w.heap.size + 1) Q = W9 at S SB ⊢
    obtain ⟨c0, c1, c2, c3, c4, c5, c6⟩ := S
    simp only [Nat.zero_add] at c0 c1 c2 c3 c4 c5 c6
    exact bodyPost_ret (v := .agg #[.int .i64 Q.1, .int .i64 Q.2.1, .int .i64 Q.2.2.1, .int .i64 Q.2.2.2.1, .int .i64 Q.2.2.2.2.1, .int .i64 Q.2.2.2.2.2.1, .int .i64 Q.2.2.2.2.2.2]) (by simp [results, Try.results26, go_sem, c0, c1, c2, c3, c4, c5, c6]) rfl ⟨by rw [YES.out], SB.out⟩
end Go.Proofs.Ytmaejlfjdkkpdaa.ob
