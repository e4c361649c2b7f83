/-
  Plain helpers of this seat's proofs: contracts of the functions that ask an order for a sum. Conditions: none.
-/
import Derived.Test.YtmaejlfjdkkpdaaOkS
import Derived.Test.YtmaejlfjdkkpdaaOk6
import Derived.Test.YtmaejlfjdkkpdaaVaS0
import Derived.Test.YtmaejlfjdkkpdaaVaS1
import Derived.Test.YtmaejlfjdkkpdaaVaS2
import Derived.Test.YtmaejlfjdkkpdaaSu6S
namespace Go.Proofs.Ytmaejlfjdkkpdaa.ob
open Go.ChangeShapes Go.WideShapes Go.ChangeAt Go.RowKit
open gen
open seven (F7 zz Row At)
open four (F4)
open pl (inR)
open pls (nth Pls OL)
open ord (Sc iok)
noncomputable def vof (j : Nat) (s : Sc) (l : List F4) (p : List (List F7)) : Int := if ord.ok s l p then ord.su (vj j) l l.length else 0
noncomputable def sof (s : Sc) (l : List F4) (p : List (List F7)) : F7 := if ord.ok s l p then ord.ps p p.length else zz
noncomputable def oof (s : Sc) (l : List F4) (p : List (List F7)) : Int := if ord.ok s l p then ord.su ord.va l l.length - ord.su ord.vs l l.length + (ord.ps p p.length).2.1 - (ord.ps p p.length).2.2.2.2.1 else 0
set_option maxRecDepth 40000 in
set_option maxHeartbeats 4000000 in
theorem ofS0 (w : World) (B : Nat) (s : Sc) (ai : Option Addr) (ci gi : Nat) (l : List F4) (ap : Option Addr) (cp gp : Nat) (p : List (List F7)) (gs cs : Nat → Nat) (h : OL w B l p ai ci gi ap cp gp gs cs) (hl : l.length ≤ 1048576) (hn : p.length ≤ 1048576) (hm : ∀ i, i < p.length → (nth p i).length ≤ 1048577) :
    Calls Try.prog 60 #[.agg #[.int .i64 s.id, .int .i64 s.co, .int .i64 s.me, .int .i64 s.cu, .int .i64 s.da, .int .i64 s.nn, .int .i64 s.ra, .int .i64 s.nu, .int .i64 s.de, .slice ai l.length ci, .slice ap p.length cp, .int .i64 s.op, .int .i64 s.up], .int .i64 0] w fun e w' => e = .returned (.int .i64 (vof 0 s l p)) ∧ Below w.heap.size w w' := by
  have B0 := Lib.hid (show Below w.heap.size w (w.alloc (.cells #[.int .i64 s.id, .int .i64 s.co, .int .i64 s.me, .int .i64 s.cu, .int .i64 s.da, .int .i64 s.nn, .int .i64 s.ra, .int .i64 s.nu, .int .i64 s.de, .slice ai l.length ci, .slice ap p.length cp, .int .i64 s.op, .int .i64 s.up] 31)) from bAl (Below.refl _ _) (Nat.le_refl _) _)
  have O0 := Lib.hid (OB.new w s ai l.length ci ap p.length cp 31)
  have z0 : (w.alloc (.cells #[.int .i64 s.id, .int .i64 s.co, .int .i64 s.me, .int .i64 s.cu, .int .i64 s.da, .int .i64 s.nn, .int .i64 s.ra, .int .i64 s.nu, .int .i64 s.de, .slice ai l.length ci, .slice ap p.length cp, .int .i64 s.op, .int .i64 s.up] 31)).heap.size = w.heap.size + 1 := by simp only [sz_al]
  have L := Lib.hid h
  have HM := Lib.hid hm
  clear h hm
  have CK := Lib.hid (fun W (hb : Below w.heap.size w W) => okS W B s ai ci gi l ap cp gp p gs cs (L.out.below hb) hl hn HM.out)
  have CV := Lib.hid (fun (hk : ord.ok s l p = true) W (hb : Below w.heap.size w W) => valS0 W ai ci gi l (L.out.below hb).items (ord.ok_iff.1 hk).iv (ord.ok_iff.1 hk).i1)
  obtain ⟨V, hV⟩ : ∃ V, V = vof 0 s l p := ⟨_, rfl⟩
  rw [← hV]
  have HV := Lib.hid hV
  clear hV
  cases hk : ord.ok s l p with
  | false =>
    have NO := Lib.hid (show V = 0 from HV.out.trans (by unfold vof; rw [hk]; rfl))
    rw [hk] at CK
    clear CV
    go_enter Try.func60, Try.ntmps60
    go_wp2_with fail
    refine (CK.out _ B0.out).mono ?_
    rintro e w1 ⟨rfl, b1⟩
    have B1 := Lib.hid (B0.out.trans (b1.mono B0.out.size))
    clear b1
    go_wp2
    go_ret
    exact ⟨by rw [NO.out]; rfl, B1.out⟩
  | true =>
    have YES := Lib.hid (show V = ord.su (vj 0) l l.length from HV.out.trans (by unfold vof; rw [hk]; rfl))
    have CV := Lib.hid (CV.out hk)
    rw [hk] at CK
    generalize ord.su (vj 0) l l.length = S at YES CV
    go_enter Try.func60, Try.ntmps60
    go_wp2_with fail
    refine (CK.out _ B0.out).mono ?_
    rintro e w1 ⟨rfl, b1⟩
    have B1 := Lib.hid (B0.out.trans (b1.mono B0.out.size))
    have O1 := O0.out.keep (b1.block w.heap.size (by omega))
    have y9 := O1.c9
    clear b1 O1
    go_wp2_with fail
    refine (CV.out w1 B1.out).mono ?_
    rintro e w2 ⟨rfl, b2⟩
    have B2 := Lib.hid (B1.out.trans (b2.mono B1.out.size))
    clear b2
    go_wp2
    go_ret
    exact ⟨by rw [YES.out]; rfl, B2.out⟩
set_option maxRecDepth 40000 in
set_option maxHeartbeats 4000000 in
theorem ofS1 (w : World) (B : Nat) (s : Sc) (ai : Option Addr) (ci gi : Nat) (l : List F4) (ap : Option Addr) (cp gp : Nat) (p : List (List F7)) (gs cs : Nat → Nat) (h : OL w B l p ai ci gi ap cp gp gs cs) (hl : l.length ≤ 1048576) (hn : p.length ≤ 1048576) (hm : ∀ i, i < p.length → (nth p i).length ≤ 1048577) :
    Calls Try.prog 60 #[.agg #[.int .i64 s.id, .int .i64 s.co, .int .i64 s.me, .int .i64 s.cu, .int .i64 s.da, .int .i64 s.nn, .int .i64 s.ra, .int .i64 s.nu, .int .i64 s.de, .slice ai l.length ci, .slice ap p.length cp, .int .i64 s.op, .int .i64 s.up], .int .i64 1] w fun e w' => e = .returned (.int .i64 (vof 1 s l p)) ∧ Below w.heap.size w w' := by
  have B0 := Lib.hid (show Below w.heap.size w (w.alloc (.cells #[.int .i64 s.id, .int .i64 s.co, .int .i64 s.me, .int .i64 s.cu, .int .i64 s.da, .int .i64 s.nn, .int .i64 s.ra, .int .i64 s.nu, .int .i64 s.de, .slice ai l.length ci, .slice ap p.length cp, .int .i64 s.op, .int .i64 s.up] 31)) from bAl (Below.refl _ _) (Nat.le_refl _) _)
  have O0 := Lib.hid (OB.new w s ai l.length ci ap p.length cp 31)
  have z0 : (w.alloc (.cells #[.int .i64 s.id, .int .i64 s.co, .int .i64 s.me, .int .i64 s.cu, .int .i64 s.da, .int .i64 s.nn, .int .i64 s.ra, .int .i64 s.nu, .int .i64 s.de, .slice ai l.length ci, .slice ap p.length cp, .int .i64 s.op, .int .i64 s.up] 31)).heap.size = w.heap.size + 1 := by simp only [sz_al]
  have L := Lib.hid h
  have HM := Lib.hid hm
  clear h hm
  have CK := Lib.hid (fun W (hb : Below w.heap.size w W) => okS W B s ai ci gi l ap cp gp p gs cs (L.out.below hb) hl hn HM.out)
  have CV := Lib.hid (fun (hk : ord.ok s l p = true) W (hb : Below w.heap.size w W) => valS1 W ai ci gi l (L.out.below hb).items (ord.ok_iff.1 hk).iv (ord.ok_iff.1 hk).i1)
  obtain ⟨V, hV⟩ : ∃ V, V = vof 1 s l p := ⟨_, rfl⟩
  rw [← hV]
  have HV := Lib.hid hV
  clear hV
  cases hk : ord.ok s l p with
  | false =>
    have NO := Lib.hid (show V = 0 from HV.out.trans (by unfold vof; rw [hk]; rfl))
    rw [hk] at CK
    clear CV
    go_enter Try.func60, Try.ntmps60
    go_wp2_with fail
    refine (CK.out _ B0.out).mono ?_
    rintro e w1 ⟨rfl, b1⟩
    have B1 := Lib.hid (B0.out.trans (b1.mono B0.out.size))
    clear b1
    go_wp2
    go_ret
    exact ⟨by rw [NO.out]; rfl, B1.out⟩
  | true =>
    have YES := Lib.hid (show V = ord.su (vj 1) l l.length from HV.out.trans (by unfold vof; rw [hk]; rfl))
    have CV := Lib.hid (CV.out hk)
    rw [hk] at CK
    generalize ord.su (vj 1) l l.length = S at YES CV
    go_enter Try.func60, Try.ntmps60
    go_wp2_with fail
    refine (CK.out _ B0.out).mono ?_
    rintro e w1 ⟨rfl, b1⟩
    have B1 := Lib.hid (B0.out.trans (b1.mono B0.out.size))
    have O1 := O0.out.keep (b1.block w.heap.size (by omega))
    have y9 := O1.c9
    clear b1 O1
    go_wp2_with fail
    refine (CV.out w1 B1.out).mono ?_
    rintro e w2 ⟨rfl, b2⟩
    have B2 := Lib.hid (B1.out.trans (b2.mono B1.out.size))
    clear b2
    go_wp2
    go_ret
    exact ⟨by rw [YES.out]; rfl, B2.out⟩
set_option maxRecDepth 40000 in
set_option maxHeartbeats 4000000 in
theorem ofS2 (w : World) (B : Nat) (s : Sc) (ai : Option Addr) (ci gi : Nat) (l : List F4) (ap : Option Addr) (cp gp : Nat) (p : List (List F7)) (gs cs : Nat → Nat) (h : OL w B l p ai ci gi ap cp gp gs cs) (hl : l.length ≤ 1048576) (hn : p.length ≤ 1048576) (hm : ∀ i, i < p.length → (nth p i).length ≤ 1048577) :
    Calls Try.prog 60 #[.agg #[.int .i64 s.id, .int .i64 s.co, .int .i64 s.me, .int .i64 s.cu, .int .i64 s.da, .int .i64 s.nn, .int .i64 s.ra, .int .i64 s.nu, .int .i64 s.de, .slice ai l.length ci, .slice ap p.length cp, .int .i64 s.op, .int .i64 s.up], .int .i64 2] w fun e w' => e = .returned (.int .i64 (vof 2 s l p)) ∧ Below w.heap.size w w' := by
  have B0 := Lib.hid (show Below w.heap.size w (w.alloc (.cells #[.int .i64 s.id, .int .i64 s.co, .int .i64 s.me, .int .i64 s.cu, .int .i64 s.da, .int .i64 s.nn, .int .i64 s.ra, .int .i64 s.nu, .int .i64 s.de, .slice ai l.length ci, .slice ap p.length cp, .int .i64 s.op, .int .i64 s.up] 31)) from bAl (Below.refl _ _) (Nat.le_refl _) _)
  have O0 := Lib.hid (OB.new w s ai l.length ci ap p.length cp 31)
  have z0 : (w.alloc (.cells #[.int .i64 s.id, .int .i64 s.co, .int .i64 s.me, .int .i64 s.cu, .int .i64 s.da, .int .i64 s.nn, .int .i64 s.ra, .int .i64 s.nu, .int .i64 s.de, .slice ai l.length ci, .slice ap p.length cp, .int .i64 s.op, .int .i64 s.up] 31)).heap.size = w.heap.size + 1 := by simp only [sz_al]
  have L := Lib.hid h
  have HM := Lib.hid hm
  clear h hm
  have CK := Lib.hid (fun W (hb : Below w.heap.size w W) => okS W B s ai ci gi l ap cp gp p gs cs (L.out.below hb) hl hn HM.out)
  have CV := Lib.hid (fun (hk : ord.ok s l p = true) W (hb : Below w.heap.size w W) => valS2 W ai ci gi l (L.out.below hb).items (ord.ok_iff.1 hk).iv (ord.ok_iff.1 hk).i1)
  obtain ⟨V, hV⟩ : ∃ V, V = vof 2 s l p := ⟨_, rfl⟩
  rw [← hV]
  have HV := Lib.hid hV
  clear hV
  cases hk : ord.ok s l p with
  | false =>
    have NO := Lib.hid (show V = 0 from HV.out.trans (by unfold vof; rw [hk]; rfl))
    rw [hk] at CK
    clear CV
    go_enter Try.func60, Try.ntmps60
    go_wp2_with fail
    refine (CK.out _ B0.out).mono ?_
    rintro e w1 ⟨rfl, b1⟩
    have B1 := Lib.hid (B0.out.trans (b1.mono B0.out.size))
    clear b1
    go_wp2
    go_ret
    exact ⟨by rw [NO.out]; rfl, B1.out⟩
  | true =>
    have YES := Lib.hid (show V = ord.su (vj 2) l l.length from HV.out.trans (by unfold vof; rw [hk]; rfl))
    have CV := Lib.hid (CV.out hk)
    rw [hk] at CK
    generalize ord.su (vj 2) l l.length = S at YES CV
    go_enter Try.func60, Try.ntmps60
    go_wp2_with fail
    refine (CK.out _ B0.out).mono ?_
    rintro e w1 ⟨rfl, b1⟩
    have B1 := Lib.hid (B0.out.trans (b1.mono B0.out.size))
    have O1 := O0.out.keep (b1.block w.heap.size (by omega))
    have y9 := O1.c9
    clear b1 O1
    go_wp2_with fail
    refine (CV.out w1 B1.out).mono ?_
    rintro e w2 ⟨rfl, b2⟩
    have B2 := Lib.hid (B1.out.trans (b2.mono B1.out.size))
    clear b2
    go_wp2
    go_ret
    exact ⟨by rw [YES.out]; rfl, B2.out⟩
theorem vValueOfS (w : World) (B : Nat) (s : Sc) (ai : Option Addr) (ci gi : Nat) (l : List F4) (ap : Option Addr) (cp gp : Nat) (p : List (List F7)) (gs cs : Nat → Nat) (h : OL w B l p ai ci gi ap cp gp gs cs) (hl : l.length ≤ 1048576) (hn : p.length ≤ 1048576) (hm : ∀ i, i < p.length → (nth p i).length ≤ 1048577) :
    Calls Try.prog 19 #[.agg #[.int .i64 s.id, .int .i64 s.co, .int .i64 s.me, .int .i64 s.cu, .int .i64 s.da, .int .i64 s.nn, .int .i64 s.ra, .int .i64 s.nu, .int .i64 s.de, .slice ai l.length ci, .slice ap p.length cp, .int .i64 s.op, .int .i64 s.up]] w fun e w' => e = .returned (.int .i64 (vof 0 s l p)) ∧ Below w.heap.size w w' := by
  have B0 := Lib.hid (show Below w.heap.size w (w.alloc (.cells #[.int .i64 s.id, .int .i64 s.co, .int .i64 s.me, .int .i64 s.cu, .int .i64 s.da, .int .i64 s.nn, .int .i64 s.ra, .int .i64 s.nu, .int .i64 s.de, .slice ai l.length ci, .slice ap p.length cp, .int .i64 s.op, .int .i64 s.up] 31)) from bAl (Below.refl _ _) (Nat.le_refl _) _)
  have C := Lib.hid (fun W (hb : Below w.heap.size w W) => ofS0 W B s ai ci gi l ap cp gp p gs cs (h.below hb) hl hn hm)
  clear h hm
  generalize vof 0 s l p = V at C ⊢
  go_enter Try.func19, Try.ntmps19
  go_wp2_with fail
  refine (C.out _ B0.out).mono ?_
  rintro e w1 ⟨rfl, b1⟩
  have B1 := Lib.hid (B0.out.trans (b1.mono B0.out.size))
  clear b1
  go_wp2
  go_ret
  exact ⟨rfl, B1.out⟩
theorem vShippedOfS (w : World) (B : Nat) (s : Sc) (ai : Option Addr) (ci gi : Nat) (l : List F4) (ap : Option Addr) (cp gp : Nat) (p : List (List F7)) (gs cs : Nat → Nat) (h : OL w B l p ai ci gi ap cp gp gs cs) (hl : l.length ≤ 1048576) (hn : p.length ≤ 1048576) (hm : ∀ i, i < p.length → (nth p i).length ≤ 1048577) :
    Calls Try.prog 21 #[.agg #[.int .i64 s.id, .int .i64 s.co, .int .i64 s.me, .int .i64 s.cu, .int .i64 s.da, .int .i64 s.nn, .int .i64 s.ra, .int .i64 s.nu, .int .i64 s.de, .slice ai l.length ci, .slice ap p.length cp, .int .i64 s.op, .int .i64 s.up]] w fun e w' => e = .returned (.int .i64 (vof 1 s l p)) ∧ Below w.heap.size w w' := by
  have B0 := Lib.hid (show Below w.heap.size w (w.alloc (.cells #[.int .i64 s.id, .int .i64 s.co, .int .i64 s.me, .int .i64 s.cu, .int .i64 s.da, .int .i64 s.nn, .int .i64 s.ra, .int .i64 s.nu, .int .i64 s.de, .slice ai l.length ci, .slice ap p.length cp, .int .i64 s.op, .int .i64 s.up] 31)) from bAl (Below.refl _ _) (Nat.le_refl _) _)
  have C := Lib.hid (fun W (hb : Below w.heap.size w W) => ofS1 W B s ai ci gi l ap cp gp p gs cs (h.below hb) hl hn hm)
  clear h hm
  generalize vof 1 s l p = V at C ⊢
  go_enter Try.func21, Try.ntmps21
  go_wp2_with fail
  refine (C.out _ B0.out).mono ?_
  rintro e w1 ⟨rfl, b1⟩
  have B1 := Lib.hid (B0.out.trans (b1.mono B0.out.size))
  clear b1
  go_wp2
  go_ret
  exact ⟨rfl, B1.out⟩
theorem vRefundedOfS (w : World) (B : Nat) (s : Sc) (ai : Option Addr) (ci gi : Nat) (l : List F4) (ap : Option Addr) (cp gp : Nat) (p : List (List F7)) (gs cs : Nat → Nat) (h : OL w B l p ai ci gi ap cp gp gs cs) (hl : l.length ≤ 1048576) (hn : p.length ≤ 1048576) (hm : ∀ i, i < p.length → (nth p i).length ≤ 1048577) :
    Calls Try.prog 23 #[.agg #[.int .i64 s.id, .int .i64 s.co, .int .i64 s.me, .int .i64 s.cu, .int .i64 s.da, .int .i64 s.nn, .int .i64 s.ra, .int .i64 s.nu, .int .i64 s.de, .slice ai l.length ci, .slice ap p.length cp, .int .i64 s.op, .int .i64 s.up]] w fun e w' => e = .returned (.int .i64 (vof 2 s l p)) ∧ Below w.heap.size w w' := by
  have B0 := Lib.hid (show Below w.heap.size w (w.alloc (.cells #[.int .i64 s.id, .int .i64 s.co, .int .i64 s.me, .int .i64 s.cu, .int .i64 s.da, .int .i64 s.nn, .int .i64 s.ra, .int .i64 s.nu, .int .i64 s.de, .slice ai l.length ci, .slice ap p.length cp, .int .i64 s.op, .int .i64 s.up] 31)) from bAl (Below.refl _ _) (Nat.le_refl _) _)
  have C := Lib.hid (fun W (hb : Below w.heap.size w W) => ofS2 W B s ai ci gi l ap cp gp p gs cs (h.below hb) hl hn hm)
  clear h hm
  generalize vof 2 s l p = V at C ⊢
  go_enter Try.func23, Try.ntmps23
  go_wp2_with fail
  refine (C.out _ B0.out).mono ?_
  rintro e w1 ⟨rfl, b1⟩
  have B1 := Lib.hid (B0.out.trans (b1.mono B0.out.size))
  clear b1
  go_wp2
  go_ret
  exact ⟨rfl, B1.out⟩
set_option maxRecDepth 40000 in
set_option maxHeartbeats 4000000 in
theorem vValueOfI (w : World) (B : Nat) (s : Sc) (ai : Option Addr) (ci gi : Nat) (l : List F4) (ap : Option Addr) (cp gp : Nat) (p : List (List F7)) (gs cs : Nat → Nat) (h : OL w B l p ai ci gi ap cp gp gs cs) (hl : l.length ≤ 1048576) (hn : p.length ≤ 1048576) (hm : ∀ i, i < p.length → (nth p i).length ≤ 1048577) :
    Calls Try.prog 20 #[.agg #[.int .i64 s.id, .int .i64 s.co, .int .i64 s.me, .int .i64 s.cu, .int .i64 s.da, .int .i64 s.nn, .int .i64 s.ra, .int .i64 s.nu, .int .i64 s.de, .slice ai l.length ci, .slice ap p.length cp, .int .i64 s.op, .int .i64 s.up]] w fun e w' => e = .returned (.int .i64 (vof 0 s l p)) ∧ Below w.heap.size w w' := by
  have B0 := Lib.hid (show Below w.heap.size w (w.alloc (.cells #[.int .i64 s.id, .int .i64 s.co, .int .i64 s.me, .int .i64 s.cu, .int .i64 s.da, .int .i64 s.nn, .int .i64 s.ra, .int .i64 s.nu, .int .i64 s.de, .slice ai l.length ci, .slice ap p.length cp, .int .i64 s.op, .int .i64 s.up] 31)) from bAl (Below.refl _ _) (Nat.le_refl _) _)
  have O0 := Lib.hid (OB.new w s ai l.length ci ap p.length cp 31)
  have z0 : (w.alloc (.cells #[.int .i64 s.id, .int .i64 s.co, .int .i64 s.me, .int .i64 s.cu, .int .i64 s.da, .int .i64 s.nn, .int .i64 s.ra, .int .i64 s.nu, .int .i64 s.de, .slice ai l.length ci, .slice ap p.length cp, .int .i64 s.op, .int .i64 s.up] 31)).heap.size = w.heap.size + 1 := by simp only [sz_al]
  have L := Lib.hid h
  have HM := Lib.hid hm
  clear h hm
  have CK := Lib.hid (fun W (hb : Below w.heap.size w W) => okI W B s ai ci gi l ap cp gp p gs cs (L.out.below hb) (by omega) (by omega) HM.out)
  have CV := Lib.hid (fun (hk : ord.ok s l p = true) W (hb : Below w.heap.size w W) (ho : OB W w.heap.size s ai l.length ci ap p.length cp) => valuesI W w.heap.size s ai ci gi l ap p.length cp ho (L.out.below hb).items (ord.ok_iff.1 hk).iv (ord.ok_iff.1 hk).i1)
  obtain ⟨V, hV⟩ : ∃ V, V = vof 0 s l p := ⟨_, rfl⟩
  rw [← hV]
  have HV := Lib.hid hV
  clear hV
  cases hk : ord.ok s l p with
  | false =>
    have NO := Lib.hid (show V = 0 from HV.out.trans (by unfold vof; rw [hk]; rfl))
    rw [hk] at CK
    clear CV
    go_enter Try.func20, Try.ntmps20
    go_wp2_with fail
    refine (CK.out _ B0.out).mono ?_
    rintro e w1 ⟨rfl, b1⟩
    have B1 := Lib.hid (B0.out.trans (b1.mono B0.out.size))
    clear b1
    go_wp2
    go_ret
    exact ⟨by rw [NO.out]; rfl, B1.out⟩
  | true =>
    have YES := Lib.hid (show V = ord.su ord.va l l.length from HV.out.trans (by unfold vof; rw [hk]; rfl))
    have CV := Lib.hid (CV.out hk)
    rw [hk] at CK
    generalize ord.su ord.va l l.length = V0 at YES CV
    generalize ord.su ord.vs l l.length = V1 at YES CV
    generalize ord.su ord.vr l l.length = V2 at YES CV
    have fF : ∀ w0, (Instr.field 72 (.agg #[.int .i64 V0, .int .i64 V1, .int .i64 V2]) 0).run Try.prog w0 = .ok (.int .i64 V0) w0 := fun _ => rfl
    go_enter Try.func20, Try.ntmps20
    go_wp2_with fail
    refine (CK.out _ B0.out).mono ?_
    rintro e w1 ⟨rfl, b1⟩
    have B1 := Lib.hid (B0.out.trans (b1.mono B0.out.size))
    have O1 := Lib.hid (O0.out.keep (b1.block w.heap.size (by omega)))
    clear b1
    go_wp2_with fail
    refine (CV.out w1 B1.out O1.out).mono ?_
    rintro e w2 ⟨rfl, b2⟩
    have B2 := Lib.hid (B1.out.trans (b2.mono B1.out.size))
    clear b2
    go_wp2
    go_ret
    exact ⟨by rw [YES.out]; rfl, B2.out⟩
set_option maxRecDepth 40000 in
set_option maxHeartbeats 4000000 in
theorem vShippedOfI (w : World) (B : Nat) (s : Sc) (ai : Option Addr) (ci gi : Nat) (l : List F4) (ap : Option Addr) (cp gp : Nat) (p : List (List F7)) (gs cs : Nat → Nat) (h : OL w B l p ai ci gi ap cp gp gs cs) (hl : l.length ≤ 1048576) (hn : p.length ≤ 1048576) (hm : ∀ i, i < p.length → (nth p i).length ≤ 1048577) :
    Calls Try.prog 22 #[.agg #[.int .i64 s.id, .int .i64 s.co, .int .i64 s.me, .int .i64 s.cu, .int .i64 s.da, .int .i64 s.nn, .int .i64 s.ra, .int .i64 s.nu, .int .i64 s.de, .slice ai l.length ci, .slice ap p.length cp, .int .i64 s.op, .int .i64 s.up]] w fun e w' => e = .returned (.int .i64 (vof 1 s l p)) ∧ Below w.heap.size w w' := by
  have B0 := Lib.hid (show Below w.heap.size w (w.alloc (.cells #[.int .i64 s.id, .int .i64 s.co, .int .i64 s.me, .int .i64 s.cu, .int .i64 s.da, .int .i64 s.nn, .int .i64 s.ra, .int .i64 s.nu, .int .i64 s.de, .slice ai l.length ci, .slice ap p.length cp, .int .i64 s.op, .int .i64 s.up] 31)) from bAl (Below.refl _ _) (Nat.le_refl _) _)
  have O0 := Lib.hid (OB.new w s ai l.length ci ap p.length cp 31)
  have z0 : (w.alloc (.cells #[.int .i64 s.id, .int .i64 s.co, .int .i64 s.me, .int .i64 s.cu, .int .i64 s.da, .int .i64 s.nn, .int .i64 s.ra, .int .i64 s.nu, .int .i64 s.de, .slice ai l.length ci, .slice ap p.length cp, .int .i64 s.op, .int .i64 s.up] 31)).heap.size = w.heap.size + 1 := by simp only [sz_al]
  have L := Lib.hid h
  have HM := Lib.hid hm
  clear h hm
  have CK := Lib.hid (fun W (hb : Below w.heap.size w W) => okI W B s ai ci gi l ap cp gp p gs cs (L.out.below hb) (by omega) (by omega) HM.out)
  have CV := Lib.hid (fun (hk : ord.ok s l p = true) W (hb : Below w.heap.size w W) (ho : OB W w.heap.size s ai l.length ci ap p.length cp) => valuesI W w.heap.size s ai ci gi l ap p.length cp ho (L.out.below hb).items (ord.ok_iff.1 hk).iv (ord.ok_iff.1 hk).i1)
  obtain ⟨V, hV⟩ : ∃ V, V = vof 1 s l p := ⟨_, rfl⟩
  rw [← hV]
  have HV := Lib.hid hV
  clear hV
  cases hk : ord.ok s l p with
  | false =>
    have NO := Lib.hid (show V = 0 from HV.out.trans (by unfold vof; rw [hk]; rfl))
    rw [hk] at CK
    clear CV
    go_enter Try.func22, Try.ntmps22
    go_wp2_with fail
    refine (CK.out _ B0.out).mono ?_
    rintro e w1 ⟨rfl, b1⟩
    have B1 := Lib.hid (B0.out.trans (b1.mono B0.out.size))
    clear b1
    go_wp2
    go_ret
    exact ⟨by rw [NO.out]; rfl, B1.out⟩
  | true =>
    have YES := Lib.hid (show V = ord.su ord.vs l l.length from HV.out.trans (by unfold vof; rw [hk]; rfl))
    have CV := Lib.hid (CV.out hk)
    rw [hk] at CK
    generalize ord.su ord.va l l.length = V0 at YES CV
    generalize ord.su ord.vs l l.length = V1 at YES CV
    generalize ord.su ord.vr l l.length = V2 at YES CV
    have fF : ∀ w0, (Instr.field 72 (.agg #[.int .i64 V0, .int .i64 V1, .int .i64 V2]) 1).run Try.prog w0 = .ok (.int .i64 V1) w0 := fun _ => rfl
    go_enter Try.func22, Try.ntmps22
    go_wp2_with fail
    refine (CK.out _ B0.out).mono ?_
    rintro e w1 ⟨rfl, b1⟩
    have B1 := Lib.hid (B0.out.trans (b1.mono B0.out.size))
    have O1 := Lib.hid (O0.out.keep (b1.block w.heap.size (by omega)))
    clear b1
    go_wp2_with fail
    refine (CV.out w1 B1.out O1.out).mono ?_
    rintro e w2 ⟨rfl, b2⟩
    have B2 := Lib.hid (B1.out.trans (b2.mono B1.out.size))
    clear b2
    go_wp2
    go_ret
    exact ⟨by rw [YES.out]; rfl, B2.out⟩
set_option maxRecDepth 40000 in
set_option maxHeartbeats 4000000 in
theorem vRefundedOfI (w : World) (B : Nat) (s : Sc) (ai : Option Addr) (ci gi : Nat) (l : List F4) (ap : Option Addr) (cp gp : Nat) (p : List (List F7)) (gs cs : Nat → Nat) (h : OL w B l p ai ci gi ap cp gp gs cs) (hl : l.length ≤ 1048576) (hn : p.length ≤ 1048576) (hm : ∀ i, i < p.length → (nth p i).length ≤ 1048577) :
    Calls Try.prog 24 #[.agg #[.int .i64 s.id, .int .i64 s.co, .int .i64 s.me, .int .i64 s.cu, .int .i64 s.da, .int .i64 s.nn, .int .i64 s.ra, .int .i64 s.nu, .int .i64 s.de, .slice ai l.length ci, .slice ap p.length cp, .int .i64 s.op, .int .i64 s.up]] w fun e w' => e = .returned (.int .i64 (vof 2 s l p)) ∧ Below w.heap.size w w' := by
  have B0 := Lib.hid (show Below w.heap.size w (w.alloc (.cells #[.int .i64 s.id, .int .i64 s.co, .int .i64 s.me, .int .i64 s.cu, .int .i64 s.da, .int .i64 s.nn, .int .i64 s.ra, .int .i64 s.nu, .int .i64 s.de, .slice ai l.length ci, .slice ap p.length cp, .int .i64 s.op, .int .i64 s.up] 31)) from bAl (Below.refl _ _) (Nat.le_refl _) _)
  have O0 := Lib.hid (OB.new w s ai l.length ci ap p.length cp 31)
  have z0 : (w.alloc (.cells #[.int .i64 s.id, .int .i64 s.co, .int .i64 s.me, .int .i64 s.cu, .int .i64 s.da, .int .i64 s.nn, .int .i64 s.ra, .int .i64 s.nu, .int .i64 s.de, .slice ai l.length ci, .slice ap p.length cp, .int .i64 s.op, .int .i64 s.up] 31)).heap.size = w.heap.size + 1 := by simp only [sz_al]
  have L := Lib.hid h
  have HM := Lib.hid hm
  clear h hm
  have CK := Lib.hid (fun W (hb : Below w.heap.size w W) => okI W B s ai ci gi l ap cp gp p gs cs (L.out.below hb) (by omega) (by omega) HM.out)
  have CV := Lib.hid (fun (hk : ord.ok s l p = true) W (hb : Below w.heap.size w W) (ho : OB W w.heap.size s ai l.length ci ap p.length cp) => valuesI W w.heap.size s ai ci gi l ap p.length cp ho (L.out.below hb).items (ord.ok_iff.1 hk).iv (ord.ok_iff.1 hk).i1)
  obtain ⟨V, hV⟩ : ∃ V, V = vof 2 s l p := ⟨_, rfl⟩
  rw [← hV]
  have HV := Lib.hid hV
  clear hV
  cases hk : ord.ok s l p with
  | false =>
    have NO := Lib.hid (show V = 0 from HV.out.trans (by unfold vof; rw [hk]; rfl))
    rw [hk] at CK
    clear CV
    go_enter Try.func24, Try.ntmps24
    go_wp2_with fail
    refine (CK.out _ B0.out).mono ?_
    rintro e w1 ⟨rfl, b1⟩
    have B1 := Lib.hid (B0.out.trans (b1.mono B0.out.size))
    clear b1
    go_wp2
    go_ret
    exact ⟨by rw [NO.out]; rfl, B1.out⟩
  | true =>
    have YES := Lib.hid (show V = ord.su ord.vr l l.length from HV.out.trans (by unfold vof; rw [hk]; rfl))
    have CV := Lib.hid (CV.out hk)
    rw [hk] at CK
    generalize ord.su ord.va l l.length = V0 at YES CV
    generalize ord.su ord.vs l l.length = V1 at YES CV
    generalize ord.su ord.vr l l.length = V2 at YES CV
    have fF : ∀ w0, (Instr.field 72 (.agg #[.int .i64 V0, .int .i64 V1, .int .i64 V2]) 2).run Try.prog w0 = .ok (.int .i64 V2) w0 := fun _ => rfl
    go_enter Try.func24, Try.ntmps24
    go_wp2_with fail
    refine (CK.out _ B0.out).mono ?_
    rintro e w1 ⟨rfl, b1⟩
    have B1 := Lib.hid (B0.out.trans (b1.mono B0.out.size))
    have O1 := Lib.hid (O0.out.keep (b1.block w.heap.size (by omega)))
    clear b1
    go_wp2_with fail
    refine (CV.out w1 B1.out O1.out).mono ?_
    rintro e w2 ⟨rfl, b2⟩
    have B2 := Lib.hid (B1.out.trans (b2.mono B1.out.size))
    clear b2
    go_wp2
    go_ret
    exact ⟨by rw [YES.out]; rfl, B2.out⟩
end Go.Proofs.Ytmaejlfjdkkpdaa.ob
