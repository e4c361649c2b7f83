/-
  Plain helpers of this seat's proofs: contracts of the functions that ask what is open of an order. Conditions: none.
-/
import Derived.Test.YtmaejlfjdkkpdaaOf6
import Derived.Test.YtmaejlfjdkkpdaaSmI
import Derived.Deep.RegionHeld3
namespace Go.Proofs.Ytmaejlfjdkkpdaa.ob
open Go.ChangeShapes Go.WideShapes Go.ChangeAt Go.RowKit
open gen
open seven (F7 zz Row At)
open four (F4)
open pl (inR)
open pls (nth Pls OL)
open ord (Sc iok)
set_option maxRecDepth 40000 in
set_option maxHeartbeats 4000000 in
theorem opS (w : World) (B : Nat) (s : Sc) (ai : Option Addr) (ci gi : Nat) (l : List F4) (ap : Option Addr) (cp gp : Nat) (p : List (List F7)) (gs cs : Nat → Nat) (h : OL w B l p ai ci gi ap cp gp gs cs) (hl : l.length ≤ 1048576) (hn : p.length ≤ 1048576) (hm : ∀ i, i < p.length → (nth p i).length ≤ 1048577) :
    Calls Try.prog 28 #[.agg #[.int .i64 s.id, .int .i64 s.co, .int .i64 s.me, .int .i64 s.cu, .int .i64 s.da, .int .i64 s.nn, .int .i64 s.ra, .int .i64 s.nu, .int .i64 s.de, .slice ai l.length ci, .slice ap p.length cp, .int .i64 s.op, .int .i64 s.up]] w fun e w' => e = .returned (.int .i64 (oof s l p)) ∧ Below w.heap.size w w' := by
  have B0 := Lib.hid (show Below w.heap.size w (w.alloc (.cells #[.int .i64 s.id, .int .i64 s.co, .int .i64 s.me, .int .i64 s.cu, .int .i64 s.da, .int .i64 s.nn, .int .i64 s.ra, .int .i64 s.nu, .int .i64 s.de, .slice ai l.length ci, .slice ap p.length cp, .int .i64 s.op, .int .i64 s.up] 31)) from bAl (Below.refl _ _) (Nat.le_refl _) _)
  have O0 := Lib.hid (OB.new w s ai l.length ci ap p.length cp 31)
  have z0 : (w.alloc (.cells #[.int .i64 s.id, .int .i64 s.co, .int .i64 s.me, .int .i64 s.cu, .int .i64 s.da, .int .i64 s.nn, .int .i64 s.ra, .int .i64 s.nu, .int .i64 s.de, .slice ai l.length ci, .slice ap p.length cp, .int .i64 s.op, .int .i64 s.up] 31)).heap.size = w.heap.size + 1 := by simp only [sz_al]
  have L := Lib.hid h
  have HM := Lib.hid hm
  clear h hm
  have CK := Lib.hid (fun W (hb : Below w.heap.size w W) => okS W B s ai ci gi l ap cp gp p gs cs (L.out.below hb) (by omega) (by omega) HM.out)
  obtain ⟨V, hV⟩ : ∃ V, V = oof s l p := ⟨_, rfl⟩
  rw [← hV]
  have HV := Lib.hid hV
  clear hV
  cases hk : ord.ok s l p with
  | false =>
    have NO := Lib.hid (show V = 0 from HV.out.trans (by unfold oof; rw [hk]; rfl))
    rw [hk] at CK
    go_enter Try.func28, Try.ntmps28
    go_wp2_with fail
    refine (CK.out _ B0.out).mono ?_
    rintro e w1 ⟨rfl, b1⟩
    have B1 := Lib.hid (B0.out.trans (b1.mono B0.out.size))
    clear b1
    go_wp2
    go_ret
    exact ⟨by rw [NO.out]; rfl, B1.out⟩
  | true =>
    have OKV := ord.ok_iff.1 hk
    have YES : V = ord.su ord.va l l.length - ord.su ord.vs l l.length + (ord.ps p p.length).2.1 - (ord.ps p p.length).2.2.2.2.1 := HV.out.trans (by unfold oof; rw [hk]; rfl)
    rw [hk] at CK
    have SI := ord.sums_in OKV.iv l.length (Nat.le_refl _)
    have PS := ord.ps_sin p p.length
    have i1 := OKV.i1
    have p1 := OKV.p1
    have CS := Lib.hid (fun W (hb : Below w.heap.size w W) => sumsS W ap cp gp p gs cs (L.out.below hb).plans OKV.p1 HM.out)
    have CA := Lib.hid (fun W (hb : Below w.heap.size w W) => valS0 W ai ci gi l (L.out.below hb).items OKV.iv OKV.i1)
    have CB := Lib.hid (fun W (hb : Below w.heap.size w W) => valS1 W ai ci gi l (L.out.below hb).items OKV.iv OKV.i1)
    rw [vj0] at CA
    rw [vj1] at CB
    clear OKV
    obtain ⟨V0, hV0⟩ : ∃ V, V = ord.su ord.va l l.length := ⟨_, rfl⟩
    obtain ⟨V1, hV1⟩ : ∃ V, V = ord.su ord.vs l l.length := ⟨_, rfl⟩
    obtain ⟨Q, hQ⟩ : ∃ Q, Q = ord.ps p p.length := ⟨_, rfl⟩
    rw [← hQ] at CS PS YES
    rw [← hV0] at CA SI YES
    rw [← hV1] at CB SI YES
    clear hV0 hV1 hQ
    obtain ⟨v2, v1, v0, vk⟩ := SI
    have vk : V0 ≤ 8000000000 := by omega
    obtain ⟨-, q0, q1, -, -, -, -, q2, q3, -, -, -, -⟩ := PS
    obtain ⟨Q0, Q1, Q2, Q3, Q4, Q5, Q6⟩ := Q
    dsimp only at q0 q1 q2 q3 CS YES
    have q1 : Q1 ≤ 192000000000000 := by omega
    have v3 : 0 ≤ V1 := by omega
    have YES := Lib.hid YES
    clear v2
    go_enter Try.func28, Try.ntmps28
    go_wp2_with fail
    refine (CK.out _ B0.out).mono ?_
    rintro e w1 ⟨rfl, b1⟩
    have B1 := Lib.hid (B0.out.trans (b1.mono B0.out.size))
    have O1 := Lib.hid (O0.out.keep (b1.block w.heap.size (by omega)))
    have z1 := b1.size
    clear b1
    have y10 := O1.out.c10
    go_wp2_with fail
    refine (CS.out w1 B1.out).mono ?_
    rintro e w2 ⟨rfl, b2⟩
    have B2 := Lib.hid ((B1.out.trans (b2.mono B1.out.size)).alloc (B1.out.trans (b2.mono B1.out.size)).size (.cells #[.int .i64 Q0, .int .i64 Q1, .int .i64 Q2, .int .i64 Q3, .int .i64 Q4, .int .i64 Q5, .int .i64 Q6] 37))
    have O2 := Lib.hid ((O1.out.keep (b2.block w.heap.size (by omega))).keep (Below.heap_alloc w2 (.cells #[.int .i64 Q0, .int .i64 Q1, .int .i64 Q2, .int .i64 Q3, .int .i64 Q4, .int .i64 Q5, .int .i64 Q6] 37) w.heap.size (by have := b2.size; omega)))
    have z2 := b2.size
    have z2' : (w2.alloc (.cells #[.int .i64 Q0, .int .i64 Q1, .int .i64 Q2, .int .i64 Q3, .int .i64 Q4, .int .i64 Q5, .int .i64 Q6] 37)).heap.size = w2.heap.size + 1 := by simp only [sz_al]
    have X2 := Blk.new w2 #[.int .i64 Q0, .int .i64 Q1, .int .i64 Q2, .int .i64 Q3, .int .i64 Q4, .int .i64 Q5, .int .i64 Q6] 37 7 rfl
    clear b2 B1 O1 y10 CS
    go_wp2_with fail
    obtain ⟨qb, hqb⟩ : ∃ qb, qb = w2.heap.size := ⟨_, rfl⟩
    rw [← hqb] at X2 z2 z2' ⊢
    generalize w2.alloc (.cells #[.int .i64 Q0, .int .i64 Q1, .int .i64 Q2, .int .i64 Q3, .int .i64 Q4, .int .i64 Q5, .int .i64 Q6] 37) = W2 at B2 O2 X2 z2' ⊢
    clear hqb
    have KS := Lib.hid (show ∀ W, Below W2.heap.size W2 W → (W.cell? ⟨w.heap.size, 9, none⟩ = some (.slice ai l.length ci) ∧ W.cell? ⟨qb, 1, none⟩ = some (.int .i64 Q1) ∧ W.cell? ⟨qb, 4, none⟩ = some (.int .i64 Q4)) from fun W hb => ⟨(hb.cell (p := ⟨w.heap.size, 9, none⟩) (show w.heap.size < W2.heap.size by omega)).trans O2.out.c9, (hb.cell (p := ⟨qb, 1, none⟩) (show qb < W2.heap.size by omega)).trans (X2.cell 1 (by decide)), (hb.cell (p := ⟨qb, 4, none⟩) (show qb < W2.heap.size by omega)).trans (X2.cell 4 (by decide))⟩)
    have BD := Lib.hid B2.out.drew
    have KR := Lib.hid (Below.refl W2.heap.size W2)
    have KD := Lib.hid (Below.refl W2.heap.size W2).drew
    clear X2 O2
    go_region_held3 (fun w' => w'.cell? ⟨w.heap.size, 9, none⟩ = some (.slice ai l.length ci) ∧ w'.cell? ⟨qb, 1, none⟩ = some (.int .i64 Q1) ∧ w'.cell? ⟨qb, 4, none⟩ = some (.int .i64 Q4)) (first | exact KS.out _ K4.out | exact KS.out _ K3.out | exact KS.out _ KD.out | exact KS.out _ KR.out | go_keep)
      (first
        | (go_at_call 51; refine (CB.out w3 B3.out).mono ?_; rintro e w4 ⟨rfl, b'⟩; have B4 := Lib.hid (B3.out.trans (b'.mono B3.out.size)); have K4 := Lib.hid (K3.out.trans (b'.mono K3.out.size)); clear b')
        | (go_at_call 51; refine (CA.out _ BD.out).mono ?_; rintro e w3 ⟨rfl, b'⟩; have B3 := Lib.hid (BD.out.trans (b'.mono BD.out.size)); have K3 := Lib.hid (KD.out.trans (b'.mono KD.out.size)); clear b'))
    all_goals
      go_wp2
      go_ret
      exact ⟨show Ending.returned (Value.int .i64 (IntKind.i64.wrap (IntKind.i64.wrap (IntKind.i64.wrap (V0 - V1) + Q1) - Q4))) = _ from by rw [YES.out, show IntKind.i64.wrap (V0 - V1) = V0 - V1 from by rw [IntKind.wrap_i64]; omega, show IntKind.i64.wrap (V0 - V1 + Q1) = V0 - V1 + Q1 from by rw [IntKind.wrap_i64]; omega, show IntKind.i64.wrap (V0 - V1 + Q1 - Q4) = V0 - V1 + Q1 - Q4 from by rw [IntKind.wrap_i64]; omega], B4.out⟩
set_option maxRecDepth 40000 in
set_option maxHeartbeats 4000000 in
theorem opI (w : World) (B : Nat) (s : Sc) (ai : Option Addr) (ci gi : Nat) (l : List F4) (ap : Option Addr) (cp gp : Nat) (p : List (List F7)) (gs cs : Nat → Nat) (h : OL w B l p ai ci gi ap cp gp gs cs) (hl : l.length ≤ 1048576) (hn : p.length ≤ 1048576) (hm : ∀ i, i < p.length → (nth p i).length ≤ 1048577) :
    Calls Try.prog 29 #[.agg #[.int .i64 s.id, .int .i64 s.co, .int .i64 s.me, .int .i64 s.cu, .int .i64 s.da, .int .i64 s.nn, .int .i64 s.ra, .int .i64 s.nu, .int .i64 s.de, .slice ai l.length ci, .slice ap p.length cp, .int .i64 s.op, .int .i64 s.up]] w fun e w' => e = .returned (.int .i64 (oof s l p)) ∧ Below w.heap.size w w' := by
  have B0 := Lib.hid (show Below w.heap.size w (w.alloc (.cells #[.int .i64 s.id, .int .i64 s.co, .int .i64 s.me, .int .i64 s.cu, .int .i64 s.da, .int .i64 s.nn, .int .i64 s.ra, .int .i64 s.nu, .int .i64 s.de, .slice ai l.length ci, .slice ap p.length cp, .int .i64 s.op, .int .i64 s.up] 31)) from bAl (Below.refl _ _) (Nat.le_refl _) _)
  have O0 := Lib.hid (OB.new w s ai l.length ci ap p.length cp 31)
  have z0 : (w.alloc (.cells #[.int .i64 s.id, .int .i64 s.co, .int .i64 s.me, .int .i64 s.cu, .int .i64 s.da, .int .i64 s.nn, .int .i64 s.ra, .int .i64 s.nu, .int .i64 s.de, .slice ai l.length ci, .slice ap p.length cp, .int .i64 s.op, .int .i64 s.up] 31)).heap.size = w.heap.size + 1 := by simp only [sz_al]
  have L := Lib.hid h
  have HM := Lib.hid hm
  clear h hm
  have CK := Lib.hid (fun W (hb : Below w.heap.size w W) => okI W B s ai ci gi l ap cp gp p gs cs (L.out.below hb) (by omega) (by omega) HM.out)
  obtain ⟨V, hV⟩ : ∃ V, V = oof s l p := ⟨_, rfl⟩
  rw [← hV]
  have HV := Lib.hid hV
  clear hV
  cases hk : ord.ok s l p with
  | false =>
    have NO := Lib.hid (show V = 0 from HV.out.trans (by unfold oof; rw [hk]; rfl))
    rw [hk] at CK
    go_enter Try.func29, Try.ntmps29
    go_wp2_with fail
    refine (CK.out _ B0.out).mono ?_
    rintro e w1 ⟨rfl, b1⟩
    have B1 := Lib.hid (B0.out.trans (b1.mono B0.out.size))
    clear b1
    go_wp2
    go_ret
    exact ⟨by rw [NO.out]; rfl, B1.out⟩
  | true =>
    have OKV := ord.ok_iff.1 hk
    have YES : V = ord.su ord.va l l.length - ord.su ord.vs l l.length + (ord.ps p p.length).2.1 - (ord.ps p p.length).2.2.2.2.1 := HV.out.trans (by unfold oof; rw [hk]; rfl)
    rw [hk] at CK
    have SI := ord.sums_in OKV.iv l.length (Nat.le_refl _)
    have PS := ord.ps_sin p p.length
    have i1 := OKV.i1
    have p1 := OKV.p1
    have CS := Lib.hid (fun W (hb : Below w.heap.size w W) (ho : OB W w.heap.size s ai l.length ci ap p.length cp) => sumsI W w.heap.size s ai l.length ci ap cp gp p gs cs ho (L.out.below hb).plans OKV.p1 HM.out)
    have CA := Lib.hid (fun W (hb : Below w.heap.size w W) (ho : OB W w.heap.size s ai l.length ci ap p.length cp) => valuesI W w.heap.size s ai ci gi l ap p.length cp ho (L.out.below hb).items OKV.iv OKV.i1)
    clear OKV
    obtain ⟨V0, hV0⟩ : ∃ V, V = ord.su ord.va l l.length := ⟨_, rfl⟩
    obtain ⟨V1, hV1⟩ : ∃ V, V = ord.su ord.vs l l.length := ⟨_, rfl⟩
    obtain ⟨Q, hQ⟩ : ∃ Q, Q = ord.ps p p.length := ⟨_, rfl⟩
    rw [← hQ] at CS PS YES
    rw [← hV0, ← hV1] at CA SI YES
    generalize ord.su ord.vr l l.length = V2 at CA
    clear hV0 hV1 hQ
    obtain ⟨v2, v1, v0, vk⟩ := SI
    have vk : V0 ≤ 8000000000 := by omega
    obtain ⟨-, q0, q1, -, -, -, -, q2, q3, -, -, -, -⟩ := PS
    obtain ⟨Q0, Q1, Q2, Q3, Q4, Q5, Q6⟩ := Q
    dsimp only at q0 q1 q2 q3 CS YES
    have q1 : Q1 ≤ 192000000000000 := by omega
    have v3 : 0 ≤ V1 := by omega
    have YES := Lib.hid YES
    clear v2
    go_enter Try.func29, Try.ntmps29
    go_wp2_with fail
    refine (CK.out _ B0.out).mono ?_
    rintro e w1 ⟨rfl, b1⟩
    have B1 := Lib.hid (B0.out.trans (b1.mono B0.out.size))
    have O1 := Lib.hid (O0.out.keep (b1.block w.heap.size (by omega)))
    have z1 := b1.size
    clear b1
    go_wp2_with fail
    refine (CA.out w1 B1.out O1.out).mono ?_
    rintro e w2 ⟨rfl, b2⟩
    have B2 := Lib.hid (B1.out.trans (b2.mono B1.out.size))
    have O2 := Lib.hid (O1.out.keep (b2.block w.heap.size (by omega)))
    clear b2
    go_wp2_with fail
    refine (CS.out w2 B2.out O2.out).mono ?_
    rintro e w3 ⟨rfl, b3⟩
    have B3 := Lib.hid (B2.out.trans (b3.mono B2.out.size))
    clear b3
    go_wp2
    go_ret
    exact ⟨by rw [YES.out]; rfl, bAl (bAl B3.out (Nat.le_refl _) _) (Nat.le_refl _) _⟩
end Go.Proofs.Ytmaejlfjdkkpdaa.ob
