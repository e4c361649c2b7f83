/-
  Plain helpers of this seat's proofs: the contract of the landed OrderOk. Conditions: none.
-/
import Derived.Test.YtmaejlfjdkkpdaaIt6
import Derived.Test.YtmaejlfjdkkpdaaVa6
import Derived.Test.YtmaejlfjdkkpdaaSu6
import Derived.Deep.RegionHeld3
namespace Go.Proofs.Ytmaejlfjdkkpdaa.ob
open Go.ChangeShapes Go.WideShapes Go.ChangeAt Go.RowKit
open gen
open seven (F7 zz Row At)
open four (F4)
open pl (inR)
open pls (nth Pls OL)
open ord (Sc iok)
/-- The sums fit together. -/
noncomputable def bal (s : Sc) (l : List F4) (p : List (List F7)) : Bool := (ord.ps p p.length).2.1 == ord.su ord.vs l l.length - ord.su ord.vr l l.length - s.up
theorem ok_no1 {s : Sc} {l : List F4} {p : List (List F7)} (h : ord.tok s = false) : ord.ok s l p = false := ord.ok_f fun k => by rw [k.t] at h; cases h
theorem ok_no2 {s : Sc} {l : List F4} {p : List (List F7)} (h : itv l = false) : ord.ok s l p = false := ord.ok_f fun k => by rw [itv_t ⟨k.i0, k.i1, k.iv⟩] at h; cases h
theorem ok_no3 {s : Sc} {l : List F4} {p : List (List F7)} (h : plv p = false) : ord.ok s l p = false := ord.ok_f fun k => by rw [plv_t ⟨k.p1, k.pv⟩] at h; cases h
theorem ok_yes {s : Sc} {l : List F4} {p : List (List F7)} (h1 : ord.tok s = true) (h2 : itv l = true) (h3 : plv p = true) : ord.ok s l p = bal s l p := by
  have q2 := itv_iff.1 h2
  have q3 := plv_iff.1 h3
  unfold bal
  cases h : ((ord.ps p p.length).2.1 == ord.su ord.vs l l.length - ord.su ord.vr l l.length - s.up) with
  | true => exact ord.ok_t ⟨h1, q2.1, q2.2.1, q2.2.2, q3.1, q3.2, by simpa using h⟩
  | false => exact ord.ok_f fun k => by have := k.bal; simp at h; exact h this
theorem tok_up {s : Sc} (h : ord.tok s = true) : 0 ≤ s.up ∧ s.up ≤ 1000000000000 := by
  unfold ord.tok at h
  simp only [Bool.and_eq_true, pl.inR_iff] at h
  exact h.2
set_option maxRecDepth 40000 in
set_option maxHeartbeats 4000000 in
theorem balI (w : World) (b : Nat) (s : Sc) (ai : Option Addr) (ci gi : Nat) (l : List F4) (ap : Option Addr) (cp gp : Nat) (p : List (List F7)) (gs cs : Nat → Nat) (h : OB w b s ai l.length ci ap p.length cp) (ri : four.Row w ai ci gi l) (rp : Pls w ap cp gp p gs cs) (hl : l.length ≤ 8) (hv : ord.IV l) (hn : p.length ≤ 8) (hm : ∀ i, i < p.length → (nth p i).length ≤ 1048577) (hu : 0 ≤ s.up ∧ s.up ≤ 1000000000000) :
    Calls Try.prog 57 #[.pointer (some ⟨b, 0, none⟩)] w fun e w' => e = .returned (.bool (bal s l p)) ∧ Below w.heap.size w w' := by
  have CV := Lib.hid (valuesI w b s ai ci gi l ap p.length cp h ri hv hl)
  have CS := Lib.hid (fun W (hb : Below w.heap.size w W) => sumsI W b s ai l.length ci ap cp gp p gs cs (h.keep (hb.block b h.lt)) (rp.below hb) hn hm)
  have OBh := Lib.hid h
  have SI := ord.sums_in hv l.length (Nat.le_refl _)
  have PS := ord.ps_sin p p.length
  have bl := h.lt
  unfold bal
  clear h ri rp hv hm
  obtain ⟨V0, hV0⟩ : ∃ V, V = ord.su ord.va l l.length := ⟨_, rfl⟩
  obtain ⟨V1, hV1⟩ : ∃ V, V = ord.su ord.vs l l.length := ⟨_, rfl⟩
  obtain ⟨V2, hV2⟩ : ∃ V, V = ord.su ord.vr l l.length := ⟨_, rfl⟩
  obtain ⟨T, hT⟩ : ∃ T, T = ord.ps p p.length := ⟨_, rfl⟩
  rw [← hV0, ← hV1, ← hV2] at CV SI
  rw [← hT] at CS PS
  rw [← hV1, ← hV2, ← hT]
  clear hV0 hV1 hV2 hT
  obtain ⟨U, hU⟩ : ∃ U, U = s.up := ⟨_, rfl⟩
  rw [← hU] at hu ⊢
  have HU := Lib.hid hU
  clear hU
  obtain ⟨v2, v1, v0, vk⟩ := SI
  have vk : V0 ≤ 8000000000 := by omega
  obtain ⟨-, p0, p1, -, -, -, -, -, -, -, -, -, -⟩ := PS
  obtain ⟨T0, T1, T2, T3, T4, T5, T6⟩ := T
  dsimp only at p0 p1 CS ⊢
  have p1 : T1 ≤ 192000000000000 := by omega
  go_enter Try.func57, Try.ntmps57
  go_wp2_with fail
  refine CV.out.mono ?_
  rintro e w1 ⟨rfl, b1⟩
  have B2 := Lib.hid (b1.alloc b1.size (.cells #[.int .i64 V0, .int .i64 V1, .int .i64 V2] 72))
  have X2 := Blk.new w1 #[.int .i64 V0, .int .i64 V1, .int .i64 V2] 72 3 rfl
  have O2 := OBh.out.keep (w' := w1.alloc (.cells #[.int .i64 V0, .int .i64 V1, .int .i64 V2] 72)) (B2.out.block b bl)
  have z1 := b1.size
  have z2 : (w1.alloc (.cells #[.int .i64 V0, .int .i64 V1, .int .i64 V2] 72)).heap.size = w1.heap.size + 1 := by simp only [sz_al]
  clear b1 CV
  go_wp2_with fail
  obtain ⟨vb, hvb⟩ : ∃ vb, vb = w1.heap.size := ⟨_, rfl⟩
  rw [← hvb] at X2 z2 z1 ⊢
  clear hvb
  generalize w1.alloc (.cells #[.int .i64 V0, .int .i64 V1, .int .i64 V2] 72) = W2 at B2 X2 O2 z2 ⊢
  have c1 : W2.cell? ⟨vb, 1, none⟩ = some (.int .i64 V1) := X2.cell 1 (by decide)
  have c2 : W2.cell? ⟨vb, 2, none⟩ = some (.int .i64 V2) := X2.cell 2 (by decide)
  have c3 : W2.cell? ⟨b, 12, none⟩ = some (.int .i64 U) := by rw [HU.out]; exact O2.c12
  have BD := Lib.hid B2.out.drew
  have SD := Lib.hid (show W2.drew.cell? ⟨vb, 1, none⟩ = some (.int .i64 V1) ∧ W2.drew.cell? ⟨vb, 2, none⟩ = some (.int .i64 V2) ∧ W2.drew.cell? ⟨b, 12, none⟩ = some (.int .i64 U) from ⟨c1, c2, c3⟩)
  have SD2 := Lib.hid (show W2.drew.drew.cell? ⟨vb, 1, none⟩ = some (.int .i64 V1) ∧ W2.drew.drew.cell? ⟨vb, 2, none⟩ = some (.int .i64 V2) ∧ W2.drew.drew.cell? ⟨b, 12, none⟩ = some (.int .i64 U) from ⟨c1, c2, c3⟩)
  have BD2 := Lib.hid B2.out.drew.drew
  clear X2 O2
  have lb : b < W2.heap.size := by omega
  have lv : vb < W2.heap.size := by omega
  have fF : ∀ w0, (Instr.field 37 (.agg #[.int .i64 T0, .int .i64 T1, .int .i64 T2, .int .i64 T3, .int .i64 T4, .int .i64 T5, .int .i64 T6]) 1).run Try.prog w0 = .ok (.int .i64 T1) w0 := fun _ => rfl
  go_region_held3 (fun w' => w'.cell? ⟨vb, 1, none⟩ = some (.int .i64 V1) ∧ w'.cell? ⟨vb, 2, none⟩ = some (.int .i64 V2) ∧ w'.cell? ⟨b, 12, none⟩ = some (.int .i64 U)) (first | exact S3.out | exact SD.out | exact SD2.out | exact ⟨c1, c2, c3⟩ | go_keep)
    (first | (go_at_call 62; refine (CS.out _ ?_).mono ?_; (first | exact BD.out | exact BD2.out | exact B2.out); rintro e w3 ⟨rfl, b3⟩; have B3 := Lib.hid (B2.out.drew.trans (b3.mono B2.out.size)); have S3 := Lib.hid (show w3.cell? ⟨vb, 1, none⟩ = some (.int .i64 V1) ∧ w3.cell? ⟨vb, 2, none⟩ = some (.int .i64 V2) ∧ w3.cell? ⟨b, 12, none⟩ = some (.int .i64 U) from ⟨(b3.cell (p := ⟨vb, 1, none⟩) lv).trans c1, (b3.cell (p := ⟨vb, 2, none⟩) lv).trans c2, (b3.cell (p := ⟨b, 12, none⟩) lb).trans c3⟩); clear b3))
  all_goals
    go_wp2
    go_ret
    exact ⟨show Ending.returned (Value.bool (T1 == IntKind.i64.wrap (IntKind.i64.wrap (V1 - V2) - U))) = _ from by rw [show IntKind.i64.wrap (V1 - V2) = V1 - V2 from by rw [IntKind.wrap_i64]; omega, show IntKind.i64.wrap (V1 - V2 - U) = V1 - V2 - U from by rw [IntKind.wrap_i64]; omega], B3.out⟩
set_option maxRecDepth 40000 in
set_option maxHeartbeats 4000000 in
theorem okI (w : World) (B : Nat) (s : Sc) (ai : Option Addr) (ci gi : Nat) (l : List F4) (ap : Option Addr) (cp gp : Nat) (p : List (List F7)) (gs cs : Nat → Nat) (h : OL w B l p ai ci gi ap cp gp gs cs) (hl : l.length ≤ 1048577) (hn : p.length ≤ 1048577) (hm : ∀ i, i < p.length → (nth p i).length ≤ 1048577) :
    Calls Try.prog 17 #[.agg #[.int .i64 s.id, .int .i64 s.co, .int .i64 s.me, .int .i64 s.cu, .int .i64 s.da, .int .i64 s.nn, .int .i64 s.ra, .int .i64 s.nu, .int .i64 s.de, .slice ai l.length ci, .slice ap p.length cp, .int .i64 s.op, .int .i64 s.up]] w fun e w' => e = .returned (.bool (ord.ok s l p)) ∧ Below w.heap.size w w' := by
  have B0 := Lib.hid (show Below w.heap.size w (w.alloc (.cells #[.int .i64 s.id, .int .i64 s.co, .int .i64 s.me, .int .i64 s.cu, .int .i64 s.da, .int .i64 s.nn, .int .i64 s.ra, .int .i64 s.nu, .int .i64 s.de, .slice ai l.length ci, .slice ap p.length cp, .int .i64 s.op, .int .i64 s.up] 31)) from bAl (Below.refl _ _) (Nat.le_refl _) _)
  have O0 := Lib.hid (OB.new w s ai l.length ci ap p.length cp 31)
  have z0 : (w.alloc (.cells #[.int .i64 s.id, .int .i64 s.co, .int .i64 s.me, .int .i64 s.cu, .int .i64 s.da, .int .i64 s.nn, .int .i64 s.ra, .int .i64 s.nu, .int .i64 s.de, .slice ai l.length ci, .slice ap p.length cp, .int .i64 s.op, .int .i64 s.up] 31)).heap.size = w.heap.size + 1 := by simp only [sz_al]
  have L := Lib.hid h
  clear h
  obtain ⟨T, hT⟩ : ∃ T, T = ord.ok s l p := ⟨_, rfl⟩
  rw [← hT]
  have HT := Lib.hid hT
  have HM := Lib.hid hm
  clear hT hm
  go_enter Try.func17, Try.ntmps17
  go_wp2_with fail
  generalize w.alloc (.cells #[.int .i64 s.id, .int .i64 s.co, .int .i64 s.me, .int .i64 s.cu, .int .i64 s.da, .int .i64 s.nn, .int .i64 s.ra, .int .i64 s.nu, .int .i64 s.de, .slice ai l.length ci, .slice ap p.length cp, .int .i64 s.op, .int .i64 s.up] 31) = W0 at B0 O0 z0 ⊢
  refine (termsI W0 w.heap.size s ai l.length ci ap p.length cp O0.out).mono ?_
  rintro e w' ⟨rfl, rfl⟩
  cases t0 : ord.tok s
  · have NO := Lib.hid (show T = false from HT.out.trans (ok_no1 t0))
    go_wp2
    go_ret
    exact ⟨by rw [NO.out]; rfl, B0.out⟩
  · have TK := Lib.hid t0
    clear t0
    go_wp2_with fail
    refine (itemsI W0 w.heap.size s ai ci gi l ap p.length cp O0.out (L.out.below B0.out).items hl).mono ?_
    rintro e w1 ⟨rfl, b1⟩
    have B1 := Lib.hid (B0.out.trans (b1.mono B0.out.size))
    have O1 := Lib.hid (O0.out.keep (b1.block w.heap.size (by omega)))
    have z1 := b1.size
    clear b1
    cases t1 : itv l
    · have NO := Lib.hid (show T = false from HT.out.trans (ok_no2 t1))
      go_wp2
      go_ret
      exact ⟨by rw [NO.out]; rfl, B1.out⟩
    · have TI := Lib.hid t1
      clear t1
      go_wp2_with fail
      refine (plansI w1 w.heap.size s ai l.length ci ap cp gp p gs cs O1.out (L.out.below B1.out).plans hn HM.out).mono ?_
      rintro e w2 ⟨rfl, b2⟩
      have B2 := Lib.hid (B1.out.trans (b2.mono B1.out.size))
      have O2 := Lib.hid (O1.out.keep (b2.block w.heap.size (by omega)))
      clear b2
      cases t2 : plv p
      · have NO := Lib.hid (show T = false from HT.out.trans (ok_no3 t2))
        go_wp2
        go_ret
        exact ⟨by rw [NO.out]; rfl, B2.out⟩
      · have YES := Lib.hid (show T = bal s l p from HT.out.trans (ok_yes TK.out TI.out t2))
        have q2 := itv_iff.1 TI.out
        have q3 := plv_iff.1 t2
        have CB := Lib.hid (balI w2 w.heap.size s ai ci gi l ap cp gp p gs cs O2.out (L.out.below B2.out).items (L.out.below B2.out).plans q2.2.1 q2.2.2 q3.1 HM.out (tok_up TK.out))
        clear t2 q2 q3
        generalize bal s l p = t at YES CB
        go_wp2_with fail
        refine CB.out.mono ?_
        rintro e w3 ⟨rfl, b3⟩
        have B3 := Lib.hid (B2.out.trans (b3.mono B2.out.size))
        clear b3
        go_wp2
        go_ret
        exact ⟨by rw [YES.out]; rfl, B3.out⟩
end Go.Proofs.Ytmaejlfjdkkpdaa.ob
