/-
  Plain helpers of this seat's proofs: the contract of the landed OrderOk. Conditions: none.
-/
import Derived.Test.YtmaejlfjdkkpdaaSi
import Derived.Test.YtmaejlfjdkkpdaaSi4
import Derived.Test.YtmaejlfjdkkpdaaPkI
import Derived.Test.YtmaejlfjdkkpdaaBxs
import Derived.Test.YtmaejlfjdkkpdaaSmI
import Derived.Deep.RegionHeld3
namespace Go.Proofs.Ytmaejlfjdkkpdaa.ob
open Go.ChangeShapes Go.WideShapes Go.ChangeAt Go.RowKit
open gen
open seven (F7 zz Row At)
open four (F4)
open pl (inR)
open pls (nth Pls OL)
open ord (Sc iok)
noncomputable def itv (l : List F4) : Bool := @decide (1 ≤ l.length ∧ l.length ≤ 8 ∧ ord.IV l) (Classical.propDecidable _)
theorem itv_iff {l : List F4} : itv l = true ↔ 1 ≤ l.length ∧ l.length ≤ 8 ∧ ord.IV l := by unfold itv; simp
theorem itv_t {l : List F4} (h : 1 ≤ l.length ∧ l.length ≤ 8 ∧ ord.IV l) : itv l = true := itv_iff.2 h
theorem itv_f {l : List F4} (h : ¬ (1 ≤ l.length ∧ l.length ≤ 8 ∧ ord.IV l)) : itv l = false := by unfold itv; simp [h]
noncomputable def plv (p : List (List F7)) : Bool := @decide (p.length ≤ 8 ∧ ord.PVs p) (Classical.propDecidable _)
theorem plv_iff {p : List (List F7)} : plv p = true ↔ p.length ≤ 8 ∧ ord.PVs p := by unfold plv; simp
theorem plv_t {p : List (List F7)} (h : p.length ≤ 8 ∧ ord.PVs p) : plv p = true := plv_iff.2 h
theorem plv_f {p : List (List F7)} (h : ¬ (p.length ≤ 8 ∧ ord.PVs p)) : plv p = false := by unfold plv; simp [h]
set_option maxHeartbeats 2000000 in
theorem itemsI (w : World) (b : Nat) (s : Sc) (ai : Option Addr) (ci gi : Nat) (l : List F4) (ap : Option Addr) (np cp : Nat) (h : OB w b s ai l.length ci ap np cp) (r : four.Row w ai ci gi l) (hn : l.length ≤ 1048577) :
    Calls Try.prog 55 #[.pointer (some ⟨b, 0, none⟩)] w fun e w' => e = .returned (.bool (itv l)) ∧ Below w.heap.size w w' := by
  obtain ⟨T, hT⟩ : ∃ T, T = itv l := ⟨_, rfl⟩
  rw [← hT]
  have HT := Lib.hid hT
  have R := Lib.hid r
  have e1 := r.addr
  have m1 := r.room
  have y9 := h.c9
  clear hT r h
  obtain ⟨n, hnz⟩ : ∃ n, n = l.length := ⟨_, rfl⟩
  rw [← hnz] at hn e1 m1 y9
  have HNZ := Lib.hid hnz
  clear hnz
  by_cases h0 : n < 1
  · have u0 : decide ((n : Int) < 1) = true := by simp; omega
    have NO := Lib.hid (show T = false from HT.out.trans (itv_f fun h => by have := h.1; have := HNZ.out; omega))
    go_enter Try.func55, Try.ntmps55
    go_wp2
    go_ret
    exact ⟨by rw [NO.out]; rfl, Below.refl _ _⟩
  · have u0 : decide ((n : Int) < 1) = false := by simp; omega
    by_cases h8 : 8 < n
    · have u1 : decide ((8 : Int) < (n : Int)) = true := by simp; omega
      have u1' : decide (8 < n) = true := by simp; omega
      have NO := Lib.hid (show T = false from HT.out.trans (itv_f fun h => by have := h.2.1; have := HNZ.out; omega))
      go_enter Try.func55, Try.ntmps55
      go_wp2
      go_ret
      exact ⟨by rw [NO.out]; rfl, Below.refl _ _⟩
    · have u1 : decide ((8 : Int) < (n : Int)) = false := by simp; omega
      have u1' : decide (8 < n) = false := by simp; omega
      obtain rfl := e1 (by omega)
      clear e1
      go_enter Try.func55, Try.ntmps55
      go_wp2
      go_loopw [24] (fun i wr => Below w.heap.size w wr ∧ ∃ k : Nat, k ≤ n ∧ i = .int .i64 k ∧ ∀ j, j < k → iok (l.getD j four.zz) = true) (fun i _ => n - (intOf i).toNat)
      case atStart => exact ⟨Below.refl _ _, 0, by omega, rfl, fun j h => by omega⟩
      case round =>
        obtain ⟨hB, k, hk, rfl, hf⟩ := hrel
        have BB := Lib.hid hB
        have FF := Lib.hid hf
        clear hf
        by_cases hlt : k < n
        · have HLT := Lib.hid (show k < l.length from by rw [← HNZ.out]; exact hlt)
          have q1 := (R.out.cells k HLT.out).keep (hB.block gi (R.out.lt (by have := HLT.out; omega)))
          obtain ⟨x, hx⟩ : ∃ x, x = l.getD k four.zz := ⟨_, rfl⟩
          have HX := Lib.hid hx
          rw [← hx] at q1
          clear hx
          obtain ⟨x1, x2, x3, x4⟩ := q1
          have C := fun W => itemI x W
          obtain ⟨t, ht⟩ : ∃ t, t = iok x := ⟨_, rfl⟩
          rw [← ht] at C
          have HP := Lib.hid ht
          have z1 : (k : Int) < (n : Int) := by omega
          have v1 : decide (k < n) = true := by simp; omega
          clear ht hB
          cases t with
          | false =>
            have NO := Lib.hid (show T = false from HT.out.trans (itv_f fun h => by have := h.2.2 k HLT.out; rw [← HX.out, ← HP.out] at this; cases this))
            go_wp2_with fail
            refine (C _).mono ?_
            rintro e w1 ⟨rfl, hg⟩
            have G1 := Lib.hid (show Grew _ w1 from hg)
            clear hg
            go_wp2
            go_ret
            exact ⟨by rw [NO.out]; rfl, Grew.step BB.out (Nat.le_refl _) ((Grew.alloc wr _).trans G1.out)⟩
          | true =>
            go_wp2_with fail
            refine (C _).mono ?_
            rintro e w1 ⟨rfl, hg⟩
            have G1 := Lib.hid (show Grew _ w1 from hg)
            clear hg
            go_wp2
            go_roundw
            case rel => exact ⟨Grew.step BB.out (Nat.le_refl _) ((Grew.alloc wr _).trans G1.out), k + 1, by omega, by go_num, fun j hj => by
              by_cases e : j = k
              · subst e; rw [← HX.out]; exact HP.out.symm
              · exact FF.out j (by omega)⟩
            case measure => simp [intOf]; omega
        · have v1 : decide (k < n) = false := by simp; omega
          obtain rfl : k = n := by omega
          have YES := Lib.hid (show T = true from HT.out.trans (itv_t ⟨by rw [← HNZ.out]; omega, by rw [← HNZ.out]; omega, fun i hi => FF.out i (by rw [HNZ.out]; exact hi)⟩))
          clear hB
          go_wp2
          go_ret
          exact ⟨by rw [YES.out]; rfl, BB.out⟩
set_option maxHeartbeats 2000000 in
theorem plansI (w : World) (b : Nat) (s : Sc) (ai : Option Addr) (ni ci : Nat) (ap : Option Addr) (cp gp : Nat) (p : List (List F7)) (gs cs : Nat → Nat) (h : OB w b s ai ni ci ap p.length cp) (r : Pls w ap cp gp p gs cs) (hn : p.length ≤ 1048577) (hm : ∀ i, i < p.length → (nth p i).length ≤ 1048577) :
    Calls Try.prog 56 #[.pointer (some ⟨b, 0, none⟩)] w fun e w' => e = .returned (.bool (plv p)) ∧ Below w.heap.size w w' := by
  obtain ⟨T, hT⟩ : ∃ T, T = plv p := ⟨_, rfl⟩
  rw [← hT]
  have HT := Lib.hid hT
  have R := Lib.hid r
  have HM := Lib.hid hm
  have e1 := r.addr
  have m1 := r.room
  have y10 := h.c10
  clear hT r h hm
  obtain ⟨n, hnz⟩ : ∃ n, n = p.length := ⟨_, rfl⟩
  rw [← hnz] at hn e1 m1 y10
  have HNZ := Lib.hid hnz
  clear hnz
  by_cases h8 : 8 < n
  · have u1 : decide ((8 : Int) < (n : Int)) = true := by simp; omega
    have u1' : decide (8 < n) = true := by simp; omega
    have NO := Lib.hid (show T = false from HT.out.trans (plv_f fun h => by have := h.1; have := HNZ.out; omega))
    go_enter Try.func56, Try.ntmps56
    go_wp2
    go_ret
    exact ⟨by rw [NO.out]; rfl, Below.refl _ _⟩
  · have u1 : decide ((8 : Int) < (n : Int)) = false := by simp; omega
    have u1' : decide (8 < n) = false := by simp; omega
    rcases Nat.eq_zero_or_pos n with rfl | hp
    · have YES := Lib.hid (show T = true from HT.out.trans (plv_t ⟨by rw [← HNZ.out]; omega, fun i hi => absurd hi (by rw [← HNZ.out]; omega)⟩))
      clear e1
      go_enter Try.func56, Try.ntmps56
      go_wp2
      go_loop [16] (fun i => i = .int .i64 0) (fun _ => 0)
      case atStart => exact rfl
      case round =>
        obtain rfl := hrel
        go_wp2
        go_ret
        exact ⟨by rw [YES.out]; rfl, Below.refl _ _⟩
    · obtain rfl := e1 (by omega)
      clear e1
      go_enter Try.func56, Try.ntmps56
      go_wp2
      go_loopw [16] (fun i wr => Below w.heap.size w wr ∧ ∃ k : Nat, k ≤ n ∧ i = .int .i64 k ∧ ∀ j, j < k → pl.pv (nth p j) = true) (fun i _ => n - (intOf i).toNat)
      case atStart => exact ⟨Below.refl _ _, 0, by omega, rfl, fun j h => by omega⟩
      case round =>
        obtain ⟨hB, k, hk, rfl, hf⟩ := hrel
        have BB := Lib.hid hB
        have FF := Lib.hid hf
        clear hf
        by_cases hlt : k < n
        · have HLT := Lib.hid (show k < p.length from by rw [← HNZ.out]; exact hlt)
          have q1 := (R.out.below hB).cells k HLT.out
          have C := Lib.hid (fun W (hb : Below w.heap.size w W) => base.pkI W _ _ _ (nth p k) ((R.out.below hb).rows k HLT.out) (HM.out k HLT.out))
          obtain ⟨t, ht⟩ : ∃ t, t = pl.pv (nth p k) := ⟨_, rfl⟩
          rw [← ht] at C
          have HP := Lib.hid ht
          have z1 : (k : Int) < (n : Int) := by omega
          have v1 : decide (k < n) = true := by simp; omega
          clear ht hB
          generalize (nth p k).length = ln at q1 C
          generalize gs k = gk at q1 C
          generalize cs k = ck at q1 C
          have BA := Lib.hid (BB.out.alloc BB.out.size (.cells #[.slice (some ⟨gk, 0, none⟩) ln ck] 62))
          cases t with
          | false =>
            have NO := Lib.hid (show T = false from HT.out.trans (plv_f fun h => by have := h.2 k HLT.out; rw [show p.getD k [] = nth p k from rfl, ← HP.out] at this; cases this))
            go_wp2_with fail
            refine (C.out _ BA.out).mono ?_
            rintro e w1 ⟨rfl, b1⟩
            have B1 := Lib.hid (BA.out.trans (b1.mono BA.out.size))
            clear b1
            go_wp2
            go_ret
            exact ⟨by rw [NO.out]; rfl, B1.out⟩
          | true =>
            go_wp2_with fail
            refine (C.out _ BA.out).mono ?_
            rintro e w1 ⟨rfl, b1⟩
            have B1 := Lib.hid (BA.out.trans (b1.mono BA.out.size))
            clear b1
            go_wp2
            go_roundw
            case rel => exact ⟨B1.out, k + 1, by omega, by go_num, fun j hj => by
              by_cases e : j = k
              · subst e; exact HP.out.symm
              · exact FF.out j (by omega)⟩
            case measure => simp [intOf]; omega
        · have v1 : decide (k < n) = false := by simp; omega
          obtain rfl : k = n := by omega
          have YES := Lib.hid (show T = true from HT.out.trans (plv_t ⟨by rw [← HNZ.out]; omega, fun i hi => FF.out i (by rw [HNZ.out]; exact hi)⟩))
          clear hB
          go_wp2
          go_ret
          exact ⟨by rw [YES.out]; rfl, BB.out⟩
end Go.Proofs.Ytmaejlfjdkkpdaa.ob

namespace Go.Proofs.Ytmaejlfjdkkpdaa.ob
open Go.ChangeShapes Go.WideShapes Go.ChangeAt Go.RowKit
open gen
open seven (F7 zz Row At)
open four (F4)
open pl (inR)
open pls (nth Pls OL)
open ord (Sc iok)
set_option maxRecDepth 20000 in
set_option maxHeartbeats 2000000 in
theorem valuesI (w : World) (b : Nat) (s : Sc) (ai : Option Addr) (ci gi : Nat) (l : List F4) (ap : Option Addr) (np cp : Nat) (h : OB w b s ai l.length ci ap np cp) (r : four.Row w ai ci gi l) (hv : ord.IV l) (hn : l.length ≤ 8) :
    Calls Try.prog 61 #[.pointer (some ⟨b, 0, none⟩)] w fun e w' => e = .returned (.agg #[.int .i64 (ord.su ord.va l l.length), .int .i64 (ord.su ord.vs l l.length), .int .i64 (ord.su ord.vr l l.length)]) ∧ Below w.heap.size w w' := by
  have R := Lib.hid r
  have HV := Lib.hid hv
  have e1 := r.addr
  have m1 := r.room
  have B0 := Lib.hid (show Below w.heap.size w ((w.alloc (.cells #[.int .i64 0, .int .i64 0, .int .i64 0] 72)).alloc (.cells #[.int .i64 0, .int .i64 0, .int .i64 0] 72)) from bAl (bAl (Below.refl _ _) (Nat.le_refl _) _) (Nat.le_refl _) _)
  have X0 := Lib.hid ((Blk.new w #[.int .i64 0, .int .i64 0, .int .i64 0] 72 3 rfl).al (.cells #[.int .i64 0, .int .i64 0, .int .i64 0] 72))
  have X1 := Blk.new (w.alloc (.cells #[.int .i64 0, .int .i64 0, .int .i64 0] 72)) #[.int .i64 0, .int .i64 0, .int .i64 0] 72 3 rfl
  have z0 : ((w.alloc (.cells #[.int .i64 0, .int .i64 0, .int .i64 0] 72)).alloc (.cells #[.int .i64 0, .int .i64 0, .int .i64 0] 72)).heap.size = w.heap.size + 1 + 1 := by simp only [sz_al]
  simp only [sz_al] at X1
  have X1 := Lib.hid X1
  have y9 := (h.keep (B0.out.block b h.lt)).c9
  have bl := h.lt
  clear r h hv
  obtain ⟨n, hnz⟩ : ∃ n, n = l.length := ⟨_, rfl⟩
  rw [← hnz] at hn e1 m1 y9 ⊢
  have HNZ := Lib.hid hnz
  clear hnz
  go_enter Try.func61, Try.ntmps61
  go_wp2_with fail
  generalize (w.alloc (.cells #[.int .i64 0, .int .i64 0, .int .i64 0] 72)).alloc (.cells #[.int .i64 0, .int .i64 0, .int .i64 0] 72) = W0 at B0 X0 X1 z0 y9 ⊢
  rcases Nat.eq_zero_or_pos n with rfl | hp
  · clear e1
    have c0 : W0.cell? ⟨w.heap.size + 1, 0, none⟩ = some (.int .i64 0) := X1.out.cell 0 (by decide)
    have c1 : W0.cell? ⟨w.heap.size + 1, 1, none⟩ = some (.int .i64 0) := X1.out.cell 1 (by decide)
    have c2 : W0.cell? ⟨w.heap.size + 1, 2, none⟩ = some (.int .i64 0) := X1.out.cell 2 (by decide)
    have a0 : W0.cell? ⟨w.heap.size, 0, none⟩ = some (.int .i64 0) := X0.out.cell 0 (by decide)
    have a1 : W0.cell? ⟨w.heap.size, 1, none⟩ = some (.int .i64 0) := X0.out.cell 1 (by decide)
    have a2 : W0.cell? ⟨w.heap.size, 2, none⟩ = some (.int .i64 0) := X0.out.cell 2 (by decide)
    have f0 := X0.out.free 0
    have f1 := X0.out.free 1
    have f2 := X0.out.free 2
    go_loop [11] (fun i => i = .int .i64 0) (fun _ => 0)
    case atStart => exact rfl
    case round =>
      obtain rfl := hrel
      go_wp2
      have Y := (((X0.out.set (k := 0) (by decide) (.int .i64 0)).set (k := 1) (by decide) (.int .i64 0)).set (k := 2) (by decide) (.int .i64 0))
      have YB := (((B0.out.setCell (p := ⟨w.heap.size, 0, none⟩) (Nat.le_refl _) (.int .i64 0)).setCell (p := ⟨w.heap.size, 1, none⟩) (Nat.le_refl _) (.int .i64 0)).setCell (p := ⟨w.heap.size, 2, none⟩) (Nat.le_refl _) (.int .i64 0))
      change bodyPost _ _ _ _ _ (((W0.setCell ⟨w.heap.size, 0, none⟩ (.int .i64 0)).setCell ⟨w.heap.size, 1, none⟩ (.int .i64 0)).setCell ⟨w.heap.size, 2, none⟩ (.int .i64 0))
      generalize ((W0.setCell ⟨w.heap.size, 0, none⟩ (.int .i64 0)).setCell ⟨w.heap.size, 1, none⟩ (.int .i64 0)).setCell ⟨w.heap.size, 2, none⟩ (.int .i64 0) = W9 at Y YB ⊢
      have y0 : W9.cell? ⟨w.heap.size, 0, none⟩ = some (.int .i64 0) := Y.cell 0 (by decide)
      have y1 : W9.cell? ⟨w.heap.size, 1, none⟩ = some (.int .i64 0) := Y.cell 1 (by decide)
      have y2 : W9.cell? ⟨w.heap.size, 2, none⟩ = some (.int .i64 0) := Y.cell 2 (by decide)
      exact bodyPost_ret (v := .agg #[.int .i64 0, .int .i64 0, .int .i64 0]) (by simp [results, Try.results61, go_sem, y0, y1, y2]) rfl ⟨rfl, YB⟩
  · obtain rfl := e1 hp
    clear e1
    go_loopw [11] (fun i wr => Below w.heap.size w wr ∧ Blk wr w.heap.size 3 (cf #[.int .i64 0, .int .i64 0, .int .i64 0]) ∧ ∃ k : Nat, k ≤ n ∧ i = .int .i64 k ∧ Blk wr (w.heap.size + 1) 3 (cf #[.int .i64 (ord.su ord.va l k), .int .i64 (ord.su ord.vs l k), .int .i64 (ord.su ord.vr l k)])) (fun i _ => n - (intOf i).toNat)
    case atStart => exact ⟨B0.out, X0.out, 0, by omega, rfl, X1.out⟩
    case round =>
      obtain ⟨hB, hX, k, hk, rfl, hY⟩ := hrel
      have BB := Lib.hid hB
      have XX := Lib.hid hX
      have YY := Lib.hid hY
      have SI := ord.sums_in HV.out k (by rw [← HNZ.out]; exact hk)
      have c0 : wr.cell? ⟨w.heap.size + 1, 0, none⟩ = some (.int .i64 (ord.su ord.va l k)) := hY.cell 0 (by decide)
      have c1 : wr.cell? ⟨w.heap.size + 1, 1, none⟩ = some (.int .i64 (ord.su ord.vs l k)) := hY.cell 1 (by decide)
      have c2 : wr.cell? ⟨w.heap.size + 1, 2, none⟩ = some (.int .i64 (ord.su ord.vr l k)) := hY.cell 2 (by decide)
      have lw := hY.lt
      obtain ⟨S0, hS0⟩ : ∃ S, S = ord.su ord.va l k := ⟨_, rfl⟩
      obtain ⟨S1, hS1⟩ : ∃ S, S = ord.su ord.vs l k := ⟨_, rfl⟩
      obtain ⟨S2, hS2⟩ : ∃ S, S = ord.su ord.vr l k := ⟨_, rfl⟩
      rw [← hS0] at c0 SI YY
      rw [← hS1] at c1 SI YY
      rw [← hS2] at c2 SI YY
      have H0 := Lib.hid hS0
      have H1 := Lib.hid hS1
      have H2 := Lib.hid hS2
      obtain ⟨s2, s1, s0, sk⟩ := SI
      have sk : S0 ≤ 8000000000 := by omega
      clear hS0 hS1 hS2 hX hY
      by_cases hlt : k < n
      · have HLT := Lib.hid (show k < l.length from by rw [← HNZ.out]; exact hlt)
        have glt := R.out.lt (by have := HLT.out; omega)
        have q1 := (R.out.cells k HLT.out).keep (hB.block gi glt)
        have IN := ord.iok_iff.1 (HV.out k HLT.out)
        have VL := IN.vals
        obtain ⟨x, hx⟩ : ∃ x, x = l.getD k four.zz := ⟨_, rfl⟩
        have HX := Lib.hid hx
        rw [← hx] at q1 VL
        clear hx IN hB
        obtain ⟨q, p, sh, r⟩ := x
        obtain ⟨x1, x2, x3, x4⟩ := q1
        unfold ord.vr ord.vs ord.va at VL
        dsimp only at x1 x2 x3 x4 VL
        obtain ⟨v0, hv0⟩ : ∃ v, v = p * q := ⟨_, rfl⟩
        obtain ⟨v1, hv1⟩ : ∃ v, v = p * sh := ⟨_, rfl⟩
        obtain ⟨v2, hv2⟩ : ∃ v, v = p * r := ⟨_, rfl⟩
        rw [← hv0, ← hv1, ← hv2] at VL
        obtain ⟨w2, w1, w0, wk⟩ := VL
        have m0 : IntKind.i64.wrap (p * q) = v0 := by rw [← hv0, IntKind.wrap_i64]; omega
        have m1' : IntKind.i64.wrap (p * sh) = v1 := by rw [← hv1, IntKind.wrap_i64]; omega
        have m2 : IntKind.i64.wrap (p * r) = v2 := by rw [← hv2, IntKind.wrap_i64]; omega
        have K0 := Lib.hid (show S0 + v0 = ord.su ord.va l (k + 1) from by rw [H0.out, hv0]; show _ = _ + ord.va _; rw [← HX.out]; rfl)
        have K1 := Lib.hid (show S1 + v1 = ord.su ord.vs l (k + 1) from by rw [H1.out, hv1]; show _ = _ + ord.vs _; rw [← HX.out]; rfl)
        have K2 := Lib.hid (show S2 + v2 = ord.su ord.vr l (k + 1) from by rw [H2.out, hv2]; show _ = _ + ord.vr _; rw [← HX.out]; rfl)
        have f0 := YY.out.free 0
        have f1 := YY.out.free 1
        have f2 := YY.out.free 2
        have z1 : (k : Int) < (n : Int) := by omega
        have u1 : decide (k < n) = true := by simp; omega
        clear hv0 hv1 hv2 glt
        go_wp2
        go_roundw
        case rel =>
          refine ⟨((((BB.out.setCell (p := ⟨w.heap.size + 1, 0, none⟩) (show w.heap.size ≤ w.heap.size + 1 by omega) _).setCell (p := ⟨w.heap.size + 1, 1, none⟩) (show w.heap.size ≤ w.heap.size + 1 by omega) _).setCell (p := ⟨w.heap.size + 1, 2, none⟩) (show w.heap.size ≤ w.heap.size + 1 by omega) _).alloc (by simp only [sz_set]; exact BB.out.size) _), (((XX.out.other (by omega) _).other (by omega) _).other (by omega) _).al _, k + 1, by omega, by go_num, ?_⟩
          rw [← K0.out, ← K1.out, ← K2.out]
          refine ((((YY.out.set (by decide) _).set (by decide) _).set (by decide) _).al _).same fun j hj => ?_
          match j, hj with
          | 0, _ => rfl
          | 1, _ => rfl
          | 2, _ => rfl
        case measure => simp [intOf]; omega
      · have u1 : decide (k < n) = false := by simp; omega
        obtain rfl : k = n := by omega
        have a0 : wr.cell? ⟨w.heap.size, 0, none⟩ = some (.int .i64 0) := XX.out.cell 0 (by decide)
        have a1 : wr.cell? ⟨w.heap.size, 1, none⟩ = some (.int .i64 0) := XX.out.cell 1 (by decide)
        have a2 : wr.cell? ⟨w.heap.size, 2, none⟩ = some (.int .i64 0) := XX.out.cell 2 (by decide)
        have f0 := XX.out.free 0
        have f1 := XX.out.free 1
        have f2 := XX.out.free 2
        clear hB
        go_wp2
        have Y := (((XX.out.set (k := 0) (by decide) (.int .i64 S0)).set (k := 1) (by decide) (.int .i64 S1)).set (k := 2) (by decide) (.int .i64 S2))
        have YB := (((BB.out.setCell (p := ⟨w.heap.size, 0, none⟩) (Nat.le_refl _) (.int .i64 S0)).setCell (p := ⟨w.heap.size, 1, none⟩) (Nat.le_refl _) (.int .i64 S1)).setCell (p := ⟨w.heap.size, 2, none⟩) (Nat.le_refl _) (.int .i64 S2))
        change bodyPost _ _ _ _ _ (((wr.setCell ⟨w.heap.size, 0, none⟩ (.int .i64 S0)).setCell ⟨w.heap.size, 1, none⟩ (.int .i64 S1)).setCell ⟨w.heap.size, 2, none⟩ (.int .i64 S2))
        generalize ((wr.setCell ⟨w.heap.size, 0, none⟩ (.int .i64 S0)).setCell ⟨w.heap.size, 1, none⟩ (.int .i64 S1)).setCell ⟨w.heap.size, 2, none⟩ (.int .i64 S2) = W9 at Y YB ⊢
        have y0 : W9.cell? ⟨w.heap.size, 0, none⟩ = some (.int .i64 S0) := Y.cell 0 (by decide)
        have y1 : W9.cell? ⟨w.heap.size, 1, none⟩ = some (.int .i64 S1) := Y.cell 1 (by decide)
        have y2 : W9.cell? ⟨w.heap.size, 2, none⟩ = some (.int .i64 S2) := Y.cell 2 (by decide)
        exact bodyPost_ret (v := .agg #[.int .i64 S0, .int .i64 S1, .int .i64 S2]) (by simp [results, Try.results61, go_sem, y0, y1, y2]) rfl ⟨by rw [H0.out, H1.out, H2.out], YB⟩
end Go.Proofs.Ytmaejlfjdkkpdaa.ob

namespace Go.Proofs.Ytmaejlfjdkkpdaa.ob
open Go.ChangeShapes Go.WideShapes Go.ChangeAt Go.RowKit
open gen
open seven (F7 zz Row At)
open four (F4)
open pl (inR)
open pls (nth Pls OL)
open ord (Sc iok)
set_option maxRecDepth 40000 in
set_option maxHeartbeats 4000000 in
theorem sumsI (w : World) (b : Nat) (s : Sc) (ai : Option Addr) (ni ci : Nat) (ap : Option Addr) (cp gp : Nat) (p : List (List F7)) (gs cs : Nat → Nat) (h : OB w b s ai ni ci ap p.length cp) (r : Pls w ap cp gp p gs cs) (hn : p.length ≤ 8) (hm : ∀ i, i < p.length → (nth p i).length ≤ 1048577) :
    Calls Try.prog 62 #[.pointer (some ⟨b, 0, none⟩)] w fun e w' => e = .returned (.agg #[.int .i64 (ord.ps p p.length).1, .int .i64 (ord.ps p p.length).2.1, .int .i64 (ord.ps p p.length).2.2.1, .int .i64 (ord.ps p p.length).2.2.2.1, .int .i64 (ord.ps p p.length).2.2.2.2.1, .int .i64 (ord.ps p p.length).2.2.2.2.2.1, .int .i64 (ord.ps p p.length).2.2.2.2.2.2]) ∧ Below w.heap.size w w' := by
  have R := Lib.hid r
  have HM := Lib.hid hm
  have e1 := r.addr
  have m1 := r.room
  have B0 := Lib.hid (show Below w.heap.size w ((w.alloc (.cells #[.int .i64 0, .int .i64 0, .int .i64 0, .int .i64 0, .int .i64 0, .int .i64 0, .int .i64 0] 37)).alloc (.cells #[.int .i64 0, .int .i64 0, .int .i64 0, .int .i64 0, .int .i64 0, .int .i64 0, .int .i64 0] 37)) from bAl (bAl (Below.refl _ _) (Nat.le_refl _) _) (Nat.le_refl _) _)
  have X0 := (base.Bx.zero w).keep (Below.heap_alloc (w.alloc (.cells #[.int .i64 0, .int .i64 0, .int .i64 0, .int .i64 0, .int .i64 0, .int .i64 0, .int .i64 0] 37)) (.cells #[.int .i64 0, .int .i64 0, .int .i64 0, .int .i64 0, .int .i64 0, .int .i64 0, .int .i64 0] 37) w.heap.size (by simp))
  have Y0 := base.Bx.zero (w.alloc (.cells #[.int .i64 0, .int .i64 0, .int .i64 0, .int .i64 0, .int .i64 0, .int .i64 0, .int .i64 0] 37))
  have z0 : ((w.alloc (.cells #[.int .i64 0, .int .i64 0, .int .i64 0, .int .i64 0, .int .i64 0, .int .i64 0, .int .i64 0] 37)).alloc (.cells #[.int .i64 0, .int .i64 0, .int .i64 0, .int .i64 0, .int .i64 0, .int .i64 0, .int .i64 0] 37)).heap.size = w.heap.size + 1 + 1 := by simp only [sz_al]
  simp only [sz_al] at Y0
  have y10 := (h.keep (B0.out.block b h.lt)).c10
  have bl := h.lt
  clear r h hm
  obtain ⟨n, hnz⟩ : ∃ n, n = p.length := ⟨_, rfl⟩
  rw [← hnz] at hn e1 m1 y10 ⊢
  have HNZ := Lib.hid hnz
  clear hnz
  go_enter Try.func62, Try.ntmps62
  go_wp2_with fail
  generalize (w.alloc (.cells #[.int .i64 0, .int .i64 0, .int .i64 0, .int .i64 0, .int .i64 0, .int .i64 0, .int .i64 0] 37)).alloc (.cells #[.int .i64 0, .int .i64 0, .int .i64 0, .int .i64 0, .int .i64 0, .int .i64 0, .int .i64 0] 37) = W0 at B0 X0 Y0 z0 y10 ⊢
  rcases Nat.eq_zero_or_pos n with rfl | hp
  · clear e1
    go_loop [11] (fun i => i = .int .i64 0) (fun _ => 0)
    case atStart => exact rfl
    case round =>
      obtain rfl := hrel
      obtain ⟨t, ht⟩ : ∃ t, t = zz := ⟨_, rfl⟩
      rw [← ht] at Y0
      have HT := Lib.hid ht
      clear ht
      have S := base.st7_at X0.at_ t
      have SB := Lib.hid (base.st7_below B0.out (Nat.le_refl w.heap.size) t)
      obtain ⟨v0, v1, v2, v3, v4, v5, v6⟩ := Y0.at_
      obtain ⟨a0, a1, a2, a3, a4, a5, a6⟩ := X0.at_
      have f0 := X0.free 0
      have f1 := X0.free 1
      have f2 := X0.free 2
      have f3 := X0.free 3
      have f4 := X0.free 4
      have f5 := X0.free 5
      have f6 := X0.free 6
      simp only [zz, Nat.zero_add] at v0 v1 v2 v3 v4 v5 v6 a0 a1 a2 a3 a4 a5 a6
      go_wp2
      change bodyPost _ _ _ _ _ (base.st7 W0 w.heap.size t)
      generalize base.st7 W0 w.heap.size t = W9 at S SB ⊢
      obtain ⟨c0, c1, c2, c3, c4, c5, c6⟩ := S
      simp only [Nat.zero_add] at c0 c1 c2 c3 c4 c5 c6
      exact bodyPost_ret (v := .agg #[.int .i64 t.1, .int .i64 t.2.1, .int .i64 t.2.2.1, .int .i64 t.2.2.2.1, .int .i64 t.2.2.2.2.1, .int .i64 t.2.2.2.2.2.1, .int .i64 t.2.2.2.2.2.2]) (by simp [results, Try.results62, go_sem, c0, c1, c2, c3, c4, c5, c6]) rfl ⟨by rw [HT.out]; rfl, SB.out⟩
  · obtain rfl := e1 hp
    clear e1
    go_loopw [11] (fun i wr => Below w.heap.size w wr ∧ w.heap.size + 1 < wr.heap.size ∧ base.Bx wr w.heap.size zz ∧ ∃ k : Nat, k ≤ n ∧ i = .int .i64 k ∧ base.Bx wr (w.heap.size + 1) (ord.ps p k)) (fun i _ => n - (intOf i).toNat)
    case atStart => exact ⟨B0.out, by omega, X0, 0, by omega, rfl, Y0⟩
    case round =>
      obtain ⟨hB, hsz, hX, k, hk, rfl, hY⟩ := hrel
      have BB := Lib.hid hB
      clear X0 Y0 z0 y10
      by_cases hlt : k < n
      · have XX := Lib.hid hX
        have YY := Lib.hid hY
        have HLT := Lib.hid (show k < p.length from by rw [← HNZ.out]; exact hlt)
        have q1 := (R.out.below hB).cells k HLT.out
        have CS := Lib.hid (fun W (hb : Below w.heap.size w W) => base.smI W _ _ _ (nth p k) ((R.out.below hb).rows k HLT.out) (HM.out k HLT.out))
        have PS := Lib.hid (ord.ps_sin p k)
        have TS := Lib.hid (ord.sums_sin (nth p k))
        have NX : ord.ps p (k + 1) = pl.add (ord.ps p k) (pl.sums (nth p k)) := rfl
        obtain ⟨T, hT⟩ : ∃ T, T = pl.sums (nth p k) := ⟨_, rfl⟩
        rw [← hT] at CS NX TS
        clear hT
        obtain ⟨S, hS⟩ : ∃ S, S = ord.ps p k := ⟨_, rfl⟩
        rw [← hS] at NX YY PS
        have NX := Lib.hid NX
        clear hS hB hX hY
        generalize (nth p k).length = ln at q1 CS
        generalize gs k = gk at q1 CS
        generalize cs k = ck at q1 CS
        have BA := Lib.hid (BB.out.alloc BB.out.size (.cells #[.slice (some ⟨gk, 0, none⟩) ln ck] 62))
        have z1 : (k : Int) < (n : Int) := by omega
        have v1 : decide (k < n) = true := by simp; omega
        go_wp2_with fail
        refine (CS.out _ BA.out).mono ?_
        rintro e w1 ⟨rfl, b1⟩
        have B1 := Lib.hid (BA.out.trans (b1.mono BA.out.size))
        have z1' := b1.size
        simp only [sz_al] at z1'
        have kp : ∀ c, c < wr.heap.size → w1.heap[c]? = wr.heap[c]? := fun c hc => (b1.block c (by simp only [sz_al]; omega)).trans (Below.heap_alloc wr _ c hc)
        have X1 := Lib.hid (XX.out.keep (kp w.heap.size (by omega)))
        have Y1 := YY.out.keep (kp (w.heap.size + 1) hsz)
        have AD := Lib.hid (base.addI w1 (w.heap.size + 1) S T Y1.at_ Y1.free (show pl.Sin 1000 S from by
          obtain ⟨a0, a1, a2, a3, a4, a5, a6, a7, a8, a9, b0, b1, b2⟩ := PS.out
          exact ⟨a0, a1, by omega, a3, by omega, a5, by omega, a7, a8, a9, b0, b1, b2⟩) (base.Bd.sin TS.out))
        clear b1 kp Y1
        go_wp2_with fail
        refine AD.out.mono ?_
        rintro e w3 ⟨⟨v, rfl⟩, ha, hf, ht⟩
        have T3 := Lib.hid ht
        have Y3 := Lib.hid (show base.Bx w3 (w.heap.size + 1) (ord.ps p (k + 1)) from ⟨by rw [NX.out]; exact ha, hf⟩)
        clear ha hf ht AD
        go_wp2
        go_roundw
        case rel => exact ⟨B1.out.trans (T3.out.below (by omega)), by have := T3.out.1.size; omega, X1.out.keep (T3.out.2 w.heap.size (by omega) (by omega)), k + 1, by omega, by go_num, Y3.out⟩
        case measure => simp [intOf]; omega
      · have u1 : decide (k < n) = false := by simp; omega
        obtain rfl : k = n := by omega
        obtain ⟨t, ht⟩ : ∃ t, t = ord.ps p k := ⟨_, rfl⟩
        rw [← ht] at hY
        have HT := Lib.hid ht
        clear ht hB
        have S := base.st7_at hX.at_ t
        have SB := Lib.hid (base.st7_below BB.out (Nat.le_refl w.heap.size) t)
        obtain ⟨v0, v1, v2, v3, v4, v5, v6⟩ := hY.at_
        obtain ⟨a0, a1, a2, a3, a4, a5, a6⟩ := hX.at_
        have f0 := hX.free 0
        have f1 := hX.free 1
        have f2 := hX.free 2
        have f3 := hX.free 3
        have f4 := hX.free 4
        have f5 := hX.free 5
        have f6 := hX.free 6
        simp only [zz, Nat.zero_add] at v0 v1 v2 v3 v4 v5 v6 a0 a1 a2 a3 a4 a5 a6
        go_wp2
        change bodyPost _ _ _ _ _ (base.st7 wr w.heap.size t)
        generalize base.st7 wr w.heap.size t = W9 at S SB ⊢
        obtain ⟨c0, c1, c2, c3, c4, c5, c6⟩ := S
        simp only [Nat.zero_add] at c0 c1 c2 c3 c4 c5 c6
        exact bodyPost_ret (v := .agg #[.int .i64 t.1, .int .i64 t.2.1, .int .i64 t.2.2.1, .int .i64 t.2.2.2.1, .int .i64 t.2.2.2.2.1, .int .i64 t.2.2.2.2.2.1, .int .i64 t.2.2.2.2.2.2]) (by simp [results, Try.results62, go_sem, c0, c1, c2, c3, c4, c5, c6]) rfl ⟨by rw [HT.out], SB.out⟩
end Go.Proofs.Ytmaejlfjdkkpdaa.ob

namespace Go.Proofs.Ytmaejlfjdkkpdaa.ob
open Go.ChangeShapes Go.WideShapes Go.ChangeAt Go.RowKit
open gen
open seven (F7 zz Row At)
open four (F4)
open pl (inR)
open pls (nth Pls OL)
open ord (Sc iok)
/-- The sums fit together. -/
noncomputable def bal (s : Sc) (l : List F4) (p : List (List F7)) : Bool := (ord.ps p p.length).2.1 == ord.su ord.vs l l.length - ord.su ord.vr l l.length - s.up
theorem ok_no1 {s : Sc} {l : List F4} {p : List (List F7)} (h : ord.tok s = false) : ord.ok s l p = false := ord.ok_f fun k => by rw [k.t] at h; cases h
theorem ok_no2 {s : Sc} {l : List F4} {p : List (List F7)} (h : itv l = false) : ord.ok s l p = false := ord.ok_f fun k => by rw [itv_t ⟨k.i0, k.i1, k.iv⟩] at h; cases h
theorem ok_no3 {s : Sc} {l : List F4} {p : List (List F7)} (h : plv p = false) : ord.ok s l p = false := ord.ok_f fun k => by rw [plv_t ⟨k.p1, k.pv⟩] at h; cases h
theorem ok_yes {s : Sc} {l : List F4} {p : List (List F7)} (h1 : ord.tok s = true) (h2 : itv l = true) (h3 : plv p = true) : ord.ok s l p = bal s l p := by
  have q2 := itv_iff.1 h2
  have q3 := plv_iff.1 h3
  unfold bal
  cases h : ((ord.ps p p.length).2.1 == ord.su ord.vs l l.length - ord.su ord.vr l l.length - s.up) with
  | true => exact ord.ok_t ⟨h1, q2.1, q2.2.1, q2.2.2, q3.1, q3.2, by simpa using h⟩
  | false => exact ord.ok_f fun k => by have := k.bal; simp at h; exact h this
theorem tok_up {s : Sc} (h : ord.tok s = true) : 0 ≤ s.up ∧ s.up ≤ 1000000000000 := by
  unfold ord.tok at h
  simp only [Bool.and_eq_true, pl.inR_iff] at h
  exact h.2
set_option maxRecDepth 40000 in
set_option maxHeartbeats 4000000 in
theorem balI (w : World) (b : Nat) (s : Sc) (ai : Option Addr) (ci gi : Nat) (l : List F4) (ap : Option Addr) (cp gp : Nat) (p : List (List F7)) (gs cs : Nat → Nat) (h : OB w b s ai l.length ci ap p.length cp) (ri : four.Row w ai ci gi l) (rp : Pls w ap cp gp p gs cs) (hl : l.length ≤ 8) (hv : ord.IV l) (hn : p.length ≤ 8) (hm : ∀ i, i < p.length → (nth p i).length ≤ 1048577) (hu : 0 ≤ s.up ∧ s.up ≤ 1000000000000) :
    Calls Try.prog 57 #[.pointer (some ⟨b, 0, none⟩)] w fun e w' => e = .returned (.bool (bal s l p)) ∧ Below w.heap.size w w' := by
  have CV := Lib.hid (valuesI w b s ai ci gi l ap p.length cp h ri hv hl)
  have CS := Lib.hid (fun W (hb : Below w.heap.size w W) => sumsI W b s ai l.length ci ap cp gp p gs cs (h.keep (hb.block b h.lt)) (rp.below hb) hn hm)
  have OBh := Lib.hid h
  have SI := ord.sums_in hv l.length (Nat.le_refl _)
  have PS := ord.ps_sin p p.length
  have bl := h.lt
  unfold bal
  clear h ri rp hv hm
  obtain ⟨V0, hV0⟩ : ∃ V, V = ord.su ord.va l l.length := ⟨_, rfl⟩
  obtain ⟨V1, hV1⟩ : ∃ V, V = ord.su ord.vs l l.length := ⟨_, rfl⟩
  obtain ⟨V2, hV2⟩ : ∃ V, V = ord.su ord.vr l l.length := ⟨_, rfl⟩
  obtain ⟨T, hT⟩ : ∃ T, T = ord.ps p p.length := ⟨_, rfl⟩
  rw [← hV0, ← hV1, ← hV2] at CV SI
  rw [← hT] at CS PS
  rw [← hV1, ← hV2, ← hT]
  clear hV0 hV1 hV2 hT
  obtain ⟨U, hU⟩ : ∃ U, U = s.up := ⟨_, rfl⟩
  rw [← hU] at hu ⊢
  have HU := Lib.hid hU
  clear hU
  obtain ⟨v2, v1, v0, vk⟩ := SI
  have vk : V0 ≤ 8000000000 := by omega
  obtain ⟨-, p0, p1, -, -, -, -, -, -, -, -, -, -⟩ := PS
  obtain ⟨T0, T1, T2, T3, T4, T5, T6⟩ := T
  dsimp only at p0 p1 CS ⊢
  have p1 : T1 ≤ 192000000000000 := by omega
  go_enter Try.func57, Try.ntmps57
  go_wp2_with fail
  refine CV.out.mono ?_
  rintro e w1 ⟨rfl, b1⟩
  have B2 := Lib.hid (b1.alloc b1.size (.cells #[.int .i64 V0, .int .i64 V1, .int .i64 V2] 72))
  have X2 := Blk.new w1 #[.int .i64 V0, .int .i64 V1, .int .i64 V2] 72 3 rfl
  have O2 := OBh.out.keep (w' := w1.alloc (.cells #[.int .i64 V0, .int .i64 V1, .int .i64 V2] 72)) (B2.out.block b bl)
  have z1 := b1.size
  have z2 : (w1.alloc (.cells #[.int .i64 V0, .int .i64 V1, .int .i64 V2] 72)).heap.size = w1.heap.size + 1 := by simp only [sz_al]
  clear b1 CV
  go_wp2_with fail
  obtain ⟨vb, hvb⟩ : ∃ vb, vb = w1.heap.size := ⟨_, rfl⟩
  rw [← hvb] at X2 z2 z1 ⊢
  clear hvb
  generalize w1.alloc (.cells #[.int .i64 V0, .int .i64 V1, .int .i64 V2] 72) = W2 at B2 X2 O2 z2 ⊢
  have c1 : W2.cell? ⟨vb, 1, none⟩ = some (.int .i64 V1) := X2.cell 1 (by decide)
  have c2 : W2.cell? ⟨vb, 2, none⟩ = some (.int .i64 V2) := X2.cell 2 (by decide)
  have c3 : W2.cell? ⟨b, 12, none⟩ = some (.int .i64 U) := by rw [HU.out]; exact O2.c12
  have BD := Lib.hid B2.out.drew
  have SD := Lib.hid (show W2.drew.cell? ⟨vb, 1, none⟩ = some (.int .i64 V1) ∧ W2.drew.cell? ⟨vb, 2, none⟩ = some (.int .i64 V2) ∧ W2.drew.cell? ⟨b, 12, none⟩ = some (.int .i64 U) from ⟨c1, c2, c3⟩)
  have SD2 := Lib.hid (show W2.drew.drew.cell? ⟨vb, 1, none⟩ = some (.int .i64 V1) ∧ W2.drew.drew.cell? ⟨vb, 2, none⟩ = some (.int .i64 V2) ∧ W2.drew.drew.cell? ⟨b, 12, none⟩ = some (.int .i64 U) from ⟨c1, c2, c3⟩)
  have BD2 := Lib.hid B2.out.drew.drew
  clear X2 O2
  have lb : b < W2.heap.size := by omega
  have lv : vb < W2.heap.size := by omega
  have fF : ∀ w0, (Instr.field 37 (.agg #[.int .i64 T0, .int .i64 T1, .int .i64 T2, .int .i64 T3, .int .i64 T4, .int .i64 T5, .int .i64 T6]) 1).run Try.prog w0 = .ok (.int .i64 T1) w0 := fun _ => rfl
  go_region_held3 (fun w' => w'.cell? ⟨vb, 1, none⟩ = some (.int .i64 V1) ∧ w'.cell? ⟨vb, 2, none⟩ = some (.int .i64 V2) ∧ w'.cell? ⟨b, 12, none⟩ = some (.int .i64 U)) (first | exact S3.out | exact SD.out | exact SD2.out | exact ⟨c1, c2, c3⟩ | go_keep)
    (first | (go_at_call 62; refine (CS.out _ ?_).mono ?_; (first | exact BD.out | exact BD2.out | exact B2.out); rintro e w3 ⟨rfl, b3⟩; have B3 := Lib.hid (B2.out.drew.trans (b3.mono B2.out.size)); have S3 := Lib.hid (show w3.cell? ⟨vb, 1, none⟩ = some (.int .i64 V1) ∧ w3.cell? ⟨vb, 2, none⟩ = some (.int .i64 V2) ∧ w3.cell? ⟨b, 12, none⟩ = some (.int .i64 U) from ⟨(b3.cell (p := ⟨vb, 1, none⟩) lv).trans c1, (b3.cell (p := ⟨vb, 2, none⟩) lv).trans c2, (b3.cell (p := ⟨b, 12, none⟩) lb).trans c3⟩); clear b3))
  all_goals
    go_wp2
    go_ret
    exact ⟨show Ending.returned (Value.bool (T1 == IntKind.i64.wrap (IntKind.i64.wrap (V1 - V2) - U))) = _ from by rw [show IntKind.i64.wrap (V1 - V2) = V1 - V2 from by rw [IntKind.wrap_i64]; omega, show IntKind.i64.wrap (V1 - V2 - U) = V1 - V2 - U from by rw [IntKind.wrap_i64]; omega], B3.out⟩
set_option maxRecDepth 40000 in
set_option maxHeartbeats 4000000 in
theorem okI (w : World) (B : Nat) (s : Sc) (ai : Option Addr) (ci gi : Nat) (l : List F4) (ap : Option Addr) (cp gp : Nat) (p : List (List F7)) (gs cs : Nat → Nat) (h : OL w B l p ai ci gi ap cp gp gs cs) (hl : l.length ≤ 1048577) (hn : p.length ≤ 1048577) (hm : ∀ i, i < p.length → (nth p i).length ≤ 1048577) :
    Calls Try.prog 17 #[.agg #[.int .i64 s.id, .int .i64 s.co, .int .i64 s.me, .int .i64 s.cu, .int .i64 s.da, .int .i64 s.nn, .int .i64 s.ra, .int .i64 s.nu, .int .i64 s.de, .slice ai l.length ci, .slice ap p.length cp, .int .i64 s.op, .int .i64 s.up]] w fun e w' => e = .returned (.bool (ord.ok s l p)) ∧ Below w.heap.size w w' := by
  have B0 := Lib.hid (show Below w.heap.size w (w.alloc (.cells #[.int .i64 s.id, .int .i64 s.co, .int .i64 s.me, .int .i64 s.cu, .int .i64 s.da, .int .i64 s.nn, .int .i64 s.ra, .int .i64 s.nu, .int .i64 s.de, .slice ai l.length ci, .slice ap p.length cp, .int .i64 s.op, .int .i64 s.up] 31)) from bAl (Below.refl _ _) (Nat.le_refl _) _)
  have O0 := Lib.hid (OB.new w s ai l.length ci ap p.length cp 31)
  have z0 : (w.alloc (.cells #[.int .i64 s.id, .int .i64 s.co, .int .i64 s.me, .int .i64 s.cu, .int .i64 s.da, .int .i64 s.nn, .int .i64 s.ra, .int .i64 s.nu, .int .i64 s.de, .slice ai l.length ci, .slice ap p.length cp, .int .i64 s.op, .int .i64 s.up] 31)).heap.size = w.heap.size + 1 := by simp only [sz_al]
  have L := Lib.hid h
  clear h
  obtain ⟨T, hT⟩ : ∃ T, T = ord.ok s l p := ⟨_, rfl⟩
  rw [← hT]
  have HT := Lib.hid hT
  have HM := Lib.hid hm
  clear hT hm
  go_enter Try.func17, Try.ntmps17
  go_wp2_with fail
  generalize w.alloc (.cells #[.int .i64 s.id, .int .i64 s.co, .int .i64 s.me, .int .i64 s.cu, .int .i64 s.da, .int .i64 s.nn, .int .i64 s.ra, .int .i64 s.nu, .int .i64 s.de, .slice ai l.length ci, .slice ap p.length cp, .int .i64 s.op, .int .i64 s.up] 31) = W0 at B0 O0 z0 ⊢
  refine (termsI W0 w.heap.size s ai l.length ci ap p.length cp O0.out).mono ?_
  rintro e w' ⟨rfl, rfl⟩
  cases t0 : ord.tok s
  · have NO := Lib.hid (show T = false from HT.out.trans (ok_no1 t0))
    go_wp2
    go_ret
    exact ⟨by rw [NO.out]; rfl, B0.out⟩
  · have TK := Lib.hid t0
    clear t0
    go_wp2_with fail
    refine (itemsI W0 w.heap.size s ai ci gi l ap p.length cp O0.out (L.out.below B0.out).items hl).mono ?_
    rintro e w1 ⟨rfl, b1⟩
    have B1 := Lib.hid (B0.out.trans (b1.mono B0.out.size))
    have O1 := Lib.hid (O0.out.keep (b1.block w.heap.size (by omega)))
    have z1 := b1.size
    clear b1
    cases t1 : itv l
    · have NO := Lib.hid (show T = false from HT.out.trans (ok_no2 t1))
      go_wp2
      go_ret
      exact ⟨by rw [NO.out]; rfl, B1.out⟩
    · have TI := Lib.hid t1
      clear t1
      go_wp2_with fail
      refine (plansI w1 w.heap.size s ai l.length ci ap cp gp p gs cs O1.out (L.out.below B1.out).plans hn HM.out).mono ?_
      rintro e w2 ⟨rfl, b2⟩
      have B2 := Lib.hid (B1.out.trans (b2.mono B1.out.size))
      have O2 := Lib.hid (O1.out.keep (b2.block w.heap.size (by omega)))
      clear b2
      cases t2 : plv p
      · have NO := Lib.hid (show T = false from HT.out.trans (ok_no3 t2))
        go_wp2
        go_ret
        exact ⟨by rw [NO.out]; rfl, B2.out⟩
      · have YES := Lib.hid (show T = bal s l p from HT.out.trans (ok_yes TK.out TI.out t2))
        have q2 := itv_iff.1 TI.out
        have q3 := plv_iff.1 t2
        have CB := Lib.hid (balI w2 w.heap.size s ai ci gi l ap cp gp p gs cs O2.out (L.out.below B2.out).items (L.out.below B2.out).plans q2.2.1 q2.2.2 q3.1 HM.out (tok_up TK.out))
        clear t2 q2 q3
        generalize bal s l p = t at YES CB
        go_wp2_with fail
        refine CB.out.mono ?_
        rintro e w3 ⟨rfl, b3⟩
        have B3 := Lib.hid (B2.out.trans (b3.mono B2.out.size))
        clear b3
        go_wp2
        go_ret
        exact ⟨by rw [YES.out]; rfl, B3.out⟩
end Go.Proofs.Ytmaejlfjdkkpdaa.ob
