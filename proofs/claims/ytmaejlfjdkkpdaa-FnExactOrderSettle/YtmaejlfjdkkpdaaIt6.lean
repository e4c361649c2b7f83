/-
  Plain helpers of this seat's proofs: contracts of the landed methods that look at items and plans. Conditions: none.
-/
import Derived.Test.YtmaejlfjdkkpdaaSi
import Derived.Test.YtmaejlfjdkkpdaaSi4
import Derived.Test.YtmaejlfjdkkpdaaPkI
import Derived.Test.YtmaejlfjdkkpdaaBxs
namespace Go.Proofs.Ytmaejlfjdkkpdaa.ob
open Go.ChangeShapes Go.WideShapes Go.ChangeAt Go.RowKit
open gen
open seven (F7 zz Row At)
open four (F4)
open pl (inR)
open pls (nth Pls OL)
open ord (Sc iok)
noncomputable def itv (l : List F4) : Bool := @decide (1 ≤ l.length ∧ l.length ≤ 8 ∧ ord.IV l) (Classical.propDecidable _)
theorem itv_iff {l : List F4} : itv l = true ↔ 1 ≤ l.length ∧ l.length ≤ 8 ∧ ord.IV l := by unfold itv; simp
theorem itv_t {l : List F4} (h : 1 ≤ l.length ∧ l.length ≤ 8 ∧ ord.IV l) : itv l = true := itv_iff.2 h
theorem itv_f {l : List F4} (h : ¬ (1 ≤ l.length ∧ l.length ≤ 8 ∧ ord.IV l)) : itv l = false := by unfold itv; simp [h]
noncomputable def plv (p : List (List F7)) : Bool := @decide (p.length ≤ 8 ∧ ord.PVs p) (Classical.propDecidable _)
theorem plv_iff {p : List (List F7)} : plv p = true ↔ p.length ≤ 8 ∧ ord.PVs p := by unfold plv; simp
theorem plv_t {p : List (List F7)} (h : p.length ≤ 8 ∧ ord.PVs p) : plv p = true := plv_iff.2 h
theorem plv_f {p : List (List F7)} (h : ¬ (p.length ≤ 8 ∧ ord.PVs p)) : plv p = false := by unfold plv; simp [h]
set_option maxHeartbeats 2000000 in
theorem itemsI (w : World) (b : Nat) (s : Sc) (ai : Option Addr) (ci gi : Nat) (l : List F4) (ap : Option Addr) (np cp : Nat) (h : OB w b s ai l.length ci ap np cp) (r : four.Row w ai ci gi l) (hn : l.length ≤ 1048577) :
    Calls Try.prog 55 #[.pointer (some ⟨b, 0, none⟩)] w fun e w' => e = .returned (.bool (itv l)) ∧ Below w.heap.size w w' := by
  obtain ⟨T, hT⟩ : ∃ T, T = itv l := ⟨_, rfl⟩
  rw [← hT]
  have HT := Lib.hid hT
  have R := Lib.hid r
  have e1 := r.addr
  have m1 := r.room
  have y9 := h.c9
  clear hT r h
  obtain ⟨n, hnz⟩ : ∃ n, n = l.length := ⟨_, rfl⟩
  rw [← hnz] at hn e1 m1 y9
  have HNZ := Lib.hid hnz
  clear hnz
  by_cases h0 : n < 1
  · have u0 : decide ((n : Int) < 1) = true := by simp; omega
    have NO := Lib.hid (show T = false from HT.out.trans (itv_f fun h => by have := h.1; have := HNZ.out; omega))
    go_enter Try.func55, Try.ntmps55
    go_wp2
    go_ret
    exact ⟨by rw [NO.out]; rfl, Below.refl _ _⟩
  · have u0 : decide ((n : Int) < 1) = false := by simp; omega
    by_cases h8 : 8 < n
    · have u1 : decide ((8 : Int) < (n : Int)) = true := by simp; omega
      have u1' : decide (8 < n) = true := by simp; omega
      have NO := Lib.hid (show T = false from HT.out.trans (itv_f fun h => by have := h.2.1; have := HNZ.out; omega))
      go_enter Try.func55, Try.ntmps55
      go_wp2
      go_ret
      exact ⟨by rw [NO.out]; rfl, Below.refl _ _⟩
    · have u1 : decide ((8 : Int) < (n : Int)) = false := by simp; omega
      have u1' : decide (8 < n) = false := by simp; omega
      obtain rfl := e1 (by omega)
      clear e1
      go_enter Try.func55, Try.ntmps55
      go_wp2
      go_loopw [24] (fun i wr => Below w.heap.size w wr ∧ ∃ k : Nat, k ≤ n ∧ i = .int .i64 k ∧ ∀ j, j < k → iok (l.getD j four.zz) = true) (fun i _ => n - (intOf i).toNat)
      case atStart => exact ⟨Below.refl _ _, 0, by omega, rfl, fun j h => by omega⟩
      case round =>
        obtain ⟨hB, k, hk, rfl, hf⟩ := hrel
        have BB := Lib.hid hB
        have FF := Lib.hid hf
        clear hf
        by_cases hlt : k < n
        · have HLT := Lib.hid (show k < l.length from by rw [← HNZ.out]; exact hlt)
          have q1 := (R.out.cells k HLT.out).keep (hB.block gi (R.out.lt (by have := HLT.out; omega)))
          obtain ⟨x, hx⟩ : ∃ x, x = l.getD k four.zz := ⟨_, rfl⟩
          have HX := Lib.hid hx
          rw [← hx] at q1
          clear hx
          obtain ⟨x1, x2, x3, x4⟩ := q1
          have C := fun W => itemI x W
          obtain ⟨t, ht⟩ : ∃ t, t = iok x := ⟨_, rfl⟩
          rw [← ht] at C
          have HP := Lib.hid ht
          have z1 : (k : Int) < (n : Int) := by omega
          have v1 : decide (k < n) = true := by simp; omega
          clear ht hB
          cases t with
          | false =>
            have NO := Lib.hid (show T = false from HT.out.trans (itv_f fun h => by have := h.2.2 k HLT.out; rw [← HX.out, ← HP.out] at this; cases this))
            go_wp2_with fail
            refine (C _).mono ?_
            rintro e w1 ⟨rfl, hg⟩
            have G1 := Lib.hid (show Grew _ w1 from hg)
            clear hg
            go_wp2
            go_ret
            exact ⟨by rw [NO.out]; rfl, Grew.step BB.out (Nat.le_refl _) ((Grew.alloc wr _).trans G1.out)⟩
          | true =>
            go_wp2_with fail
            refine (C _).mono ?_
            rintro e w1 ⟨rfl, hg⟩
            have G1 := Lib.hid (show Grew _ w1 from hg)
            clear hg
            go_wp2
            go_roundw
            case rel => exact ⟨Grew.step BB.out (Nat.le_refl _) ((Grew.alloc wr _).trans G1.out), k + 1, by omega, by go_num, fun j hj => by
              by_cases e : j = k
              · subst e; rw [← HX.out]; exact HP.out.symm
              · exact FF.out j (by omega)⟩
            case measure => simp [intOf]; omega
        · have v1 : decide (k < n) = false := by simp; omega
          obtain rfl : k = n := by omega
          have YES := Lib.hid (show T = true from HT.out.trans (itv_t ⟨by rw [← HNZ.out]; omega, by rw [← HNZ.out]; omega, fun i hi => FF.out i (by rw [HNZ.out]; exact hi)⟩))
          clear hB
          go_wp2
          go_ret
          exact ⟨by rw [YES.out]; rfl, BB.out⟩
set_option maxHeartbeats 2000000 in
theorem plansI (w : World) (b : Nat) (s : Sc) (ai : Option Addr) (ni ci : Nat) (ap : Option Addr) (cp gp : Nat) (p : List (List F7)) (gs cs : Nat → Nat) (h : OB w b s ai ni ci ap p.length cp) (r : Pls w ap cp gp p gs cs) (hn : p.length ≤ 1048577) (hm : ∀ i, i < p.length → (nth p i).length ≤ 1048577) :
    Calls Try.prog 56 #[.pointer (some ⟨b, 0, none⟩)] w fun e w' => e = .returned (.bool (plv p)) ∧ Below w.heap.size w w' := by
  obtain ⟨T, hT⟩ : ∃ T, T = plv p := ⟨_, rfl⟩
  rw [← hT]
  have HT := Lib.hid hT
  have R := Lib.hid r
  have HM := Lib.hid hm
  have e1 := r.addr
  have m1 := r.room
  have y10 := h.c10
  clear hT r h hm
  obtain ⟨n, hnz⟩ : ∃ n, n = p.length := ⟨_, rfl⟩
  rw [← hnz] at hn e1 m1 y10
  have HNZ := Lib.hid hnz
  clear hnz
  by_cases h8 : 8 < n
  · have u1 : decide ((8 : Int) < (n : Int)) = true := by simp; omega
    have u1' : decide (8 < n) = true := by simp; omega
    have NO := Lib.hid (show T = false from HT.out.trans (plv_f fun h => by have := h.1; have := HNZ.out; omega))
    go_enter Try.func56, Try.ntmps56
    go_wp2
    go_ret
    exact ⟨by rw [NO.out]; rfl, Below.refl _ _⟩
  · have u1 : decide ((8 : Int) < (n : Int)) = false := by simp; omega
    have u1' : decide (8 < n) = false := by simp; omega
    rcases Nat.eq_zero_or_pos n with rfl | hp
    · have YES := Lib.hid (show T = true from HT.out.trans (plv_t ⟨by rw [← HNZ.out]; omega, fun i hi => absurd hi (by rw [← HNZ.out]; omega)⟩))
      clear e1
      go_enter Try.func56, Try.ntmps56
      go_wp2
      go_loop [16] (fun i => i = .int .i64 0) (fun _ => 0)
      case atStart => exact rfl
      case round =>
        obtain rfl := hrel
        go_wp2
        go_ret
        exact ⟨by rw [YES.out]; rfl, Below.refl _ _⟩
    · obtain rfl := e1 (by omega)
      clear e1
      go_enter Try.func56, Try.ntmps56
      go_wp2
      go_loopw [16] (fun i wr => Below w.heap.size w wr ∧ ∃ k : Nat, k ≤ n ∧ i = .int .i64 k ∧ ∀ j, j < k → pl.pv (nth p j) = true) (fun i _ => n - (intOf i).toNat)
      case atStart => exact ⟨Below.refl _ _, 0, by omega, rfl, fun j h => by omega⟩
      case round =>
        obtain ⟨hB, k, hk, rfl, hf⟩ := hrel
        have BB := Lib.hid hB
        have FF := Lib.hid hf
        clear hf
        by_cases hlt : k < n
        · have HLT := Lib.hid (show k < p.length from by rw [← HNZ.out]; exact hlt)
          have q1 := (R.out.below hB).cells k HLT.out
          have C := Lib.hid (fun W (hb : Below w.heap.size w W) => base.pkI W _ _ _ (nth p k) ((R.out.below hb).rows k HLT.out) (HM.out k HLT.out))
          obtain ⟨t, ht⟩ : ∃ t, t = pl.pv (nth p k) := ⟨_, rfl⟩
          rw [← ht] at C
          have HP := Lib.hid ht
          have z1 : (k : Int) < (n : Int) := by omega
          have v1 : decide (k < n) = true := by simp; omega
          clear ht hB
          generalize (nth p k).length = ln at q1 C
          generalize gs k = gk at q1 C
          generalize cs k = ck at q1 C
          have BA := Lib.hid (BB.out.alloc BB.out.size (.cells #[.slice (some ⟨gk, 0, none⟩) ln ck] 62))
          cases t with
          | false =>
            have NO := Lib.hid (show T = false from HT.out.trans (plv_f fun h => by have := h.2 k HLT.out; rw [show p.getD k [] = nth p k from rfl, ← HP.out] at this; cases this))
            go_wp2_with fail
            refine (C.out _ BA.out).mono ?_
            rintro e w1 ⟨rfl, b1⟩
            have B1 := Lib.hid (BA.out.trans (b1.mono BA.out.size))
            clear b1
            go_wp2
            go_ret
            exact ⟨by rw [NO.out]; rfl, B1.out⟩
          | true =>
            go_wp2_with fail
            refine (C.out _ BA.out).mono ?_
            rintro e w1 ⟨rfl, b1⟩
            have B1 := Lib.hid (BA.out.trans (b1.mono BA.out.size))
            clear b1
            go_wp2
            go_roundw
            case rel => exact ⟨B1.out, k + 1, by omega, by go_num, fun j hj => by
              by_cases e : j = k
              · subst e; exact HP.out.symm
              · exact FF.out j (by omega)⟩
            case measure => simp [intOf]; omega
        · have v1 : decide (k < n) = false := by simp; omega
          obtain rfl : k = n := by omega
          have YES := Lib.hid (show T = true from HT.out.trans (plv_t ⟨by rw [← HNZ.out]; omega, fun i hi => FF.out i (by rw [HNZ.out]; exact hi)⟩))
          clear hB
          go_wp2
          go_ret
          exact ⟨by rw [YES.out]; rfl, BB.out⟩
end Go.Proofs.Ytmaejlfjdkkpdaa.ob
