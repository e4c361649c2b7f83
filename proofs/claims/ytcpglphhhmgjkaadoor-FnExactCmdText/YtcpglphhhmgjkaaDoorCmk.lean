/-
  Plain helpers of this seat's proofs: contracts of the functions that look at a key. Conditions: none.
-/
import Derived.Test.YtcpglphhhmgjkaaDoorCmm
import Derived.Test.YtcpglphhhmgjkaaDoorCmi
namespace Go.Proofs.YtcpglphhhmgjkaaDoor.cm
open Go.ChangeShapes Go.WideShapes Go.ChangeAt Go.RowKit
open gen
open four (F4)
theorem byteI (b : UInt8) (w : World) : Calls Tryd.prog 64 #[.int .u8 (b.toNat : Int)] w fun e w' => e = .returned (.bool (kb b)) ∧ w = w' := by
  unfold kb
  have e1 : decide (97 ≤ b.toNat) = decide ((97 : Int) ≤ (b.toNat : Int)) := decide_eq_decide.2 (by omega)
  have e2 : decide (b.toNat ≤ 122) = decide ((b.toNat : Int) ≤ 122) := decide_eq_decide.2 (by omega)
  have e3 : decide (48 ≤ b.toNat) = decide ((48 : Int) ≤ (b.toNat : Int)) := decide_eq_decide.2 (by omega)
  have e4 : decide (b.toNat ≤ 57) = decide ((b.toNat : Int) ≤ 57) := decide_eq_decide.2 (by omega)
  generalize b.toNat = n at *
  cases t1 : decide (97 ≤ n) <;> cases t2 : decide (n ≤ 122) <;> cases t3 : decide (48 ≤ n) <;> cases t4 : decide (n ≤ 57)
  all_goals
    rw [t1] at e1
    rw [t2] at e2
    rw [t3] at e3
    rw [t4] at e4
    replace e1 := e1.symm
    replace e2 := e2.symm
    replace e3 := e3.symm
    replace e4 := e4.symm
    go_enter Tryd.func64, Tryd.ntmps64
    go_wp2
    go_ret
    exact ⟨rfl, rfl⟩
set_option maxHeartbeats 1000000 in
theorem keyI (q : ByteArray) (w : World) (hq : q.size ≤ 1048576) : Calls Tryd.prog 32 #[.string q] w fun e w' => e = .returned (.bool (dB (Key q))) ∧ w = w' := by
  obtain ⟨T, hT⟩ : ∃ T, T = dB (Key q) := ⟨_, rfl⟩
  rw [← hT]
  have HT := Lib.hid hT
  clear hT
  by_cases h0 : q.size < 1
  · have u0 : decide ((q.size : Int) < 1) = true := by simp; omega
    have NO := Lib.hid (show T = false from HT.out.trans (dB_f fun h => by have := h.1; omega))
    go_enter Tryd.func32, Tryd.ntmps32
    go_wp2
    go_ret
    exact ⟨by rw [NO.out]; rfl, rfl⟩
  · have u0 : decide ((q.size : Int) < 1) = false := by simp; omega
    by_cases h8 : 12 < q.size
    · have u1 : decide ((12 : Int) < (q.size : Int)) = true := by simp; omega
      have u1' : decide (12 < q.size) = true := by simp; omega
      have NO := Lib.hid (show T = false from HT.out.trans (dB_f fun h => by have := h.2.1; omega))
      go_enter Tryd.func32, Tryd.ntmps32
      go_wp2
      go_ret
      exact ⟨by rw [NO.out]; rfl, rfl⟩
    · have u1 : decide ((12 : Int) < (q.size : Int)) = false := by simp; omega
      have u1' : decide (12 < q.size) = false := by simp; omega
      go_enter Tryd.func32, Tryd.ntmps32
      go_wp2
      go_loop [14] (fun i => ∃ k : Nat, k ≤ q.size ∧ i = .int .i64 k ∧ ∀ j (h : j < q.size), j < k → kb (q[j]) = true) (fun i => q.size - (intOf i).toNat)
      case atStart => exact ⟨0, by omega, rfl, fun j _ h => by omega⟩
      case round =>
        obtain ⟨k, hk, rfl, hf⟩ := hrel
        have FF := Lib.hid hf
        clear hf
        by_cases hlt : k < q.size
        · have d1 : decide ((k : Int) < (q.size : Int)) = true := by simp; omega
          have d1' : decide (k < q.size) = true := by simp; omega
          have C := byteI (q[k])
          obtain ⟨t, ht⟩ : ∃ t, t = kb (q[k]) := ⟨_, rfl⟩
          rw [← ht] at C
          have HP := Lib.hid ht
          have hm : ((q[k].toNat : Nat) : Int) % 4294967296 = (q[k].toNat : Int) := Int.emod_eq_of_lt (by omega) (by have := q[k].toNat_lt; omega)
          clear ht
          cases t with
          | false =>
            have NO := Lib.hid (show T = false from HT.out.trans (dB_f fun h => by have := h.2.2 k hlt; rw [← HP.out] at this; cases this))
            go_wp2_with fail
            refine (C _).mono ?_
            rintro e w1 ⟨rfl, rfl⟩
            go_wp2
            go_ret
            exact ⟨by rw [NO.out]; rfl, rfl⟩
          | true =>
            go_wp2_with fail
            refine (C _).mono ?_
            rintro e w1 ⟨rfl, rfl⟩
            go_wp2
            go_round
            case rel => exact ⟨k + 1, by omega, by go_num, fun j h hj => by
              by_cases e : j = k
              · subst e; exact HP.out.symm
              · exact FF.out j h (by omega)⟩
            case measure => simp [intOf]; omega
        · have d1 : decide ((k : Int) < (q.size : Int)) = false := by simp; omega
          have d1' : decide (k < q.size) = false := by simp; omega
          have YES := Lib.hid (show T = true from HT.out.trans (dB_t ⟨by omega, by omega, fun i hi => FF.out i hi (by omega)⟩))
          go_wp2
          go_ret
          exact ⟨by rw [YES.out]; rfl, rfl⟩
set_option maxHeartbeats 2000000 in
theorem keyS (q : ByteArray) (w : World) (hq : q.size ≤ 1048576) : Calls Tryd.prog 22 #[.string q] w fun e w' => e = .returned (.bool (dB (Key q))) ∧ w = w' := by
  obtain ⟨T, hT⟩ : ∃ T, T = dB (Key q) := ⟨_, rfl⟩
  rw [← hT]
  have HT := Lib.hid hT
  clear hT
  go_enter Tryd.func22, Tryd.ntmps22
  go_wp2
  go_loop [3] (fun i => ∃ k : Nat, k ≤ q.size ∧ i = .int .i64 k ∧ ∀ j (h : j < q.size), j < k → kb (q[j]) = true) (fun i => q.size - (intOf i).toNat)
  case atStart => exact ⟨0, by omega, rfl, fun j _ h => by omega⟩
  case round =>
    obtain ⟨k, hk, rfl, hf⟩ := hrel
    have FF := Lib.hid hf
    clear hf
    by_cases hlt : k < q.size
    · have d1 : decide ((k : Int) < (q.size : Int)) = true := by simp; omega
      have d1' : decide (k < q.size) = true := by simp; omega
      have FIN := Lib.hid (show kb (q[k]) = true → ∀ j (h : j < q.size), j < k + 1 → kb (q[j]) = true from fun hx j h hj => by
        by_cases e : j = k
        · subst e; exact hx
        · exact FF.out j h (by omega))
      have NOT := Lib.hid (show kb (q[k]) = false → T = false from fun hx => HT.out.trans (dB_f fun h => by have := h.2.2 k hlt; rw [hx] at this; cases this))
      obtain ⟨b, hb⟩ : ∃ b, b = q[k] := ⟨_, rfl⟩
      have hb2 : q[k] = b := hb.symm
      rw [← hb] at FIN NOT
      have e1 : decide (97 ≤ b.toNat) = decide ((97 : Int) ≤ (b.toNat : Int)) := decide_eq_decide.2 (by omega)
      have e2 : decide (b.toNat ≤ 122) = decide ((b.toNat : Int) ≤ 122) := decide_eq_decide.2 (by omega)
      have e3 : decide (48 ≤ b.toNat) = decide ((48 : Int) ≤ (b.toNat : Int)) := decide_eq_decide.2 (by omega)
      have e4 : decide (b.toNat ≤ 57) = decide ((b.toNat : Int) ≤ 57) := decide_eq_decide.2 (by omega)
      unfold kb at FIN NOT
      cases t1 : decide (97 ≤ b.toNat) <;> cases t2 : decide (b.toNat ≤ 122) <;> cases t3 : decide (48 ≤ b.toNat) <;> cases t4 : decide (b.toNat ≤ 57)
      all_goals
        rw [t1] at e1
        rw [t2] at e2
        rw [t3] at e3
        rw [t4] at e4
        rw [t1, t2, t3, t4] at FIN NOT
        replace e1 := e1.symm
        replace e2 := e2.symm
        replace e3 := e3.symm
        replace e4 := e4.symm
        clear hb
        first
          | (have NO := Lib.hid (NOT.out rfl)
             clear NOT FIN
             go_wp2
             go_ret
             exact ⟨by rw [NO.out]; rfl, rfl⟩)
          | (have YE := Lib.hid (FIN.out rfl)
             clear NOT FIN
             go_wp2
             go_round
             case rel => exact ⟨k + 1, by omega, by go_num, YE.out⟩
             case measure => simp [intOf]; omega)
    · have d1 : decide ((k : Int) < (q.size : Int)) = false := by simp; omega
      have d1' : decide (k < q.size) = false := by simp; omega
      obtain rfl : k = q.size := by omega
      have C := inB (q.size : Int) 1 12
      have VAL := Lib.hid (show T = inR (q.size : Int) 1 12 from by
        by_cases h : 1 ≤ q.size ∧ q.size ≤ 12
        · rw [HT.out.trans (dB_t ⟨h.1, h.2, fun i hi => FF.out i hi hi⟩)]; unfold inR; simp; omega
        · rw [HT.out.trans (dB_f fun x => h ⟨x.1, x.2.1⟩)]; unfold inR; symm; simp; omega)
      generalize inR (q.size : Int) 1 12 = t at C VAL
      go_wp2_with fail
      refine (C _).mono ?_
      rintro e w1 ⟨rfl, rfl⟩
      go_wp2
      go_ret
      exact ⟨by rw [VAL.out]; rfl, rfl⟩
end Go.Proofs.YtcpglphhhmgjkaaDoor.cm
