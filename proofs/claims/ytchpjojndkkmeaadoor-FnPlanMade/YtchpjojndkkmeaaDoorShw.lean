/-
  Plain helpers of this seat's proofs: the contract of the program's own sum of weights. Conditions: none.
-/
import Derived.Test.YtchpjojndkkmeaaDoorJSh
namespace Go.Proofs.YtchpjojndkkmeaaDoor.shr
open Go.ChangeShapes Go.WideShapes Go.ChangeAt Go.RowKit

def WS (w : World) (zs : List Int) (e : Ending) (w' : World) : Prop :=
  ((zs.length ≤ 60 ∧ InR zs ∧ e = .returned (.int .i64 (sumW zs : Nat))) ∨ (¬ (zs.length ≤ 60 ∧ InR zs) ∧ e = .returned (.int .i64 0))) ∧ w = w'

set_option maxHeartbeats 1000000 in
theorem weightSum (w : World) (a : Option Addr) (cap g : Nat) (zs : List Int) (r : rows.Row w a cap g zs) (hn : zs.length ≤ 1048576) : Calls Tryd.prog 46 #[.slice a zs.length cap] w (WS w zs) := by
  have R := Lib.hid r
  have e1 := r.addr
  have m1 := r.room
  clear r
  by_cases h60 : zs.length ≤ 60
  · obtain ⟨n, hnz⟩ : ∃ n, n = zs.length := ⟨_, rfl⟩
    have HNZ := Lib.hid hnz
    rw [← hnz] at e1 m1 hn h60 ⊢
    clear hnz
    have t0 : decide ((60 : Int) < (n : Int)) = false := by simp; omega
    rcases Nat.eq_zero_or_pos n with rfl | hp
    · clear e1
      go_enter Tryd.func46, Tryd.ntmps46
      go_wp2
      go_loop [3, 11] (fun s i => i = .int .i64 0 ∧ s = .int .i64 0) (fun _ _ => 0)
      case atStart => exact ⟨rfl, rfl⟩
      case round =>
        obtain ⟨rfl, rfl⟩ := hrel
        go_wp2
        go_ret
        refine ⟨.inl ⟨by rw [← HNZ.out]; exact h60, fun i hi => ?_, ?_⟩, rfl⟩
        · rw [← HNZ.out] at hi; omega
        · unfold sumW; rw [← HNZ.out]; rfl
    · obtain rfl := e1 hp
      clear e1
      go_enter Tryd.func46, Tryd.ntmps46
      go_wp2
      go_loop [3, 11] (fun s i => ∃ k : Nat, k ≤ n ∧ i = .int .i64 k ∧ s = .int .i64 (alc.sm (wf zs) k : Nat) ∧ alc.sm (wf zs) k ≤ 60000000 ∧ ∀ j, j < k → 0 ≤ zs.getD j 0 ∧ zs.getD j 0 ≤ 1000000) (fun _ i => n - (intOf i).toNat)
      case atStart => exact ⟨0, by omega, rfl, rfl, by simp [alc.sm], fun j h => by omega⟩
      case round =>
        obtain ⟨k, hk, rfl, rfl, hb, hd⟩ := hrel
        have D := Lib.hid hd
        clear hd
        by_cases hlt : k < n
        · have x1 := R.out.cells k (by rw [← HNZ.out]; exact hlt)
          obtain ⟨z, hz⟩ : ∃ z, z = zs.getD k 0 := ⟨_, rfl⟩
          rw [← hz] at x1
          have HZ := Lib.hid hz
          clear hz
          have u1 : decide (k < n) = true := by simp; omega
          have z1 : (k : Int) < (n : Int) := by omega
          obtain ⟨m, hm⟩ : ∃ m, m = alc.sm (wf zs) k := ⟨_, rfl⟩
          rw [← hm] at hb ⊢
          have HM := Lib.hid hm
          clear hm
          by_cases c1 : z < 0
          · have u2 : decide (z < 0) = true := by simp; omega
            go_wp2
            go_ret
            exact ⟨.inr ⟨fun h => by have := h.2 k (by rw [← HNZ.out]; exact hlt); rw [← HZ.out] at this; omega, rfl⟩, rfl⟩
          · have u2 : decide (z < 0) = false := by simp; omega
            by_cases c2 : 1000000 < z
            · have u3 : decide (1000000 < z) = true := by simp; omega
              go_wp2
              go_ret
              exact ⟨.inr ⟨fun h => by have := h.2 k (by rw [← HNZ.out]; exact hlt); rw [← HZ.out] at this; omega, rfl⟩, rfl⟩
            · have u3 : decide (1000000 < z) = false := by simp; omega
              have v1 : 0 ≤ z := by omega
              have v2 : z ≤ 1000000 := by omega
              clear c1 c2
              go_wp2
              go_round
              case rel =>
                have ew : wf zs k = z.toNat := by unfold wf; rw [← HZ.out]
                have D2 : ∀ j, j < k + 1 → 0 ≤ zs.getD j 0 ∧ zs.getD j 0 ≤ 1000000 := fun j hj => by
                  by_cases e : j = k
                  · subst e; rw [← HZ.out]; omega
                  · exact D.out j (by omega)
                have bd := alc.sm_bd (f := wf zs) (c := 1000000) (n := k + 1) (fun i hi => by have := D2 i hi; unfold wf; omega)
                refine ⟨k + 1, by omega, by go_num, ?_, by omega, D2⟩
                rw [alc.sm_succ, ew, ← HM.out]
                congr 1
                omega
              case measure => simp [intOf]; omega
        · have u1 : decide (k < n) = false := by simp; omega
          obtain rfl : k = n := by omega
          go_wp2
          go_ret
          refine ⟨.inl ⟨by rw [← HNZ.out]; exact h60, fun i hi => D.out i (by rw [HNZ.out]; exact hi), ?_⟩, rfl⟩
          unfold sumW; rw [← HNZ.out]; rfl
  · obtain ⟨n, hnz⟩ : ∃ n, n = zs.length := ⟨_, rfl⟩
    have HNZ := Lib.hid hnz
    rw [← hnz] at e1 m1 hn h60 ⊢
    clear hnz e1
    have h60' : 60 < n := by omega
    have t0 : decide ((60 : Int) < (n : Int)) = true := by simp; omega
    go_enter Tryd.func46, Tryd.ntmps46
    go_wp2
    go_ret
    exact ⟨.inr ⟨fun h => by have := h.1; rw [← HNZ.out] at this; omega, rfl⟩, rfl⟩
end Go.Proofs.YtchpjojndkkmeaaDoor.shr
