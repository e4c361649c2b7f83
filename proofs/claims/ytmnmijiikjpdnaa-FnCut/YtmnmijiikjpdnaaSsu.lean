/-
  Plain helpers of this seat's proofs: the contract of the model's Shared. Conditions: none.
-/
import Derived.Test.YtmnmijiikjpdnaaSst
namespace Go.Proofs.Ytmnmijiikjpdnaa.shr
open Go.ChangeShapes Go.WideShapes Go.ChangeAt Go.RowKit
set_option maxRecDepth 100000 in
set_option maxHeartbeats 1000000 in
theorem spec_no (w : World) (a : Option Addr) (cap g : Nat) (t : Int) (zs : List Int) (rw0 : rows.Row w a cap g zs) (hn : zs.length ≤ 1048576) (hG : ¬ Good t zs) : Calls Try.prog 75 #[.int .i64 t, .slice a zs.length cap] w (GotS w t zs) := by
  have GN := Lib.hid (got_none (w := w) hG (Below.refl _ _))
  have HG := Lib.hid hG
  have RW := Lib.hid rw0
  have e1 := rw0.addr
  have m1 := rw0.room
  obtain ⟨n, hnz⟩ : ∃ n, n = zs.length := ⟨_, rfl⟩
  have HNZ := Lib.hid hnz
  rw [← hnz] at hn e1 m1 ⊢
  clear rw0 hG hnz
  by_cases c1 : t < 0 ∨ 1000000000000 < t
  · have H1 := Lib.hid c1
    clear c1 e1
    go_enter Try.func75, Try.ntmps75
    go_wp2_with fail
    refine (md.inF t _ _ w H1.out).mono ?_
    rintro e w' ⟨rfl, rfl⟩
    go_wp2
    go_ret
    exact GN.out
  · have t1 : 0 ≤ t := by omega
    have t2 : t ≤ 1000000000000 := by omega
    by_cases c2 : n < 1 ∨ 60 < n
    · have H2 := Lib.hid (show (n : Int) < 1 ∨ (60 : Int) < (n : Int) by omega)
      clear c1 c2 e1
      go_enter Try.func75, Try.ntmps75
      go_wp2_with fail
      refine (md.inT t _ _ w t1 t2).mono ?_
      rintro e w' ⟨rfl, rfl⟩
      go_wp2_with fail
      refine (md.inF (n : Int) _ _ w H2.out).mono ?_
      rintro e w' ⟨rfl, rfl⟩
      go_wp2
      go_ret
      exact GN.out
    · obtain rfl := e1 (by omega)
      have n1 : 1 ≤ n := by omega
      have n2 : n ≤ 60 := by omega
      clear e1 c1 c2
      go_enter Try.func75, Try.ntmps75
      go_wp2_with fail
      refine (md.inT t _ _ w t1 t2).mono ?_
      rintro e w' ⟨rfl, rfl⟩
      go_wp2_with fail
      refine (md.inT (n : Int) _ _ w (by omega) (by omega)).mono ?_
      rintro e w' ⟨rfl, rfl⟩
      go_wp2
      go_loop [5, 6] (fun vs vi => ∃ k : Nat, k ≤ n ∧ vi = .int .i64 k ∧ vs = .int .i64 (alc.sm (wf zs) k : Nat) ∧ alc.sm (wf zs) k ≤ 60000000 ∧ Hid (∀ j, j < k → 0 ≤ zs.getD j 0 ∧ zs.getD j 0 ≤ 1000000)) (fun _ vi => n - (intOf vi).toNat)
      case atStart => exact ⟨0, by omega, rfl, rfl, by simp [alc.sm], fun j h => by omega⟩
      case round =>
        obtain ⟨k, hk, rfl, rfl, bk, D⟩ := hrel
        by_cases hlt : k < n
        · have x1 := RW.out.cells k (by rw [← HNZ.out]; exact hlt)
          obtain ⟨z, hz⟩ : ∃ z, z = zs.getD k 0 := ⟨_, rfl⟩
          rw [← hz] at x1
          have HZ := Lib.hid hz
          obtain ⟨m, hm⟩ : ∃ m, m = alc.sm (wf zs) k := ⟨_, rfl⟩
          rw [← hm] at bk ⊢
          have HM := Lib.hid hm
          have u1 : decide (k < n) = true := by simp; omega
          have z1 : (k : Int) < (n : Int) := by omega
          clear hz hm
          by_cases c3 : z < 0 ∨ 1000000 < z
          · have H3 := Lib.hid c3
            clear c3
            go_wp2_with fail
            refine (md.inF z _ _ w H3.out).mono ?_
            rintro e w' ⟨rfl, rfl⟩
            go_wp2
            go_ret
            exact GN.out
          · have v1 : 0 ≤ z := by omega
            have v2 : z ≤ 1000000 := by omega
            clear c3
            go_wp2_with fail
            refine (md.inT z _ _ w v1 v2).mono ?_
            rintro e w' ⟨rfl, rfl⟩
            go_wp2
            go_round
            case rel =>
              have ew : wf zs k = z.toNat := by unfold wf; rw [← HZ.out]
              have D2 : ∀ j, j < k + 1 → 0 ≤ zs.getD j 0 ∧ zs.getD j 0 ≤ 1000000 := fun j hj => by
                by_cases e : j = k
                · subst e; rw [← HZ.out]; omega
                · exact D.out j (by omega)
              have bd := alc.sm_bd (f := wf zs) (c := 1000000) (n := k + 1) (fun i hi => by have := D2 i hi; unfold wf; omega)
              refine ⟨k + 1, by omega, by go_num, ?_, by omega, D2⟩
              rw [alc.sm_succ, ew, ← HM.out]
              congr 1
              omega
            case measure => simp [intOf]; omega
        · have u1 : decide (k < n) = false := by simp; omega
          obtain rfl : k = n := by omega
          have z0 : alc.sm (wf zs) k = 0 := by
            rcases Nat.eq_zero_or_pos (sumW zs) with z | p
            · unfold sumW at z; rw [HNZ.out]; exact z
            · exact (HG.out ⟨t1, t2, by rw [← HNZ.out]; exact n2, fun i hi => D.out i (by rw [HNZ.out]; exact hi), p⟩).elim
          rw [z0]
          clear z0 bk
          go_wp2
          go_ret
          exact GN.out
theorem spec (w : World) (a : Option Addr) (cap g : Nat) (t : Int) (zs : List Int) (r : rows.Row w a cap g zs) (hg : 0 < zs.length → g < w.heap.size) (hn : zs.length ≤ 1048576) : Calls Try.prog 75 #[.int .i64 t, .slice a zs.length cap] w (GotS w t zs) := by
  by_cases hG : Good t zs
  · exact spec_yes w a cap g t zs r hg hG
  · exact spec_no w a cap g t zs r hn hG
end Go.Proofs.Ytmnmijiikjpdnaa.shr
