/-
  Plain helpers of this seat's proofs: what Shared answers, and the contract of the sum of the weights. Conditions: none.
-/
import Derived.Test.YtjkghpfcjjnghaaBlk
import Derived.Test.YtjkghpfcjjnghaaMrg
namespace Go.Proofs.Ytjkghpfcjjnghaa.shr
open Go.ChangeShapes Go.WideShapes Go.ChangeAt Go.RowKit

/-- The weights as natural numbers. -/
def wf (zs : List Int) (i : Nat) : Nat := (zs.getD i 0).toNat
def InR (zs : List Int) : Prop := ∀ i, i < zs.length → 0 ≤ zs.getD i 0 ∧ zs.getD i 0 ≤ 1000000
def sumW (zs : List Int) : Nat := alc.sm (wf zs) zs.length
/-- What Shared accepts. -/
def Good (t : Int) (zs : List Int) : Prop := 0 ≤ t ∧ t ≤ 1000000000000 ∧ zs.length ≤ 60 ∧ InR zs ∧ 0 < sumW zs
def lst (g : Nat → Nat) (n : Nat) : List Int := (List.range n).map fun i => (g i : Int)
def qf (T s : Nat) (W : Nat → Nat) (i : Nat) : Nat := T * W i / s
def rf (T s : Nat) (W : Nat → Nat) (i : Nat) : Nat := T * W i % s
theorem lst_len (g : Nat → Nat) (n : Nat) : (lst g n).length = n := by simp [lst]
theorem lst_get (g : Nat → Nat) (n i : Nat) (hi : i < n) : (lst g n).getD i 0 = (g i : Int) := by
  unfold lst
  rw [List.getD_eq_getElem?_getD, List.getElem?_map, List.getElem?_range hi]; rfl
theorem lst_congr {g g' : Nat → Nat} {n : Nat} (h : ∀ i, i < n → g i = g' i) : lst g n = lst g' n := by
  unfold lst
  refine List.map_congr_left fun i hi => ?_
  rw [h i (List.mem_range.1 hi)]
/-- What Shared answers. -/
def Sh (t : Int) (zs l : List Int) : Prop := (¬ Good t zs ∧ l = []) ∨
  (Good t zs ∧ ∃ S, alc.Dwn (rf t.toNat (sumW zs) (wf zs)) zs.length S (t.toNat - alc.sm (qf t.toNat (sumW zs) (wf zs)) zs.length) ∧ l = lst (alc.got (qf t.toNat (sumW zs) (wf zs)) S) zs.length)
theorem Sh.uniq {t : Int} {zs l l' : List Int} (h : Sh t zs l) (h' : Sh t zs l') : l = l' := by
  rcases h with ⟨h1, h2⟩ | ⟨h1, S, h2, h3⟩ <;> rcases h' with ⟨k1, k2⟩ | ⟨k1, S', k2, k3⟩
  · rw [h2, k2]
  · exact (h1 k1).elim
  · exact (k1 h1).elim
  · rw [h3, k3]
    exact lst_congr fun i hi => by unfold alc.got; rw [h2.uniq k2 i hi]
theorem Sh.small {t : Int} {zs l : List Int} (h : Sh t zs l) : l.length ≤ 60 := by
  rcases h with ⟨_, h2⟩ | ⟨h1, S, _, h3⟩
  · rw [h2]; simp
  · rw [h3, lst_len]; exact h1.2.2.1
theorem Good.alc {t : Int} {zs : List Int} (h : Good t zs) : alc.Alc t.toNat zs.length (sumW zs) (wf zs) (qf t.toNat (sumW zs) (wf zs)) (rf t.toNat (sumW zs) (wf zs)) (t.toNat - alc.sm (qf t.toNat (sumW zs) (wf zs)) zs.length) :=
  ⟨rfl, h.2.2.2.2, fun _ _ => rfl, fun _ _ => rfl, by
    have := alc.q_le (t := t.toNat) (n := zs.length) (s := sumW zs) (w := wf zs) (q := qf t.toNat (sumW zs) (wf zs)) (r := rf t.toNat (sumW zs) (wf zs)) rfl h.2.2.2.2 (fun _ _ => rfl) (fun _ _ => rfl)
    omega⟩
theorem Good.pos {t : Int} {zs : List Int} (h : Good t zs) : 0 < zs.length := by
  rcases Nat.eq_zero_or_pos zs.length with z | p
  · have := h.2.2.2.2; unfold sumW at this; rw [z] at this; simp [alc.sm] at this
  · exact p
theorem wf_bd {zs : List Int} (h : InR zs) (i : Nat) (hi : i < zs.length) : wf zs i ≤ 1000000 ∧ zs.getD i 0 = (wf zs i : Int) := by
  have := h i hi
  unfold wf
  omega
theorem sum_bd {zs : List Int} (h : InR zs) (h60 : zs.length ≤ 60) (k : Nat) (hk : k ≤ zs.length) : alc.sm (wf zs) k ≤ 60000000 := by
  have := alc.sm_bd (f := wf zs) (c := 1000000) (n := k) (fun i hi => (wf_bd h i (by omega)).1)
  omega

def WS (w : World) (zs : List Int) (e : Ending) (w' : World) : Prop :=
  ((zs.length ≤ 60 ∧ InR zs ∧ e = .returned (.int .i64 (sumW zs : Nat))) ∨ (¬ (zs.length ≤ 60 ∧ InR zs) ∧ e = .returned (.int .i64 0))) ∧ w = w'

set_option maxHeartbeats 1000000 in
theorem weightSum (w : World) (a : Option Addr) (cap g : Nat) (zs : List Int) (r : rows.Row w a cap g zs) (hn : zs.length ≤ 1048576) : Calls Try.prog 33 #[.slice a zs.length cap] w (WS w zs) := by
  have R := Lib.hid r
  have e1 := r.addr
  have m1 := r.room
  clear r
  by_cases h60 : zs.length ≤ 60
  · obtain ⟨n, hnz⟩ : ∃ n, n = zs.length := ⟨_, rfl⟩
    have HNZ := Lib.hid hnz
    rw [← hnz] at e1 m1 hn h60 ⊢
    clear hnz
    have t0 : decide ((60 : Int) < (n : Int)) = false := by simp; omega
    rcases Nat.eq_zero_or_pos n with rfl | hp
    · clear e1
      go_enter Try.func33, Try.ntmps33
      go_wp2
      go_loop [3, 11] (fun s i => i = .int .i64 0 ∧ s = .int .i64 0) (fun _ _ => 0)
      case atStart => exact ⟨rfl, rfl⟩
      case round =>
        obtain ⟨rfl, rfl⟩ := hrel
        go_wp2
        go_ret
        refine ⟨.inl ⟨by rw [← HNZ.out]; exact h60, fun i hi => ?_, ?_⟩, rfl⟩
        · rw [← HNZ.out] at hi; omega
        · unfold sumW; rw [← HNZ.out]; rfl
    · obtain rfl := e1 hp
      clear e1
      go_enter Try.func33, Try.ntmps33
      go_wp2
      go_loop [3, 11] (fun s i => ∃ k : Nat, k ≤ n ∧ i = .int .i64 k ∧ s = .int .i64 (alc.sm (wf zs) k : Nat) ∧ alc.sm (wf zs) k ≤ 60000000 ∧ ∀ j, j < k → 0 ≤ zs.getD j 0 ∧ zs.getD j 0 ≤ 1000000) (fun _ i => n - (intOf i).toNat)
      case atStart => exact ⟨0, by omega, rfl, rfl, by simp [alc.sm], fun j h => by omega⟩
      case round =>
        obtain ⟨k, hk, rfl, rfl, hb, hd⟩ := hrel
        have D := Lib.hid hd
        clear hd
        by_cases hlt : k < n
        · have x1 := R.out.cells k (by rw [← HNZ.out]; exact hlt)
          obtain ⟨z, hz⟩ : ∃ z, z = zs.getD k 0 := ⟨_, rfl⟩
          rw [← hz] at x1
          have HZ := Lib.hid hz
          clear hz
          have u1 : decide (k < n) = true := by simp; omega
          have z1 : (k : Int) < (n : Int) := by omega
          obtain ⟨m, hm⟩ : ∃ m, m = alc.sm (wf zs) k := ⟨_, rfl⟩
          rw [← hm] at hb ⊢
          have HM := Lib.hid hm
          clear hm
          by_cases c1 : z < 0
          · have u2 : decide (z < 0) = true := by simp; omega
            go_wp2
            go_ret
            exact ⟨.inr ⟨fun h => by have := h.2 k (by rw [← HNZ.out]; exact hlt); rw [← HZ.out] at this; omega, rfl⟩, rfl⟩
          · have u2 : decide (z < 0) = false := by simp; omega
            by_cases c2 : 1000000 < z
            · have u3 : decide (1000000 < z) = true := by simp; omega
              go_wp2
              go_ret
              exact ⟨.inr ⟨fun h => by have := h.2 k (by rw [← HNZ.out]; exact hlt); rw [← HZ.out] at this; omega, rfl⟩, rfl⟩
            · have u3 : decide (1000000 < z) = false := by simp; omega
              have v1 : 0 ≤ z := by omega
              have v2 : z ≤ 1000000 := by omega
              clear c1 c2
              go_wp2
              go_round
              case rel =>
                have ew : wf zs k = z.toNat := by unfold wf; rw [← HZ.out]
                have D2 : ∀ j, j < k + 1 → 0 ≤ zs.getD j 0 ∧ zs.getD j 0 ≤ 1000000 := fun j hj => by
                  by_cases e : j = k
                  · subst e; rw [← HZ.out]; omega
                  · exact D.out j (by omega)
                have bd := alc.sm_bd (f := wf zs) (c := 1000000) (n := k + 1) (fun i hi => by have := D2 i hi; unfold wf; omega)
                refine ⟨k + 1, by omega, by go_num, ?_, by omega, D2⟩
                rw [alc.sm_succ, ew, ← HM.out]
                congr 1
                omega
              case measure => simp [intOf]; omega
        · have u1 : decide (k < n) = false := by simp; omega
          obtain rfl : k = n := by omega
          go_wp2
          go_ret
          refine ⟨.inl ⟨by rw [← HNZ.out]; exact h60, fun i hi => D.out i (by rw [HNZ.out]; exact hi), ?_⟩, rfl⟩
          unfold sumW; rw [← HNZ.out]; rfl
  · obtain ⟨n, hnz⟩ : ∃ n, n = zs.length := ⟨_, rfl⟩
    have HNZ := Lib.hid hnz
    rw [← hnz] at e1 m1 hn h60 ⊢
    clear hnz e1
    have h60' : 60 < n := by omega
    have t0 : decide ((60 : Int) < (n : Int)) = true := by simp; omega
    go_enter Try.func33, Try.ntmps33
    go_wp2
    go_ret
    exact ⟨.inr ⟨fun h => by have := h.1; rw [← HNZ.out] at this; omega, rfl⟩, rfl⟩
end Go.Proofs.Ytjkghpfcjjnghaa.shr
