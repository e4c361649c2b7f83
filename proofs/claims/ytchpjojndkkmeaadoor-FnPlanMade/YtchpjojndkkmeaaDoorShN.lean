/-
  Plain helpers of this seat's proofs: the contract of the program's own Shared, whole. Conditions: none.
-/
import Derived.Test.YtchpjojndkkmeaaDoorShI
namespace Go.Proofs.YtchpjojndkkmeaaDoor.shr
open Go.ChangeShapes Go.WideShapes Go.ChangeAt Go.RowKit

set_option maxHeartbeats 1000000 in
theorem impl_no (w : World) (a : Option Addr) (cap g : Nat) (t : Int) (zs : List Int) (rw0 : rows.Row w a cap g zs) (hn : zs.length ≤ 1048576) (hG : ¬ Good t zs) : Calls Tryd.prog 27 #[.int .i64 t, .slice a zs.length cap] w (GotS w t zs) := by
  have KW := Lib.hid (weightSum w a cap g zs rw0 hn)
  have GN := Lib.hid (got_none (w := w) hG (Below.refl _ _))
  have HG := Lib.hid hG
  obtain ⟨n, hnz⟩ : ∃ n, n = zs.length := ⟨_, rfl⟩
  rw [← hnz] at KW hn ⊢
  clear rw0 hG hnz
  go_enter Tryd.func27, Tryd.ntmps27
  go_wp2_with fail
  refine KW.out.mono ?_
  rintro e w' ⟨hws, rfl⟩
  have he : ∃ v : Nat, e = .returned (.int .i64 (v : Int)) ∧ (0 ≤ t → t ≤ 1000000000000 → v = 0) := by
    rcases hws with ⟨h1, h2, he⟩ | ⟨_, he⟩
    · refine ⟨_, he, fun h3 h4 => ?_⟩
      rcases Nat.eq_zero_or_pos (sumW zs) with z | p
      · exact z
      · exact (HG.out ⟨h3, h4, h1, h2, p⟩).elim
    · exact ⟨0, he, fun _ _ => rfl⟩
  obtain ⟨v, rfl, hv⟩ := he
  clear hws KW
  by_cases c1 : t < 0
  · have t1 : decide (t < 0) = true := by simp; omega
    clear hv
    go_wp2
    go_ret
    exact GN.out
  · have t1 : decide (t < 0) = false := by simp; omega
    by_cases c2 : 1000000000000 < t
    · have t2 : decide (1000000000000 < t) = true := by simp; omega
      clear hv
      go_wp2
      go_ret
      exact GN.out
    · have t2 : decide (1000000000000 < t) = false := by simp; omega
      obtain rfl := hv (by omega) (by omega)
      clear c1 c2 hv
      go_wp2
      go_ret
      exact GN.out
theorem impl (w : World) (a : Option Addr) (cap g : Nat) (t : Int) (zs : List Int) (r : rows.Row w a cap g zs) (hg : 0 < zs.length → g < w.heap.size) (hn : zs.length ≤ 1048576) : Calls Tryd.prog 27 #[.int .i64 t, .slice a zs.length cap] w (GotS w t zs) := by
  by_cases hG : Good t zs
  · exact impl_yes w a cap g t zs r hg hG
  · exact impl_no w a cap g t zs r hn hG
end Go.Proofs.YtchpjojndkkmeaaDoor.shr
