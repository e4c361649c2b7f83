/-
  Plain helpers of this seat's proofs: the contract of the model's function that sums the values of items. Conditions: none.
-/
import Derived.Test.YtmaejlfjdkkpdaaSi
import Derived.Test.YtmaejlfjdkkpdaaSi4
import Derived.Test.YtmaejlfjdkkpdaaBxs
import Derived.Test.YtmaejlfjdkkpdaaVaS0
import Derived.Deep.RegionWith
namespace Go.Proofs.Ytmaejlfjdkkpdaa.ob
open Go.ChangeShapes Go.WideShapes Go.ChangeAt Go.RowKit
open gen
open seven (F7 zz Row At)
open four (F4)
open pl (inR)
open pls (nth Pls OL)
open ord (Sc iok)
set_option maxRecDepth 20000 in
set_option maxHeartbeats 2000000 in
theorem valS1 (w : World) (ai : Option Addr) (ci gi : Nat) (l : List F4) (r : four.Row w ai ci gi l) (hv : ord.IV l) (hn : l.length ≤ 8) :
    Calls Try.prog 51 #[.slice ai l.length ci, .int .i64 1] w fun e w' => e = .returned (.int .i64 (ord.su (vj 1) l l.length)) ∧ Below w.heap.size w w' := by
  have R := Lib.hid r
  have HV := Lib.hid hv
  have e1 := r.addr
  have m1 := r.room
  clear r hv
  obtain ⟨n, hnz⟩ : ∃ n, n = l.length := ⟨_, rfl⟩
  rw [← hnz] at hn e1 m1 ⊢
  have HNZ := Lib.hid hnz
  clear hnz
  rcases Nat.eq_zero_or_pos n with rfl | hp
  · clear e1
    go_enter Try.func51, Try.ntmps51
    go_wp2
    go_loop [5, 6] (fun a i => i = .int .i64 0 ∧ a = .int .i64 0) (fun _ _ => 0)
    case atStart => exact ⟨rfl, rfl⟩
    case round =>
      obtain ⟨rfl, rfl⟩ := hrel
      go_wp2
      go_ret
      exact ⟨rfl, Below.refl _ _⟩
  · obtain rfl := e1 hp
    clear e1
    go_enter Try.func51, Try.ntmps51
    go_wp2
    go_loopw [5, 6] (fun a i wr => Below w.heap.size w wr ∧ ∃ k : Nat, k ≤ n ∧ i = .int .i64 k ∧ a = .int .i64 (ord.su (vj 1) l k)) (fun _ i _ => n - (intOf i).toNat)
    case atStart => exact ⟨Below.refl _ _, 0, by omega, rfl, rfl⟩
    case round =>
      obtain ⟨hB, k, hk, rfl, rfl⟩ := hrel
      have BB := Lib.hid hB
      have SI := suj_in 1 HV.out k (by rw [← HNZ.out]; exact hk)
      obtain ⟨S, hS⟩ : ∃ S, S = ord.su (vj 1) l k := ⟨_, rfl⟩
      rw [← hS] at SI ⊢
      have H0 := Lib.hid hS
      obtain ⟨s0, sk⟩ := SI
      have sk : S ≤ 8000000000 := by omega
      clear hS
      by_cases hlt : k < n
      · have HLT := Lib.hid (show k < l.length from by rw [← HNZ.out]; exact hlt)
        have glt : gi < wr.heap.size := Nat.lt_of_lt_of_le (R.out.lt (by have := HLT.out; omega)) hB.size
        have q1 := (R.out.cells k HLT.out).keep (hB.block gi (R.out.lt (by have := HLT.out; omega)))
        have VL := vj_in (j := 1) (ord.iok_iff.1 (HV.out k HLT.out))
        obtain ⟨x, hx⟩ : ∃ x, x = l.getD k four.zz := ⟨_, rfl⟩
        have HX := Lib.hid hx
        rw [← hx] at q1 VL
        clear hx hB
        obtain ⟨q, p, sh, r⟩ := x
        obtain ⟨x1, x2, x3, x4⟩ := q1
        dsimp only at x1 x2 x3 x4
        obtain ⟨v, hv⟩ : ∃ v, v = vj 1 (q, p, sh, r) := ⟨_, rfl⟩
        rw [← hv] at VL
        obtain ⟨v0, v1⟩ := VL
        have K0 := Lib.hid (show S + v = ord.su (vj 1) l (k + 1) from by rw [H0.out, hv]; show _ = _ + vj 1 _; rw [← HX.out])
        have z1 : (k : Int) < (n : Int) := by omega
        have u1 : decide (k < n) = true := by simp; omega
        have hvj : v = p * pk 1 (q, p, sh, r) := hv
        clear hv
        have m0 : IntKind.i64.wrap (p * sh) = v := by rw [show p * sh = v from hvj.symm, IntKind.wrap_i64]; omega
        have y0 : ((0 : Int)).toNat = 0 := rfl
        have y1 : ((1 : Int)).toNat = 1 := rfl
        have y2 : ((2 : Int)).toNat = 2 := rfl
        clear hvj
        go_wp2_with fail
        go_region_with (fail)
        all_goals
          go_wp2
          go_roundw
          case rel =>
            refine ⟨?_, k + 1, by omega, by go_num, by rw [← K0.out]⟩
            exact (BB.out.alloc BB.out.size _).drew
          case measure => simp [intOf]; omega
      · have u1 : decide (k < n) = false := by simp; omega
        obtain rfl : k = n := by omega
        clear hB
        go_wp2
        go_ret
        exact ⟨show Ending.returned (Value.int .i64 S) = _ from by rw [H0.out], BB.out⟩
end Go.Proofs.Ytmaejlfjdkkpdaa.ob
