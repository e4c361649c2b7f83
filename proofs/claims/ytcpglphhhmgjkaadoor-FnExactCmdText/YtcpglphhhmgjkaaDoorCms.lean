/-
  Plain helpers of this seat's proofs: how many elements a command has. Conditions: none.
-/
import Derived.Test.YtcpglphhhmgjkaaDoorCmv
import Derived.Test.YtcpglphhhmgjkaaDoorCpI4
namespace Go.Proofs.YtcpglphhhmgjkaaDoor.cm
open Go.ChangeShapes Go.WideShapes Go.ChangeAt Go.RowKit
open gen
open four (F4)
theorem szINo (a : Option Addr) (len cap m : Nat) (w : World) (h : m < len) (hl : len ≤ maxLen) : Calls Tryd.prog 20 #[.slice a len cap, .int .i64 m] w fun e w' => e = .returned (.int .i64 (-1)) ∧ w = w' := by
  unfold maxLen at hl
  have t1 : decide ((m : Int) - (len : Int) < 0) = true := by simp; omega
  go_enter Tryd.func20, Tryd.ntmps20
  go_wp2
  go_ret
  exact ⟨rfl, rfl⟩
def lft (T m : Nat) : Int := if T ≤ m then ((m - T : Nat) : Int) else -1
theorem lft_t {T m : Nat} (h : T ≤ m) : lft T m = ((m - T : Nat) : Int) := if_pos h
theorem lft_f {T m : Nat} (h : ¬ T ≤ m) : lft T m = -1 := if_neg h
set_option maxHeartbeats 1000000 in
theorem szC (s : Sc) (ai : Option Addr) (ci : Nat) (l : List F4) (w : World) (hk : s.key.size ≤ maxLen) (hl : l.length ≤ maxLen) :
    Calls Tryd.prog 7 #[.agg #[.int .i64 s.k, .string s.key, .int .i64 s.a, .int .i64 s.b, .int .i64 s.c, .int .i64 s.d, .int .i64 s.e, .int .i64 s.f, .slice ai l.length ci], .int .i64 1048576] w fun e w' => e = .returned (.int .i64 (lft (s.key.size + l.length) 1048576)) ∧ Below w.heap.size w w' := by
  have B0 := Lib.hid (show Below w.heap.size w (w.alloc (.cells #[.int .i64 s.k, .string s.key, .int .i64 s.a, .int .i64 s.b, .int .i64 s.c, .int .i64 s.d, .int .i64 s.e, .int .i64 s.f, .slice ai l.length ci] 24)) from bAl (Below.refl _ _) (Nat.le_refl _) _)
  obtain ⟨K, hK⟩ : ∃ K, K = s.key.size := ⟨_, rfl⟩
  have hK' : s.key.size = K := hK.symm
  have hK2 : (s.key.size : Int) = (K : Int) := by rw [hK]
  rw [← hK] at hk ⊢
  unfold maxLen at hk
  generalize l.length = n at *
  by_cases h0 : K ≤ 1048576
  · obtain ⟨d, hd⟩ : ∃ d, d = 1048576 - K := ⟨_, rfl⟩
    have HD := Lib.hid hd
    have e1 : (1048576 : Int) - (K : Int) = (d : Int) := by omega
    have hd2 : d ≤ 1048576 := by omega
    have t1 : decide ((d : Int) < 0) = false := by simp
    clear hK hd hk
    by_cases h1 : n ≤ d
    · obtain ⟨r, hr⟩ : ∃ r, r = d - n := ⟨_, rfl⟩
      have C := fun W => four.szOk ai n ci d W h1 hd2
      rw [← hr] at C
      have t2 : decide ((r : Int) < 0) = false := by simp
      have YES := Lib.hid (show lft (K + n) 1048576 = (r : Int) from by rw [lft_t (by have := HD.out; omega)]; have := HD.out; omega)
      generalize lft (K + n) 1048576 = T at *
      clear hr h1
      go_enter Tryd.func7, Tryd.ntmps7
      go_wp2_with fail
      refine (C _).mono ?_
      rintro e w' ⟨rfl, rfl⟩
      go_wp2
      go_ret
      exact ⟨by rw [YES.out]; rfl, B0.out⟩
    · have C := fun W => szINo ai n ci d W (by omega) hl
      have t2 : decide ((-1 : Int) < 0) = true := by decide
      have NO := Lib.hid (show lft (K + n) 1048576 = -1 from lft_f (by have := HD.out; omega))
      generalize lft (K + n) 1048576 = T at *
      clear h1
      go_enter Tryd.func7, Tryd.ntmps7
      go_wp2_with fail
      refine (C _).mono ?_
      rintro e w' ⟨rfl, rfl⟩
      go_wp2
      go_ret
      exact ⟨by rw [NO.out]; rfl, B0.out⟩
  · have e1 : decide ((1048576 : Int) - (K : Int) < 0) = true := by simp; omega
    have NO := Lib.hid (show lft (K + n) 1048576 = -1 from lft_f (by omega))
    generalize lft (K + n) 1048576 = T at *
    clear hK
    go_enter Tryd.func7, Tryd.ntmps7
    go_wp2
    go_ret
    exact ⟨by rw [NO.out]; rfl, B0.out⟩
end Go.Proofs.YtcpglphhhmgjkaaDoor.cm
