/-
  Plain helpers of this seat's proofs: the contract of the function that reads one byte of a code. Conditions: none.
-/
import Derived.Test.YtchpjojndkkmeaaDoorJDr
namespace Go.Proofs.YtchpjojndkkmeaaDoor.draw
open Go.ChangeShapes Go.WideShapes Go.ChangeAt Go.RowKit

def GotByte (w : World) (e : Ending) (w' : World) : Prop := (∃ t : Nat, t < 256 ∧ e = .returned (.int .i64 t)) ∧ w = w'
theorem byteOf (a : Option Addr) (len cap : Nat) (w : World) (i : Nat) (hi : i ≤ 1000) (hB : Bytes w a len) (h : len ≤ 1048576) : Calls Tryd.prog 19 #[.slice a len cap, .int .i64 i] w (GotByte w) := by
  by_cases h0 : len = 0
  · subst h0
    clear hB
    go_enter Tryd.func19, Tryd.ntmps19
    go_wp2
    go_ret
    exact ⟨⟨0, by omega, rfl⟩, rfl⟩
  · have lt : i % len < len := Nat.mod_lt _ (by omega)
    obtain ⟨c, off, z, rfl, _, hz, hcell⟩ := hB (i % len) lt
    have t0 : ((len : Int) == 0) = false := by simp; omega
    obtain ⟨m, hm⟩ : ∃ m, m = i % len := ⟨_, rfl⟩
    rw [← hm] at hcell lt
    have em : (i : Int) % (len : Int) = (m : Int) := by rw [hm, Int.natCast_emod]
    have l1 : (m : Int) < (len : Int) := by omega
    clear hm hB
    go_enter Tryd.func19, Tryd.ntmps19
    go_wp2
    go_ret
    exact ⟨⟨z, hz, rfl⟩, rfl⟩
end Go.Proofs.YtchpjojndkkmeaaDoor.draw
