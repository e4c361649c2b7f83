/-
  Plain helpers of this seat's proofs: the model's decimal text of any number. Conditions: none.
-/
import Derived.Test.YtpogfdeioibkdaaGreatDoorDec
import Derived.Lib.ItoaMem
namespace Go.Proofs.YtpogfdeioibkdaaGreatDoor.dec
open Go.ChangeShapes Go.WideShapes Go.ChangeAt Go.RowKit
set_option maxHeartbeats 400000 in
theorem l1DecN (n : Nat) (z : Int) (w : World) (hz : z = -(n : Int)) (h1 : 1 ≤ n) (hn : n ≤ 1000000000000000) : Calls Tryz.prog 60 #[.int .i64 z] w fun e w' => e = .returned (.string ⟨(45 :: Lib.decDigits n).toArray⟩) ∧ Below w.heap.size w w' := by
  have t1 : decide (z < 0) = true := by simp; omega
  obtain ⟨M, hM⟩ : ∃ M : Nat, M = 18446744073709551616 - n := ⟨_, rfl⟩
  have m1 : IntKind.u64.wrap z = (M : Int) := by rw [IntKind.wrap_u64]; omega
  have m2 : IntKind.u64.wrap (-(M : Int)) = (n : Int) := by rw [IntKind.wrap_u64]; omega
  have ZH := Lib.hid hz
  clear hz hM
  have dl := dig_len n
  go_enter Tryz.func60, Tryz.ntmps60
  go_wp2
  go_loopw [3, 4] (fun m s wr => Below w.heap.size w wr ∧ ∃ (q : Nat) (l : List UInt8), q ≤ n ∧ m = .int .u64 q ∧ s = .string ⟨l.toArray⟩ ∧ Lib.decDigits n = Lib.decDigits q ++ l) (fun m _ _ => (intOf m).toNat)
  case atStart => exact ⟨Below.refl _ _, n, [], by omega, rfl, rfl, by simp⟩
  case round =>
    obtain ⟨hB, q, l, hq, rfl, rfl, hl⟩ := hrel
    have ll : l.length ≤ 1000000000000001 := by
      have := congrArg List.length hl
      rw [List.length_append] at this
      omega
    have BB := Lib.hid hB
    have HL := Lib.hid hl
    have HS := hB.size
    clear hB hl dl
    by_cases hlt : q < 10
    · have u1 : decide ((10 : Int) ≤ (q : Int)) = false := by simp; omega
      have hcv := conv1 wr (48 + (q : Int)) (by omega) (by omega)
      go_wp2
      go_ret
      refine ⟨ret_str ?_, BB.out.alloc HS _⟩
      rw [cat1, cat1, HL.out, dig_end q hlt, u8_add]; rfl
    · have u1 : decide ((10 : Int) ≤ (q : Int)) = true := by simp; omega
      have hcv := conv1 wr (48 + (q : Int) % 10) (by omega) (by omega)
      go_wp2
      go_roundw
      case rel => exact ⟨BB.out.alloc HS _, q / 10, _, by omega, by go_num, val_str (cat1 _ l), by rw [HL.out, dig_step q hlt, u8_add, List.append_assoc]; rfl⟩
      case measure => simp [intOf]; omega

theorem l1DecZ (z : Int) (w : World) (h0 : -1000000000000000 ≤ z) (h1 : z ≤ 1000000000000000) : Calls Tryz.prog 60 #[.int .i64 z] w fun e w' => e = .returned (.string ⟨(Lib.itoa z).toArray⟩) ∧ Below w.heap.size w w' := by
  by_cases h : z < 0
  · rw [show Lib.itoa z = 45 :: Lib.decDigits z.natAbs from by unfold Lib.itoa; rw [if_pos h]]
    exact l1DecN z.natAbs z w (by omega) (by omega) (by omega)
  · obtain ⟨n, rfl⟩ : ∃ n : Nat, z = (n : Int) := ⟨z.toNat, by omega⟩
    rw [Lib.itoa_nonneg]
    exact l1Dec n w (by omega)
end Go.Proofs.YtpogfdeioibkdaaGreatDoor.dec
