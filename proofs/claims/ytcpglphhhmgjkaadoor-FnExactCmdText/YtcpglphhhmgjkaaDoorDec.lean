/-
  Plain helpers: contracts of the functions that write numbers in decimal. Conditions: none.
-/
import Derived.Test.YtcpglphhhmgjkaaDoorGen
import Derived.Lib.ItoaNum
import Derived.Lib.Strings
import Derived.Laws.IdiomStrings
namespace Go.Proofs.YtcpglphhhmgjkaaDoor.dec
open Go.ChangeShapes Go.WideShapes Go.ChangeAt Go.RowKit

theorem dig_step (q : Nat) (h : ¬ q < 10) : Lib.decDigits q = Lib.decDigits (q / 10) ++ [UInt8.ofNat (48 + q % 10)] := by
  rw [Lib.decDigits, dif_neg h]
theorem dig_end (q : Nat) (h : q < 10) : Lib.decDigits q = [UInt8.ofNat (48 + q)] := by
  rw [Lib.decDigits, dif_pos h]

theorem dig_len : ∀ u : Nat, (Lib.decDigits u).length ≤ u + 1 := by
  intro u
  induction u using Nat.strongRecOn with
  | _ u ih =>
    by_cases h : u < 10
    · rw [dig_end u h]; simp
    · rw [dig_step u h, List.length_append]
      have := ih (u / 10) (by omega)
      simp
      omega

/-- A slice of one byte, made a string. -/
theorem conv1 (w : World) (z : Int) (h0 : 0 ≤ z) (h1 : z ≤ 255) : Sem.run Tryd.prog (convert 38 9 (.slice (some ⟨w.heap.size, 0, none⟩) 1 1)) (w.alloc (.cells #[.int .u8 z] 5)) = .ok (.string ⟨#[UInt8.ofNat z.toNat]⟩) (w.alloc (.cells #[.int .u8 z] 5)) := by
  have h := run_convert_bytes_back (P := Tryd.prog) (w.alloc (.cells #[.int .u8 z] 5)) 38 9 5 ⟨w.heap.size, 0, none⟩ 1 [UInt8.ofNat z.toNat] Tryd.underlying38 Tryd.underlying5 Tryd.underlying9 (fun j hj => by
    have : j = 0 := by simp at hj; omega
    subst this
    simp [Addr.add]
    omega)
  exact h

theorem cat (a b : List UInt8) : (⟨a.toArray⟩ : ByteArray) ++ ⟨b.toArray⟩ = ⟨(a ++ b).toArray⟩ := by
  apply ByteArray.ext
  simp
theorem cat1 (c : UInt8) (b : List UInt8) : (⟨#[c]⟩ : ByteArray) ++ ⟨b.toArray⟩ = ⟨(c :: b).toArray⟩ := cat [c] b
theorem u8_add (k : Nat) : (48 : UInt8) + UInt8.ofNat k = UInt8.ofNat (48 + k) := by
  rw [UInt8.ofNat_add]; rfl
theorem ret_str {a b : ByteArray} (h : a = b) : Ending.returned (.string a) = .returned (.string b) := by rw [h]
theorem val_str {a b : ByteArray} (h : a = b) : Value.string a = .string b := by rw [h]

set_option maxHeartbeats 400000 in
theorem l1Dec (n : Nat) (w : World) (hn : n ≤ 1000000000000000) : Calls Tryd.prog 66 #[.int .i64 n] w fun e w' => e = .returned (.string ⟨(Lib.decDigits n).toArray⟩) ∧ Below w.heap.size w w' := by
  have t1 : decide ((n : Int) < 0) = false := by simp
  have dl := dig_len n
  go_enter Tryd.func66, Tryd.ntmps66
  go_wp2
  go_loopw [3, 4] (fun m s wr => Below w.heap.size w wr ∧ ∃ (q : Nat) (l : List UInt8), q ≤ n ∧ m = .int .u64 q ∧ s = .string ⟨l.toArray⟩ ∧ Lib.decDigits n = Lib.decDigits q ++ l) (fun m _ _ => (intOf m).toNat)
  case atStart => exact ⟨Below.refl _ _, n, [], by omega, rfl, rfl, by simp⟩
  case round =>
    obtain ⟨hB, q, l, hq, rfl, rfl, hl⟩ := hrel
    have ll : l.length ≤ 1000000000000001 := by
      have := congrArg List.length hl
      rw [List.length_append] at this
      omega
    have BB := Lib.hid hB
    have HL := Lib.hid hl
    have HS := hB.size
    clear hB hl dl
    by_cases hlt : q < 10
    · have u1 : decide ((10 : Int) ≤ (q : Int)) = false := by simp; omega
      have hcv := conv1 wr (48 + (q : Int)) (by omega) (by omega)
      go_wp2
      go_ret
      refine ⟨ret_str ?_, BB.out.alloc HS _⟩
      rw [cat1, HL.out, dig_end q hlt, u8_add]; rfl
    · have u1 : decide ((10 : Int) ≤ (q : Int)) = true := by simp; omega
      have hcv := conv1 wr (48 + (q : Int) % 10) (by omega) (by omega)
      go_wp2
      go_roundw
      case rel => exact ⟨BB.out.alloc HS _, q / 10, _, by omega, by go_num, val_str (cat1 _ l), by rw [HL.out, dig_step q hlt, u8_add, List.append_assoc]; rfl⟩
      case measure => simp [intOf]; omega

end Go.Proofs.YtcpglphhhmgjkaaDoor.dec
