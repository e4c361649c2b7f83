/-
  Plain helpers of this seat's proofs: the model's functions that cut a text and read a number. Conditions: none.
-/
import Derived.Test.YtpogfdeioibkdaaGreatDoorPtm
import Derived.Test.YtpogfdeioibkdaaGreatDoorGen
import Derived.Deep.RegionWith
import Derived.Deep.RegionHeld3
import Derived.Maps.AppendAt
import Derived.OwnWalk
namespace Go.Proofs.YtpogfdeioibkdaaGreatDoor.ptm
open Go.ChangeShapes Go.WideShapes Go.ChangeAt Go.RowKit
theorem ext0 (l : List UInt8) (j : Nat) : (⟨l.toArray⟩ : ByteArray).extract 0 j = ⟨(l.take j).toArray⟩ := by
  apply ByteArray.ext; simp
theorem ext1 (l : List UInt8) (j : Nat) : (⟨l.toArray⟩ : ByteArray).extract j l.length = ⟨(l.drop j).toArray⟩ := by
  apply ByteArray.ext; simp
  rw [List.take_of_length_le (by simp)]
theorem ret_t {a b : Array Value} (h : a = b) : Ending.returned (.tuple a) = .returned (.tuple b) := by rw [h]
theorem split_at {l : List UInt8} {k : Nat} (h : k < l.length) : l = l.take k ++ l[k] :: l.drop (k + 1) := by
  rw [List.getElem_cons_drop, List.take_append_drop]
theorem dn0 {B : Nat} {w w' : World} (h : Below B w w') (k : Nat) : Below B w (w'.drewN k) := ⟨h.os, h.tape, h.output, h.size, h.block⟩
def ctV (l : List UInt8) (c : UInt8) : Array Value := #[.string ⟨(Lib.cut l [c]).1.toArray⟩, .string ⟨(Lib.cut l [c]).2.1.toArray⟩, .bool (Lib.cut l [c]).2.2]
set_option maxHeartbeats 1000000 in
theorem cutS (c : UInt8) (l : List UInt8) (w : World) (hz : l.length ≤ 4194304) : Calls Tryz.prog 55 #[.string ⟨l.toArray⟩, .int .u8 (c.toNat : Int)] w fun e w' => e = .returned (.tuple (ctV l c)) ∧ Below w.heap.size w w' := by
  obtain ⟨n, hn⟩ : ∃ n, n = l.length := ⟨_, rfl⟩
  have el : (⟨l.toArray⟩ : ByteArray).size = n := hn.symm
  have HN := Lib.hid hn
  rw [← hn] at hz
  obtain ⟨cn, hcn⟩ : ∃ cn, cn = c.toNat := ⟨_, rfl⟩
  rw [← hcn]
  have HC := Lib.hid hcn
  have c8 : cn < 256 := by rw [hcn]; exact c.toNat_lt
  clear hn hcn
  go_enter Tryz.func55, Tryz.ntmps55
  go_wp2_with fail
  go_loop [7] (fun a => ∃ k : Nat, k ≤ n ∧ a = .int .i64 k ∧ c ∉ l.take k) (fun a => n - (intOf a).toNat)
  case atStart => exact ⟨0, by omega, rfl, by simp⟩
  case round =>
    obtain ⟨k, hk, rfl, hno⟩ := hrel
    have NO := Lib.hid hno
    clear hno
    by_cases hlt : k < n
    · have d1 : decide ((k : Int) < (n : Int)) = true := by simp; omega
      have d1' : decide (k < n) = true := by simp; omega
      have hs : k < (⟨l.toArray⟩ : ByteArray).size := by omega
      have hl : k < l.length := by have := HN.out; omega
      obtain ⟨b, hb⟩ : ∃ b, b = l[k] := ⟨_, rfl⟩
      obtain ⟨bn, hbn⟩ : ∃ bn, bn = b.toNat := ⟨_, rfl⟩
      have b8 : bn < 256 := by rw [hbn]; exact b.toNat_lt
      have hbe : ((⟨l.toArray⟩ : ByteArray)[k]).toNat = bn := by rw [hbn, hb]; rfl
      have SP := Lib.hid (show l = l.take k ++ b :: l.drop (k + 1) from by rw [hb]; exact split_at hl)
      have TK := Lib.hid (show l.take (k + 1) = l.take k ++ [b] from by rw [List.take_add_one, hb]; simp [hl])
      have HB := Lib.hid hbn
      clear hb hbn
      by_cases hc : bn = cn
      · have e1 : (bn == cn) = true := by simp [hc]
        have e2 : ((bn : Int) == (cn : Int)) = true := by simp [hc]
        have e3 : decide (bn = cn) = true := by simp [hc]
        have bc : b = c := by apply UInt8.toNat_inj.1; have := HB.out; have := HC.out; omega
        have CT := Lib.hid (show Lib.cut l [c] = (l.take k, l.drop (k + 1), true) from by
          have := cut_at (c := c) (l.drop (k + 1)) NO.out
          rw [← bc] at this ⊢
          rw [← SP.out] at this
          exact this)
        have E0 := ext0 l k
        have E1 := ext1 l (k + 1)
        rw [← HN.out] at E1
        have k1 : (k : Int) + 1 ≤ (n : Int) := by omega
        obtain ⟨k', hk'⟩ : ∃ k', k' = k + 1 := ⟨_, rfl⟩
        have q1 : (k : Int) + 1 = (k' : Int) := by omega
        have q2 : k' ≤ n := by omega
        rw [← hk'] at E1 CT
        clear hc bc k1 hk'
        have v1 : IntKind.i64.wrap (k' : Int) = (k' : Int) := by rw [IntKind.wrap_i64]; omega
        have v2 : IntKind.i64.wrap ((k : Int) + 1) = (k' : Int) := by rw [q1]; exact v1
        have q3 : (k' : Int) ≤ (n : Int) := by omega
        go_wp2
        go_quiet (fail)
        go_wp2
        go_ret3
        refine ⟨?_, dn0 (Below.refl _ _) _⟩
        unfold ctV
        rw [CT.out]
        rfl
      · have e1 : (bn == cn) = false := by simp [hc]
        have e2 : ((bn : Int) == (cn : Int)) = false := by simp; omega
        have e3 : decide (bn = cn) = false := by simp [hc]
        have NO2 := Lib.hid (show c ∉ l.take (k + 1) from by
          rw [TK.out]
          intro h
          rcases List.mem_append.1 h with h | h
          · exact NO.out h
          · have : c = b := by simpa using h
            exact hc (by rw [HB.out, HC.out, this]))
        clear hc
        go_wp2
        go_round
        case rel => exact ⟨k + 1, by omega, by go_num, NO2.out⟩
        case measure => simp [intOf]; omega
    · have d1 : decide ((k : Int) < (n : Int)) = false := by simp; omega
      have d1' : decide (k < n) = false := by simp; omega
      have CT := Lib.hid (show Lib.cut l [c] = (l, [], false) from cut_none (by have := NO.out; rw [List.take_of_length_le (by have := HN.out; omega)] at this; exact this))
      go_wp2
      go_ret3
      refine ⟨?_, Below.refl _ _⟩
      unfold ctV
      rw [CT.out]
      rfl
end Go.Proofs.YtpogfdeioibkdaaGreatDoor.ptm
