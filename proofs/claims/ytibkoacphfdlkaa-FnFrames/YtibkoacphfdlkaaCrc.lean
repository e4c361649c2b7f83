/-
  Plain helpers of this seat's proofs: the checksum of a text, and the contracts of the functions that reckon it. Conditions: none.
-/
import Derived.Test.YtibkoacphfdlkaaRows
import Derived.Test.YtibkoacphfdlkaaLift
import Derived.WalkKit
import Derived.Test.YtibkoacphfdlkaaGen
import Derived.Deep.RegionWith
import Derived.Laws.DeepBits32
import Derived.Laws.IdiomStrings
import Derived.Lib.Strings
namespace Go.Proofs.Ytibkoacphfdlkaa.crc
open Go.ChangeShapes Go.WideShapes Go.ChangeAt Go.RowKit

/-- One bit. -/
def bt (c : Nat) : Nat := if c % 2 = 1 then (c / 2) ^^^ 3988292384 else c / 2
theorem bt_lt {c : Nat} (h : c < 4294967296) : bt c < 4294967296 := by
  unfold bt
  split
  · exact Nat.xor_lt_two_pow (n := 32) (by omega) (by omega)
  · omega
/-- So many bits. -/
def it : Nat → Nat → Nat
  | 0, c => c
  | k + 1, c => bt (it k c)
theorem it_lt {c : Nat} (h : c < 4294967296) (k : Nat) : it k c < 4294967296 := by
  induction k with
  | zero => exact h
  | succ k ih => exact bt_lt ih
/-- One byte. -/
def mix (c : Nat) (b : UInt8) : Nat := c ^^^ b.toNat
theorem mix_lt {c : Nat} (h : c < 4294967296) (b : UInt8) : mix c b < 4294967296 :=
  Nat.xor_lt_two_pow (n := 32) (by omega) (by have := b.toNat_lt; omega)
def st (c : Nat) (b : UInt8) : Nat := it 8 (mix c b)
theorem st_lt {c : Nat} (h : c < 4294967296) (b : UInt8) : st c b < 4294967296 := it_lt (mix_lt h b) 8
/-- What so many bytes make. -/
def raw (l : List UInt8) : Nat := l.foldl st 4294967295
theorem raw_snoc (l : List UInt8) (b : UInt8) : raw (l ++ [b]) = st (raw l) b := by simp [raw]
theorem fold_lt (l : List UInt8) : ∀ c, c < 4294967296 → l.foldl st c < 4294967296 := by
  induction l with
  | nil => intro c h; exact h
  | cons b l ih => intro c h; exact ih _ (st_lt h b)
theorem raw_lt (l : List UInt8) : raw l < 4294967296 := fold_lt l _ (by omega)
/-- The checksum. -/
def sum (l : List UInt8) : Nat := 4294967295 - raw l
theorem sum_lt (l : List UInt8) : sum l < 4294967296 := by unfold sum; omega
/-- Four bytes, the least first, and the greatest first. -/
def le4 (c : Nat) : List UInt8 := [UInt8.ofNat (c % 256), UInt8.ofNat (c / 256 % 256), UInt8.ofNat (c / 65536 % 256), UInt8.ofNat (c / 16777216 % 256)]
def be4 (c : Nat) : List UInt8 := [UInt8.ofNat (c / 16777216 % 256), UInt8.ofNat (c / 65536 % 256), UInt8.ofNat (c / 256 % 256), UInt8.ofNat (c % 256)]
theorem ret_str {a b : ByteArray} (h : a = b) : Ending.returned (.string a) = .returned (.string b) := by rw [h]
theorem cat (a b : List UInt8) : (⟨a.toArray⟩ : ByteArray) ++ ⟨b.toArray⟩ = ⟨(a ++ b).toArray⟩ := by
  apply ByteArray.ext
  simp
theorem xorI (a b : Nat) (ha : a < 4294967296) (hb : b < 4294967296) : bits .xor .u32 (a : Int) (b : Int) = ((a ^^^ b : Nat) : Int) := u32_xor_nat a b ha hb
/-- A slice of 4 bytes, made a string. -/
theorem conv4 (w : World) (a b c d : Int) (h0 : 0 ≤ a ∧ a ≤ 255) (h1 : 0 ≤ b ∧ b ≤ 255) (h2 : 0 ≤ c ∧ c ≤ 255) (h3 : 0 ≤ d ∧ d ≤ 255) : Sem.run Try.prog (convert 22 9 (.slice (some ⟨w.heap.size, 0, none⟩) 4 4)) (w.alloc (.cells #[.int .u8 a, .int .u8 b, .int .u8 c, .int .u8 d] 5)) = .ok (.string ⟨#[UInt8.ofNat a.toNat, UInt8.ofNat b.toNat, UInt8.ofNat c.toNat, UInt8.ofNat d.toNat]⟩) (w.alloc (.cells #[.int .u8 a, .int .u8 b, .int .u8 c, .int .u8 d] 5)) := by
  have h := run_convert_bytes_back (P := Try.prog) (w.alloc (.cells #[.int .u8 a, .int .u8 b, .int .u8 c, .int .u8 d] 5)) 22 9 5 ⟨w.heap.size, 0, none⟩ 4 [UInt8.ofNat a.toNat, UInt8.ofNat b.toNat, UInt8.ofNat c.toNat, UInt8.ofNat d.toNat] Try.underlying22 Try.underlying5 Try.underlying9 (fun j hj => by
    obtain rfl | rfl | rfl | rfl : j = 0 ∨ j = 1 ∨ j = 2 ∨ j = 3 := by simp at hj; omega
    all_goals (simp [Addr.add]; try omega))
  exact h
/-- A slice of 8 bytes, made a string. -/
theorem conv8 (w : World) (a b c d e f g k : Int) (h0 : 0 ≤ a ∧ a ≤ 255) (h1 : 0 ≤ b ∧ b ≤ 255) (h2 : 0 ≤ c ∧ c ≤ 255) (h3 : 0 ≤ d ∧ d ≤ 255) (h4 : 0 ≤ e ∧ e ≤ 255) (h5 : 0 ≤ f ∧ f ≤ 255) (h6 : 0 ≤ g ∧ g ≤ 255) (h7 : 0 ≤ k ∧ k ≤ 255) : Sem.run Try.prog (convert 22 9 (.slice (some ⟨w.heap.size, 0, none⟩) 8 8)) (w.alloc (.cells #[.int .u8 a, .int .u8 b, .int .u8 c, .int .u8 d, .int .u8 e, .int .u8 f, .int .u8 g, .int .u8 k] 5)) = .ok (.string ⟨#[UInt8.ofNat a.toNat, UInt8.ofNat b.toNat, UInt8.ofNat c.toNat, UInt8.ofNat d.toNat, UInt8.ofNat e.toNat, UInt8.ofNat f.toNat, UInt8.ofNat g.toNat, UInt8.ofNat k.toNat]⟩) (w.alloc (.cells #[.int .u8 a, .int .u8 b, .int .u8 c, .int .u8 d, .int .u8 e, .int .u8 f, .int .u8 g, .int .u8 k] 5)) := by
  have h := run_convert_bytes_back (P := Try.prog) (w.alloc (.cells #[.int .u8 a, .int .u8 b, .int .u8 c, .int .u8 d, .int .u8 e, .int .u8 f, .int .u8 g, .int .u8 k] 5)) 22 9 5 ⟨w.heap.size, 0, none⟩ 8 [UInt8.ofNat a.toNat, UInt8.ofNat b.toNat, UInt8.ofNat c.toNat, UInt8.ofNat d.toNat, UInt8.ofNat e.toNat, UInt8.ofNat f.toNat, UInt8.ofNat g.toNat, UInt8.ofNat k.toNat] Try.underlying22 Try.underlying5 Try.underlying9 (fun j hj => by
    obtain rfl | rfl | rfl | rfl | rfl | rfl | rfl | rfl : j = 0 ∨ j = 1 ∨ j = 2 ∨ j = 3 ∨ j = 4 ∨ j = 5 ∨ j = 6 ∨ j = 7 := by simp at hj; omega
    all_goals (simp [Addr.add]; try omega))
  exact h
theorem conv4g (w : World) (t : Nat) (a b c d : Int) (h0 : 0 ≤ a ∧ a ≤ 255) (h1 : 0 ≤ b ∧ b ≤ 255) (h2 : 0 ≤ c ∧ c ≤ 255) (h3 : 0 ≤ d ∧ d ≤ 255) (c0 : w.cell? ⟨t, 0, none⟩ = some (.int .u8 a)) (c1 : w.cell? ⟨t, 1, none⟩ = some (.int .u8 b)) (c2 : w.cell? ⟨t, 2, none⟩ = some (.int .u8 c)) (c3 : w.cell? ⟨t, 3, none⟩ = some (.int .u8 d)) : Sem.run Try.prog (convert 22 9 (.slice (some ⟨t, 0, none⟩) 4 4)) w = .ok (.string ⟨#[UInt8.ofNat a.toNat, UInt8.ofNat b.toNat, UInt8.ofNat c.toNat, UInt8.ofNat d.toNat]⟩) w := by
  have h := run_convert_bytes_back (P := Try.prog) w 22 9 5 ⟨t, 0, none⟩ 4 [UInt8.ofNat a.toNat, UInt8.ofNat b.toNat, UInt8.ofNat c.toNat, UInt8.ofNat d.toNat] Try.underlying22 Try.underlying5 Try.underlying9 (fun j hj => by
    obtain rfl | rfl | rfl | rfl : j = 0 ∨ j = 1 ∨ j = 2 ∨ j = 3 := by simp at hj; omega
    · simp [Addr.add, c0]; omega
    · simp [Addr.add, c1]; omega
    · simp [Addr.add, c2]; omega
    · simp [Addr.add, c3]; omega)
  exact h
theorem of_mod (x : Nat) : UInt8.ofNat (x % 256) = UInt8.ofNat x := by
  apply UInt8.toNat_inj.1; simp
theorem bitI (q : Nat) (h : q < 4294967296) : bits .xor .u32 ((q : Int) / 2) (3988292384 * bits .and .u32 (q : Int) 1 % 4294967296) = ((bt q : Nat) : Int) := by
  have ha : bits .and .u32 (q : Int) 1 = ((q % 2 : Nat) : Int) := by
    have := u32_and_nat q 1 h (by omega)
    rw [nat_mask1] at this; exact this
  rw [ha]
  unfold bt
  have e2 : (q : Int) / 2 = ((q / 2 : Nat) : Int) := by omega
  by_cases hq : q % 2 = 1
  · rw [if_pos hq, hq, e2]
    exact u32_xor_nat (q / 2) 3988292384 (by omega) (by omega)
  · have h0 : q % 2 = 0 := by omega
    rw [if_neg hq, h0, e2]
    have := u32_xor_nat (q / 2) 0 (by omega) (by omega)
    rw [Nat.xor_zero] at this; exact this
theorem notI (q : Nat) (h : q < 4294967296) : bits .xor .u32 IntKind.u32.max (q : Int) = ((4294967295 - q : Nat) : Int) := by
  have := u32_xor_nat 4294967295 q (by omega) h
  have e : 4294967295 ^^^ q = 4294967295 - q := by
    apply Nat.eq_of_testBit_eq
    intro i
    rw [Nat.testBit_xor, show (4294967295 : Nat) = 2 ^ 32 - 1 by decide, Nat.testBit_two_pow_sub_one, show 2 ^ 32 - 1 - q = 2 ^ 32 - (q + 1) by omega, Nat.testBit_two_pow_sub_succ (by omega)]
    by_cases hi : i < 32
    · simp [hi]
    · have : q.testBit i = false := Nat.testBit_lt_two_pow (Nat.lt_of_lt_of_le h (Nat.pow_le_pow_right (n := 2) (by omega) (show 32 ≤ i by omega)))
      simp [hi, this]
  rw [e] at this; exact this
set_option maxHeartbeats 1000000 in
theorem sumI (l : List UInt8) (w : World) (hl : l.length ≤ 1048576) : Calls Try.prog 31 #[.string ⟨l.toArray⟩] w fun e w' => e = .returned (.int .u32 (sum l)) ∧ w = w' := by
  go_enter Try.func31, Try.ntmps31
  go_wp2
  go_loop [3, 7] (fun a b => ∃ i : Nat, i ≤ l.length ∧ a = .int .u32 (raw (l.take i)) ∧ b = .int .i64 i) (fun _ b => l.length - (intOf b).toNat)
  case atStart => exact ⟨0, by omega, rfl, rfl⟩
  case round =>
    obtain ⟨i, hi, rfl, rfl⟩ := hrel
    have rl := raw_lt (l.take i)
    by_cases hlt : i < l.length
    · have d1 : decide ((i : Int) < (l.length : Int)) = true := by simp; omega
      have hs : i < (⟨l.toArray⟩ : ByteArray).size := hlt
      have hbe : (⟨l.toArray⟩ : ByteArray)[i] = l[i] := rfl
      have TK := Lib.hid (show raw (l.take (i + 1)) = it 8 (mix (raw (l.take i)) l[i]) from by
        rw [List.take_add_one]; simp only [hlt, List.getElem?_eq_getElem, Option.toList_some]; rw [raw_snoc]; rfl)
      obtain ⟨c, hc⟩ : ∃ c, c = raw (l.take i) := ⟨_, rfl⟩
      rw [← hc] at rl TK ⊢
      have hx : bits .xor .u32 (c : Int) ((((⟨l.toArray⟩ : ByteArray)[i]).toNat : Int) % 4294967296) = ((mix c l[i] : Nat) : Int) := by
        rw [hbe, Int.emod_eq_of_lt (by omega) (by have := l[i].toNat_lt; omega)]; exact xorI c _ rl (by have := l[i].toNat_lt; omega)
      have HX := Lib.hid hx
      have ml := mix_lt rl l[i]
      obtain ⟨m, hm⟩ : ∃ m, m = mix c l[i] := ⟨_, rfl⟩
      rw [← hm] at hx ml TK
      clear hc hbe HX hm
      go_wp2
      go_loop [3, 16] (fun a b => ∃ k : Nat, k ≤ 8 ∧ a = .int .u32 (it k m) ∧ b = .int .i64 k) (fun _ b => 8 - (intOf b).toNat)
      case atStart => exact ⟨0, by omega, rfl, rfl⟩
      case round =>
        obtain ⟨k, hk, rfl, rfl⟩ := hrel
        have kl := it_lt ml k
        by_cases hkt : k < 8
        · have e1 : decide ((k : Int) < 8) = true := by simp; omega
          obtain ⟨q, hq⟩ : ∃ q, q = it k m := ⟨_, rfl⟩
          have HQ := Lib.hid (show it (k + 1) m = bt q from by rw [hq]; rfl)
          have BI := Lib.hid (bitI q (by rw [hq]; exact kl))
          rw [← hq] at kl ⊢
          clear hq
          go_wp2
          go_round
          case rel => exact ⟨k + 1, by omega, by rw [HQ.out, BI.out], by go_num⟩
          case measure => simp [intOf]; omega
        · have e1 : decide ((k : Int) < 8) = false := by simp; omega
          obtain rfl : k = 8 := by omega
          go_wp2
          go_round
          case rel => exact ⟨i + 1, by omega, by rw [TK.out], by go_num⟩
          case measure => simp [intOf]; omega
    · have d1 : decide ((i : Int) < (l.length : Int)) = false := by simp; omega
      have he : l.take i = l := List.take_of_length_le (by omega)
      rw [he] at rl ⊢
      obtain ⟨q, hq⟩ : ∃ q, q = raw l := ⟨_, rfl⟩
      rw [← hq] at rl ⊢
      have HQ := Lib.hid (show sum l = 4294967295 - q from by rw [hq]; rfl)
      have NI := Lib.hid (notI q rl)
      clear hq he
      go_wp2
      go_ret
      exact ⟨by rw [HQ.out, ← NI.out]; rfl, rfl⟩

set_option maxHeartbeats 1000000 in
theorem sumS (l : List UInt8) (w : World) (hl : l.length ≤ 1048576) : Calls Try.prog 23 #[.string ⟨l.toArray⟩] w fun e w' => e = .returned (.string ⟨(le4 (sum l)).toArray⟩) ∧ Below w.heap.size w w' := by
  go_enter Try.func23, Try.ntmps23
  go_wp2
  go_loop [3, 4] (fun a b => ∃ i : Nat, i ≤ l.length ∧ a = .int .u32 (raw (l.take i)) ∧ b = .int .i64 i) (fun _ b => l.length - (intOf b).toNat)
  case atStart => exact ⟨0, by omega, rfl, rfl⟩
  case round =>
    obtain ⟨i, hi, rfl, rfl⟩ := hrel
    have rl := raw_lt (l.take i)
    by_cases hlt : i < l.length
    · have d1 : decide ((i : Int) < (l.length : Int)) = true := by simp; omega
      have hs : i < (⟨l.toArray⟩ : ByteArray).size := hlt
      have hbe : (⟨l.toArray⟩ : ByteArray)[i] = l[i] := rfl
      have TK := Lib.hid (show raw (l.take (i + 1)) = it 8 (mix (raw (l.take i)) l[i]) from by
        rw [List.take_add_one]; simp only [hlt, List.getElem?_eq_getElem, Option.toList_some]; rw [raw_snoc]; rfl)
      obtain ⟨c, hc⟩ : ∃ c, c = raw (l.take i) := ⟨_, rfl⟩
      rw [← hc] at rl TK ⊢
      have hx : bits .xor .u32 (c : Int) ((((⟨l.toArray⟩ : ByteArray)[i]).toNat : Int) % 4294967296) = ((mix c l[i] : Nat) : Int) := by
        rw [hbe, Int.emod_eq_of_lt (by omega) (by have := l[i].toNat_lt; omega)]; exact xorI c _ rl (by have := l[i].toNat_lt; omega)
      have ml := mix_lt rl l[i]
      obtain ⟨m, hm⟩ : ∃ m, m = mix c l[i] := ⟨_, rfl⟩
      rw [← hm] at hx ml TK
      clear hc hbe hm
      go_wp2
      go_loop [3, 5] (fun a b => ∃ k : Nat, k ≤ 8 ∧ a = .int .u32 (it k m) ∧ b = .int .i64 k) (fun _ b => 8 - (intOf b).toNat)
      case atStart => exact ⟨0, by omega, rfl, rfl⟩
      case round =>
        obtain ⟨k, hk, rfl, rfl⟩ := hrel
        have kl := it_lt ml k
        by_cases hkt : k < 8
        · have e1 : decide ((k : Int) < 8) = true := by simp; omega
          obtain ⟨q, hq⟩ : ∃ q, q = it k m := ⟨_, rfl⟩
          have HQ := Lib.hid (show it (k + 1) m = bt q from by rw [hq]; rfl)
          rw [← hq] at kl ⊢
          have XI := Lib.hid (u32_xor_nat (q / 2) 3988292384 (by omega) (by omega))
          clear hq
          by_cases hz : q % 2 = 1
          · have t1 : ((q : Int) % 2 == 1) = true := by simp; omega
            have HB := Lib.hid (show bt q = (q / 2) ^^^ 3988292384 from if_pos hz)
            clear hz
            go_wp2
            go_round
            case rel => exact ⟨k + 1, by omega, by rw [HQ.out, HB.out, ← XI.out]; rfl, by go_num⟩
            case measure => simp [intOf]; omega
          · have t1 : ((q : Int) % 2 == 1) = false := by simp; omega
            have HB := Lib.hid (show bt q = q / 2 from if_neg hz)
            clear hz
            go_wp2
            go_round
            case rel => exact ⟨k + 1, by omega, by rw [HQ.out, HB.out]; rfl, by go_num⟩
            case measure => simp [intOf]; omega
        · have e1 : decide ((k : Int) < 8) = false := by simp; omega
          obtain rfl : k = 8 := by omega
          go_wp2
          go_round
          case rel => exact ⟨i + 1, by omega, by rw [TK.out], by go_num⟩
          case measure => simp [intOf]; omega
    · have d1 : decide ((i : Int) < (l.length : Int)) = false := by simp; omega
      have he : l.take i = l := List.take_of_length_le (by omega)
      rw [he] at rl ⊢
      obtain ⟨q, hq⟩ : ∃ q, q = raw l := ⟨_, rfl⟩
      rw [← hq] at rl ⊢
      have HQ := Lib.hid (show sum l = 4294967295 - q from by rw [hq]; rfl)
      have hn := notI q rl
      obtain ⟨s, hsq⟩ : ∃ s, s = 4294967295 - q := ⟨_, rfl⟩
      rw [← hsq] at hn HQ
      have sl : s < 4294967296 := by omega
      clear hq he hsq
      have hcv := conv4 w ((s : Int) % 256) ((s : Int) / 256 % 256) ((s : Int) / 65536 % 256) ((s : Int) / 16777216 % 256) (by omega) (by omega) (by omega) (by omega)
      go_wp2
      go_ret
      exact ⟨by rw [HQ.out]; rfl, (Below.refl _ _).alloc (Nat.le_refl _) _⟩

/-- A frame. -/
def frame (l : List UInt8) : List UInt8 := if 100000 < l.length then [] else be4 l.length ++ le4 (sum l) ++ l
set_option maxHeartbeats 1000000 in
theorem headI (l : List UInt8) (w : World) (hl : l.length ≤ 1048576) : Calls Try.prog 24 #[.string ⟨l.toArray⟩] w fun e w' => e = .returned (.string ⟨(be4 l.length ++ le4 (sum l)).toArray⟩) ∧ Below w.heap.size w w' := by
  have SI := Lib.hid (sumI l w hl)
  have sl := sum_lt l
  obtain ⟨s, hs⟩ : ∃ s, s = sum l := ⟨_, rfl⟩
  obtain ⟨n, hn⟩ : ∃ n, n = l.length := ⟨_, rfl⟩
  rw [← hs] at SI sl ⊢
  have HN := Lib.hid hn
  rw [← hn] at hl ⊢
  have el : (⟨l.toArray⟩ : ByteArray).size = n := hn.symm
  clear hs hn
  have hcv := conv8 w ((n : Int) / 16777216) ((n : Int) / 65536) ((n : Int) / 256 % 256) ((n : Int) % 256) ((s : Int) % 256) ((s : Int) / 256 % 256) ((s : Int) / 65536 % 256) ((s : Int) / 16777216) (by omega) (by omega) (by omega) (by omega) (by omega) (by omega) (by omega) (by omega)
  have EB := Lib.hid (show be4 n ++ le4 s = [UInt8.ofNat (n / 16777216), UInt8.ofNat (n / 65536), UInt8.ofNat (n / 256 % 256), UInt8.ofNat (n % 256), UInt8.ofNat (s % 256), UInt8.ofNat (s / 256 % 256), UInt8.ofNat (s / 65536 % 256), UInt8.ofNat (s / 16777216)] from by
    unfold be4 le4; rw [of_mod (n / 16777216), of_mod (n / 65536), of_mod (s / 16777216)]; rfl)
  go_enter Try.func24, Try.ntmps24
  go_wp2_with fail
  refine SI.out.mono ?_
  rintro e w' ⟨rfl, rfl⟩
  go_wp2
  go_ret
  exact ⟨by rw [EB.out]; rfl, (Below.refl _ _).alloc (Nat.le_refl _) _⟩
set_option maxHeartbeats 1000000 in
theorem frameI (l : List UInt8) (w : World) (hl : l.length ≤ 1048576) : Calls Try.prog 11 #[.string ⟨l.toArray⟩] w fun e w' => e = .returned (.string ⟨(frame l).toArray⟩) ∧ Below w.heap.size w w' := by
  by_cases h : 100000 < l.length
  · have d1 : decide ((100000 : Int) < (l.length : Int)) = true := by simp; omega
    have F := Lib.hid (show frame l = [] from if_pos h)
    clear h
    go_enter Try.func11, Try.ntmps11
    go_wp2
    go_ret
    exact ⟨by rw [F.out]; rfl, Below.refl _ _⟩
  · have d1 : decide ((100000 : Int) < (l.length : Int)) = false := by simp; omega
    have F := Lib.hid (show frame l = be4 l.length ++ le4 (sum l) ++ l from if_neg h)
    have HI := Lib.hid (headI l w hl)
    obtain ⟨q, hq⟩ : ∃ q, q = be4 l.length ++ le4 (sum l) := ⟨_, rfl⟩
    rw [← hq] at F HI
    have ql : q.length = 8 := by rw [hq]; rfl
    clear h hq
    go_enter Try.func11, Try.ntmps11
    go_wp2_with fail
    refine HI.out.mono ?_
    rintro e w' ⟨rfl, b⟩
    go_wp2
    go_ret
    exact ⟨by rw [F.out, ← cat]; rfl, b⟩
set_option maxHeartbeats 1000000 in
theorem frameS (l : List UInt8) (w : World) (hl : l.length ≤ 1048576) : Calls Try.prog 13 #[.string ⟨l.toArray⟩] w fun e w' => e = .returned (.string ⟨(frame l).toArray⟩) ∧ Below w.heap.size w w' := by
  by_cases h : 100000 < l.length
  · have d1 : decide ((100000 : Int) < (l.length : Int)) = true := by simp; omega
    have F := Lib.hid (show frame l = [] from if_pos h)
    clear h
    go_enter Try.func13, Try.ntmps13
    go_wp2
    go_ret
    exact ⟨by rw [F.out]; rfl, Below.refl _ _⟩
  · have d1 : decide ((100000 : Int) < (l.length : Int)) = false := by simp; omega
    have F := Lib.hid (show frame l = be4 l.length ++ le4 (sum l) ++ l from if_neg h)
    have HI := Lib.hid (fun w0 => sumS l w0 hl)
    obtain ⟨q, hq⟩ : ∃ q, q = le4 (sum l) := ⟨_, rfl⟩
    rw [← hq] at F HI
    have ql : q.length = 4 := by rw [hq]; rfl
    obtain ⟨n, hn⟩ : ∃ n, n = l.length := ⟨_, rfl⟩
    have el : (⟨l.toArray⟩ : ByteArray).size = n := hn.symm
    rw [← hn] at F hl d1
    clear h hq hn
    have wb : ∀ z : Int, 0 ≤ IntKind.u8.wrap z ∧ IntKind.u8.wrap z ≤ 255 := fun z => by rw [IntKind.wrap_u8']; omega
    have CA := Lib.hid (fun w0 => conv4 w0 (IntKind.u8.wrap ((n : Int) / 16777216)) (IntKind.u8.wrap ((n : Int) / 65536)) (IntKind.u8.wrap ((n : Int) / 256)) (IntKind.u8.wrap (n : Int)) (wb _) (wb _) (wb _) (wb _))
    have hcA := CA.out
    have hcB := fun w0 : World => conv4g (World.drew (w0.alloc (.cells #[.int .u8 (IntKind.u8.wrap ((n : Int) / 16777216)), .int .u8 (IntKind.u8.wrap ((n : Int) / 65536)), .int .u8 (IntKind.u8.wrap ((n : Int) / 256)), .int .u8 (IntKind.u8.wrap (n : Int))] 5))) w0.heap.size (IntKind.u8.wrap ((n : Int) / 16777216)) (IntKind.u8.wrap ((n : Int) / 65536)) (IntKind.u8.wrap ((n : Int) / 256)) (IntKind.u8.wrap (n : Int)) (wb _) (wb _) (wb _) (wb _) (gen.box_cell (Below.refl _ _).drew 0 rfl) (gen.box_cell (Below.refl _ _).drew 1 rfl) (gen.box_cell (Below.refl _ _).drew 2 rfl) (gen.box_cell (Below.refl _ _).drew 3 rfl)
    have CC := Lib.hid (fun (w0 w4 : World) (h : Below (w0.heap.size + 1) (w0.alloc (.cells #[.int .u8 (IntKind.u8.wrap ((n : Int) / 16777216)), .int .u8 (IntKind.u8.wrap ((n : Int) / 65536)), .int .u8 (IntKind.u8.wrap ((n : Int) / 256)), .int .u8 (IntKind.u8.wrap (n : Int))] 5)) w4) => conv4g w4 w0.heap.size (IntKind.u8.wrap ((n : Int) / 16777216)) (IntKind.u8.wrap ((n : Int) / 65536)) (IntKind.u8.wrap ((n : Int) / 256)) (IntKind.u8.wrap (n : Int)) (wb _) (wb _) (wb _) (wb _) (gen.box_cell h 0 rfl) (gen.box_cell h 1 rfl) (gen.box_cell h 2 rfl) (gen.box_cell h 3 rfl))
    have EB := Lib.hid (show be4 n = [UInt8.ofNat (n / 16777216), UInt8.ofNat (n / 65536), UInt8.ofNat ((n : Int) / 256 % 256).toNat, UInt8.ofNat ((n : Int) % 256).toNat] from by
      unfold be4; rw [of_mod (n / 16777216), of_mod (n / 65536)]; rfl)
    clear wb
    go_enter Try.func13, Try.ntmps13
    go_wp2
    go_region_with ((go_at_call 23; (refine (HI.out _).mono ?_); rintro e w4 ⟨rfl, b4⟩; have B4 := Lib.hid b4; (first | have hcC := CC.out w w4 (gen.box_step (Below.refl _ _).drew b4) | skip); clear b4))
    all_goals
      go_wp2
      go_ret
      refine ⟨Eq.trans (b := Ending.returned (.string ((⟨[UInt8.ofNat (n / 16777216), UInt8.ofNat (n / 65536), UInt8.ofNat ((n : Int) / 256 % 256).toNat, UInt8.ofNat ((n : Int) % 256).toNat].toArray⟩ : ByteArray) ++ ⟨q.toArray⟩ ++ ⟨l.toArray⟩))) rfl (ret_str (by rw [F.out, EB.out, ← cat, ← cat])), ?_⟩
      first
      | exact (((Below.refl w.heap.size w).alloc (Nat.le_refl _) _).drew).trans (B4.out.mono (by show _ ≤ (w.alloc _).heap.size; simp))
      | exact ((Below.refl w.heap.size w).drew.trans B4.out).alloc B4.out.size _
end Go.Proofs.Ytibkoacphfdlkaa.crc
