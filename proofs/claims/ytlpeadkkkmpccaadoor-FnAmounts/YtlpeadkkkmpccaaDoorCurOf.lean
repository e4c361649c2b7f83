/-
  Plain helpers: contracts of the two CurOf functions. Conditions: none.
-/
import Derived.Test.YtlpeadkkkmpccaaDoorBase
namespace Go.Proofs.YtlpeadkkkmpccaaDoor.curOf
open Go.ChangeShapes Go.WideShapes Go.ChangeAt Go.RowKit

def cod (k : Nat) : List UInt8 := match k with
  | 0 => [69, 85, 82]
  | 1 => [85, 83, 68]
  | 2 => [74, 80, 89]
  | 3 => [71, 66, 80]
  | 4 => [75, 87, 68]
  | _ => [67, 72, 70]

def curIx (s : List UInt8) : Int := if s = cod 0 then 0 else if s = cod 1 then 1 else if s = cod 2 then 2 else if s = cod 3 then 3 else if s = cod 4 then 4 else if s = cod 5 then 5 else -1

theorem ix_eq {s : List UInt8} {k : Nat} (hk : k < 6) (hne : ∀ j, j < k → s ≠ cod j) (he : s = cod k) : curIx s = k := by
  unfold curIx
  obtain rfl | rfl | rfl | rfl | rfl | rfl : k = 0 ∨ k = 1 ∨ k = 2 ∨ k = 3 ∨ k = 4 ∨ k = 5 := by omega
  all_goals (subst he; decide)
theorem ix_none {s : List UInt8} (hne : ∀ j, j < 6 → s ≠ cod j) : curIx s = -1 := by
  unfold curIx
  rw [if_neg (hne 0 (by omega)), if_neg (hne 1 (by omega)), if_neg (hne 2 (by omega)), if_neg (hne 3 (by omega)), if_neg (hne 4 (by omega)), if_neg (hne 5 (by omega))]
theorem ne_succ {s : List UInt8} {k : Nat} (hne : ∀ j, j < k → s ≠ cod j) (he : ¬ s = cod k) : ∀ j, j < k + 1 → s ≠ cod j := fun j hj => by
  by_cases e : j = k
  · subst e; exact he
  · exact hne j (by omega)
theorem ret_int {a b : Int} (h : a = b) : Ending.returned (.int .i64 a) = .returned (.int .i64 b) := by rw [h]

set_option maxHeartbeats 1000000 in
theorem impl (s : ByteArray) (w : World) (c : base.Cur w) : Calls Tryd.prog 14 #[.string s] w fun e w' => e = .returned (.int .i64 (curIx s.toList)) ∧ w = w' := by
  obtain ⟨lt, c0, c1, c2, c3, c4, c5, c6, c7, c8, c9, c10, c11⟩ := c
  go_enter Tryd.func14, Tryd.ntmps14
  go_wp2
  go_loop [4] (fun i => ∃ k : Nat, k ≤ 6 ∧ i = .int .i64 k ∧ ∀ j, j < k → s.toList ≠ cod j) (fun i => 6 - (intOf i).toNat)
  case atStart => exact ⟨0, by omega, rfl, fun j h => by omega⟩
  case round =>
    obtain ⟨k, hk, rfl, hne⟩ := hrel
    obtain rfl | hk : k = 6 ∨ k < 6 := by omega
    · have HN := Lib.hid hne; clear hne
      go_wp2
      go_ret
      exact ⟨ret_int (ix_none HN.out).symm, rfl⟩
    · by_cases he : s.toList = cod k
      · have HI := Lib.hid (ix_eq hk hne he)
        have hb : (cod k == s.toList) = true := by simp [he]
        clear hne he
        obtain rfl | rfl | rfl | rfl | rfl | rfl : k = 0 ∨ k = 1 ∨ k = 2 ∨ k = 3 ∨ k = 4 ∨ k = 5 := by omega
        all_goals
          simp only [cod] at hb
          go_wp2
          go_ret
          exact ⟨ret_int HI.out.symm, rfl⟩
      · have hb : (cod k == s.toList) = false := by
          have := Ne.symm (a := s.toList) he
          simpa using this
        have HN := Lib.hid (ne_succ hne he)
        clear hne he
        obtain rfl | rfl | rfl | rfl | rfl | rfl : k = 0 ∨ k = 1 ∨ k = 2 ∨ k = 3 ∨ k = 4 ∨ k = 5 := by omega
        all_goals
          simp only [cod] at hb
          go_wp2
          exact ⟨⟨_, by omega, by go_num, HN.out⟩, by simp [intOf]⟩

set_option maxHeartbeats 1000000 in
theorem spec (s : ByteArray) (w : World) (c : base.Cur w) : Calls Tryd.prog 16 #[.string s] w fun e w' => e = .returned (.int .i64 (curIx s.toList)) ∧ Below w.heap.size w w' := by
  obtain ⟨lt, c0, c1, c2, c3, c4, c5, c6, c7, c8, c9, c10, c11⟩ := c
  go_enter Tryd.func16, Tryd.ntmps16
  go_wp2
  go_loopw [3] (fun i wr => Below w.heap.size w wr ∧ ∃ k : Nat, k ≤ 6 ∧ i = .int .i64 k ∧ ∀ j, j < k → s.toList ≠ cod j) (fun i _ => 6 - (intOf i).toNat)
  case atStart => exact ⟨Below.refl _ _, 0, by omega, rfl, fun j h => by omega⟩
  case round =>
    obtain ⟨hB, k, hk, rfl, hne⟩ := hrel
    obtain rfl | hk : k = 6 ∨ k < 6 := by omega
    · have HN := Lib.hid hne; clear hne
      go_wp2
      go_ret
      exact ⟨ret_int (ix_none HN.out).symm, hB⟩
    · by_cases he : s.toList = cod k
      · have HI := Lib.hid (ix_eq hk hne he)
        have hb : (cod k == s.toList) = true := by simp [he]
        clear hne he
        obtain rfl | rfl | rfl | rfl | rfl | rfl : k = 0 ∨ k = 1 ∨ k = 2 ∨ k = 3 ∨ k = 4 ∨ k = 5 := by omega
        all_goals
          simp only [cod] at hb
          go_wp2
          go_ret
          exact ⟨ret_int HI.out.symm, Below.alloc hB hB.size _⟩
      · have hb : (cod k == s.toList) = false := by
          have := Ne.symm (a := s.toList) he
          simpa using this
        have HN := Lib.hid (ne_succ hne he)
        clear hne he
        obtain rfl | rfl | rfl | rfl | rfl | rfl : k = 0 ∨ k = 1 ∨ k = 2 ∨ k = 3 ∨ k = 4 ∨ k = 5 := by omega
        all_goals
          simp only [cod] at hb
          go_wp2
          exact ⟨⟨Below.alloc hB hB.size _, _, by omega, by go_num, HN.out⟩, by simp [intOf]⟩

end Go.Proofs.YtlpeadkkkmpccaaDoor.curOf
