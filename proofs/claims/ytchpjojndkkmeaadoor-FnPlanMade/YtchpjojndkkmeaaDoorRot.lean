/-
  Plain helpers of this seat's proofs: the contract of the rotation of the stable sort. Conditions: none.
-/
import Derived.Test.YtchpjojndkkmeaaDoorSwr
namespace Go.Proofs.YtchpjojndkkmeaaDoor.srt
open Go.Shelf Go.RowKit Go.Lib Go.Sort
open mrg (El)

theorem Post.on {W : World} {blk off n : Nat} {d dk : Array El} {os : Array Obj} {p : Array El → Prop} {e : Ending} {w' : World} (hblk : blk < W.heap.size) (hs : dk.size = d.size)
    (h : Post (sortWorldK enc 2 W blk off n dk os) blk off dk p e w') : Post W blk off d p e w' := by
  obtain ⟨he, m, d', os', hw, hd, hp⟩ := h
  exact ⟨he, n + m, d', os ++ os', by rw [hw]; exact sortWorldK_on enc 2 W blk off n m dk d' os os' hblk hd, by rw [hd, hs], hp⟩
theorem Post.weak {W : World} {blk off : Nat} {d : Array El} {p q : Array El → Prop} {e : Ending} {w' : World} (h : Post W blk off d p e w') (k : ∀ d', d'.size = d.size → p d' → q d') : Post W blk off d q e w' := by
  obtain ⟨he, m, d', os', hw, hd, hp⟩ := h
  exact ⟨he, m, d', os', hw, hd, k d' hd hp⟩
theorem blk_on {W : World} {blk off n : Nat} {dk : Array El} {os : Array Obj} (hblk : blk < W.heap.size) : blk < (sortWorldK enc 2 W blk off n dk os).heap.size :=
  Nat.lt_of_lt_of_le hblk (size_sortWorldK_c enc 2 W blk off n dk os)

/-- The row of a sort: where it lies, what it held first. -/
structure Base (W : World) (blk off : Nat) (d : Array El) : Prop where
  hold : HoldsK enc 2 W blk off d
  blk : blk < W.heap.size
  small : d.size ≤ 1048576
theorem Base.on {W : World} {blk off n : Nat} {d dk : Array El} {os : Array Obj} (B : Base W blk off d) (hs : dk.size = d.size) : Base (sortWorldK enc 2 W blk off n dk os) blk off dk :=
  ⟨holdsK_sortWorldK enc 2 W blk off n d dk os B.blk B.hold hs, blk_on B.blk, by rw [hs]; exact B.small⟩

theorem swapAt (blk off cap a b c n : Nat) (d dk : Array El) (os : Array Obj) (W : World) (B : Base W blk off d) (hs : dk.size = d.size) (hab : a + n ≤ b) (hb : b + n ≤ d.size) (g : Value) :
    Calls Tryd.prog 80 #[.slice (some ⟨blk, off, none⟩) d.size cap, .int .i64 a, .int .i64 b, .int .i64 n, g] (sortWorldK enc 2 W blk off c dk os) (Post W blk off d fun d' => mrg.at' d' = mrg.swr (mrg.at' dk) a b n) := by
  have B' := B.on (n := c) (os := os) hs
  have h := swapRange blk off cap a b n dk (sortWorldK enc 2 W blk off c dk os) B'.hold B'.blk hab (by omega) B'.small g
  rw [hs] at h
  exact h.mono fun e w' k => Post.on B.blk hs k

set_option maxHeartbeats 2000000 in
theorem rotate (blk off cap a m b : Nat) (d : Array El) (W : World) (B : Base W blk off d) (ham : a < m) (hmb : m < b) (hb : b ≤ d.size) (g : Value) :
    Calls Tryd.prog 79 #[.slice (some ⟨blk, off, none⟩) d.size cap, .int .i64 a, .int .i64 m, .int .i64 b, g] W (Post W blk off d fun d' => mrg.at' d' = mrg.rot (mrg.at' d) a m b) := by
  have BB := Lib.hid B
  have ST := Lib.hid (sortWorldK_start enc 2 W blk off d B.hold)
  have hsz := B.small
  clear B
  obtain ⟨i0, hi0⟩ : ∃ i0, m = a + i0 := ⟨m - a, by omega⟩
  obtain ⟨j0, hj0⟩ : ∃ j0, b = m + j0 := ⟨b - m, by omega⟩
  have e1 : (m : Int) - (a : Int) = (i0 : Int) := by omega
  have e2 : (b : Int) - (m : Int) = (j0 : Int) := by omega
  have HM := Lib.hid (And.intro hi0 hj0)
  clear hi0 hj0
  go_enter Tryd.func79, Tryd.ntmps79
  go_wp2
  clear e1 e2
  go_loopw [10, 11] (fun vi vj wr => ∃ (i j n : Nat) (dk : Array El) (os : Array Obj), vi = .int .i64 i ∧ vj = .int .i64 j ∧ 0 < i ∧ 0 < j ∧ i ≤ m ∧ m + j ≤ d.size ∧ dk.size = d.size ∧ wr = sortWorldK enc 2 W blk off n dk os ∧ Hid (mrg.rot (mrg.at' dk) (m - i) m (m + j) = mrg.rot (mrg.at' d) a m b)) (fun vi vj _ => (intOf vi).toNat + (intOf vj).toNat)
  case atStart =>
    obtain ⟨hm, hj⟩ := HM.out
    refine ⟨i0, j0, 0, d, #[], rfl, rfl, by omega, by omega, by omega, by omega, rfl, ST.out.symm, (show Hid _ from ?_)⟩
    show _ = _
    rw [show m - i0 = a by omega, ← hj]
  case round =>
    obtain ⟨i, j, n, dk, os, rfl, rfl, hi, hj, him, hjm, hsk, rfl, HR⟩ := hrel
    rcases Nat.lt_trichotomy i j with h | h | h
    · have t1 : ((i : Int) != (j : Int)) = true := by simp; omega
      have t2 : decide (j < i) = false := by simp; omega
      obtain ⟨p, hp⟩ : ∃ p, p + i = m := ⟨m - i, by omega⟩
      obtain ⟨s, hs⟩ : ∃ s, s + i = j := ⟨j - i, by omega⟩
      have e1 : (m : Int) - (i : Int) = (p : Int) := by omega
      have e2 : (m : Int) + (j : Int) - (i : Int) = ((m + s : Nat) : Int) := by omega
      have e3 : (j : Int) - (i : Int) = (s : Int) := by omega
      have K := Lib.hid (swapAt blk off cap p (m + s) n i d dk os W BB.out hsk (by omega) (by omega) g)
      have R := Lib.hid (mrg.rot_lt (mrg.at' dk) m i j h him hi)
      have HP := Lib.hid (And.intro hp hs)
      clear hp hs
      go_wp2_with fail
      refine K.out.mono ?_
      rintro e w' ⟨rfl, n2, d2, os2, rfl, hs2, hp2⟩
      have P2 := Lib.hid hp2
      clear hp2
      go_wp2
      go_roundw
      case rel =>
        obtain ⟨hp, hs⟩ := HP.out
        refine ⟨i, s, n2, d2, os2, rfl, by go_num, hi, by omega, him, by omega, hs2, rfl, (show Hid _ from ?_)⟩
        show _ = _
        rw [P2.out, ← HR.out, ← R.out, show m - i = p by omega, show m + j - i = m + s by omega, show j - i = s by omega]
      case measure =>
        obtain ⟨hp, hs⟩ := HP.out
        simp [intOf]; omega
    · have t1 : ((i : Int) != (j : Int)) = false := by simp; omega
      obtain ⟨p, hp⟩ : ∃ p, p + i = m := ⟨m - i, by omega⟩
      have e1 : (m : Int) - (i : Int) = (p : Int) := by omega
      have K := Lib.hid (swapAt blk off cap p m n i d dk os W BB.out hsk (by omega) (by omega) g)
      have R := Lib.hid (mrg.rot_eq (mrg.at' dk) m i him)
      have HP := Lib.hid (And.intro hp h)
      clear hp h
      go_wp2_with fail
      refine K.out.mono ?_
      rintro e w' ⟨rfl, n2, d2, os2, rfl, hs2, hp2⟩
      have P2 := Lib.hid hp2
      clear hp2
      go_wp2
      go_end0
      obtain ⟨hp, hh⟩ := HP.out
      refine ⟨rfl, n2, d2, os2, rfl, hs2, ?_⟩
      show _ = _
      rw [P2.out, ← HR.out, show p = m - i by omega, R.out, hh]
    · have t1 : ((i : Int) != (j : Int)) = true := by simp; omega
      have t2 : decide (j < i) = true := by simp; omega
      obtain ⟨p, hp⟩ : ∃ p, p + i = m := ⟨m - i, by omega⟩
      obtain ⟨s, hs⟩ : ∃ s, s + j = i := ⟨i - j, by omega⟩
      have e1 : (m : Int) - (i : Int) = (p : Int) := by omega
      have e3 : (i : Int) - (j : Int) = (s : Int) := by omega
      have K := Lib.hid (swapAt blk off cap p m n j d dk os W BB.out hsk (by omega) (by omega) g)
      have R := Lib.hid (mrg.rot_gt (mrg.at' dk) m i j h him hj)
      have HP := Lib.hid (And.intro hp hs)
      clear hp hs
      go_wp2_with fail
      refine K.out.mono ?_
      rintro e w' ⟨rfl, n2, d2, os2, rfl, hs2, hp2⟩
      have P2 := Lib.hid hp2
      clear hp2
      go_wp2
      go_roundw
      case rel =>
        obtain ⟨hp, hs⟩ := HP.out
        refine ⟨s, j, n2, d2, os2, by go_num, rfl, by omega, hj, by omega, hjm, hs2, rfl, (show Hid _ from ?_)⟩
        show _ = _
        rw [P2.out, ← HR.out, ← R.out, show m - i = p by omega, show i - j = s by omega]
      case measure =>
        obtain ⟨hp, hs⟩ := HP.out
        simp [intOf]; omega
end Go.Proofs.YtchpjojndkkmeaaDoor.srt
