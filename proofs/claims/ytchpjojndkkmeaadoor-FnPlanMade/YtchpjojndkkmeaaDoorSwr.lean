/-
  Plain helpers of this seat's proofs: the contract of the exchange of two blocks of the stable sort. Conditions: none.
-/
import Derived.Test.YtchpjojndkkmeaaDoorSrt
namespace Go.Proofs.YtchpjojndkkmeaaDoor.srt
open Go.Shelf Go.RowKit Go.Lib Go.Sort
open mrg (El)

theorem swr_step (f : Nat → El) (dk : Array El) (a b i : Nat) (hab : a + i < b) (hb : b + i < dk.size) (h : mrg.at' dk = mrg.swr f a b i) : mrg.at' (swp dk (a + i) (b + i)) = mrg.swr f a b (i + 1) := by
  funext k
  rw [mrg.at_swp dk (a + i) (b + i) k (by omega) (by omega) (by omega), h]
  unfold mrg.swr
  by_cases c1 : k = a + i
  · subst c1
    rw [if_pos rfl, if_neg (by omega), if_neg (by omega), if_pos (by omega)]; congr 1; omega
  · rw [if_neg c1]
    by_cases c2 : k = b + i
    · subst c2
      rw [if_pos rfl, if_neg (by omega), if_neg (by omega), if_neg (by omega), if_pos (by omega)]; congr 1; omega
    · rw [if_neg c2]
      by_cases c3 : a ≤ k ∧ k < a + i
      · rw [if_pos c3, if_pos (by omega)]
      · rw [if_neg c3, if_neg (show ¬ (a ≤ k ∧ k < a + (i + 1)) by omega)]
        by_cases c4 : b ≤ k ∧ k < b + i
        · rw [if_pos c4, if_pos (by omega)]
        · rw [if_neg c4, if_neg (by omega)]
theorem swr_zero (f : Nat → El) (a b : Nat) : f = mrg.swr f a b 0 := by
  funext k; unfold mrg.swr; rw [if_neg (by omega), if_neg (by omega)]

/-- The two cells of an element. -/
structure Cells (w : World) (blk off i : Nat) (x : El) : Prop where
  c0 : w.cell? ⟨blk, off + i * 2, none⟩ = some (.int .i64 x.1)
  c1 : w.cell? ⟨blk, off + i * 2 + 1, none⟩ = some (.int .i64 x.2)
  f0 : w.frozen? ⟨blk, off + i * 2, none⟩ = false
  f1 : w.frozen? ⟨blk, off + i * 2 + 1, none⟩ = false
theorem cellsOf {w : World} {blk off i : Nat} {d : Array El} (h : HoldsK enc 2 w blk off d) (hi : i < d.size) : Cells w blk off i d[i]! := by
  have x0 := (h.cell (i := i) (c := 0) hi (by omega))
  have x1 := (h.cell (i := i) (c := 1) hi (by omega))
  exact ⟨x0.1, x1.1, x0.2, x1.2⟩
theorem xch (W : World) (blk off m i j : Nat) (dk : Array El) (os : Array Obj) (hblk : blk < W.heap.size) (hi : i < dk.size) (hj : j < dk.size) :
    (((((sortWorldK enc 2 W blk off m dk os).setCell ⟨blk, off + i * 2, none⟩ (.int .i64 dk[j]!.1)).setCell ⟨blk, off + i * 2 + 1, none⟩ (.int .i64 dk[j]!.2)).setCell ⟨blk, off + j * 2, none⟩ (.int .i64 dk[i]!.1)).setCell ⟨blk, off + j * 2 + 1, none⟩ (.int .i64 dk[i]!.2)).drew
      = sortWorldK enc 2 W blk off (m + 1) (swp dk i j) os := by
  have h := sortWorldK_swp_c enc 2 W blk off enc_len m dk os hblk i j hi hj
  rw [← h]
  generalize sortWorldK enc 2 W blk off m dk os = w
  rfl

set_option maxHeartbeats 1000000 in
theorem swapRange (blk off cap a b n : Nat) (d : Array El) (W : World) (hH : HoldsK enc 2 W blk off d) (hblk : blk < W.heap.size) (hab : a + n ≤ b) (hb : b + n ≤ d.size) (hsz : d.size ≤ 1048576) (g : Value) :
    Calls Tryd.prog 80 #[.slice (some ⟨blk, off, none⟩) d.size cap, .int .i64 a, .int .i64 b, .int .i64 n, g] W (Post W blk off d fun d' => mrg.at' d' = mrg.swr (mrg.at' d) a b n) := by
  have HH := Lib.hid hH
  have ST := Lib.hid (sortWorldK_start enc 2 W blk off d hH)
  clear hH
  go_enter Tryd.func80, Tryd.ntmps80
  go_wp2
  go_loopw [10] (fun vi wr => ∃ (i m : Nat) (dk : Array El) (os : Array Obj), vi = .int .i64 i ∧ i ≤ n ∧ dk.size = d.size ∧ wr = sortWorldK enc 2 W blk off m dk os ∧ Hid (mrg.at' dk = mrg.swr (mrg.at' d) a b i)) (fun vi _ => n - (intOf vi).toNat)
  case atStart => exact ⟨0, 0, d, #[], by go_num, by omega, rfl, ST.out.symm, swr_zero _ _ _⟩
  case round =>
    obtain ⟨i, m, dk, os, rfl, hi, hsk, rfl, HS⟩ := hrel
    by_cases hlt : i < n
    · have u1 : decide (i < n) = true := by simp; omega
      have hHd : HoldsK enc 2 (sortWorldK enc 2 W blk off m dk os).drew blk off dk := holdsK_sortWorldK enc 2 W blk off m d dk os hblk HH.out hsk
      obtain ⟨x, hx⟩ : ∃ x, dk[a + i]! = x := ⟨_, rfl⟩
      obtain ⟨y, hy⟩ : ∃ y, dk[b + i]! = y := ⟨_, rfl⟩
      obtain ⟨wq, hwq⟩ : ∃ wq, wq = sortWorldK enc 2 W blk off m dk os := ⟨_, rfl⟩
      rw [← hwq] at hHd ⊢
      have CX := cellsOf hHd (i := a + i) (by omega)
      have CY := cellsOf hHd (i := b + i) (by omega)
      rw [hx] at CX
      rw [hy] at CY
      obtain ⟨x0, x1, fx0, fx1⟩ := CX
      obtain ⟨y0, y1, fy0, fy1⟩ := CY
      simp only [World.cell?_drew, World.frozen?_drew] at x0 x1 y0 y1 fx0 fx1 fy0 fy1
      have HW := Lib.hid hwq
      have HX := Lib.hid (And.intro hx hy)
      clear hwq hHd hx hy
      have q1 : (a : Int) + (i : Int) < (d.size : Int) := by omega
      have q2 : (b : Int) + (i : Int) < (d.size : Int) := by omega
      have q3 : ((a : Int) + (i : Int)).toNat = a + i := by omega
      have q4 : ((b : Int) + (i : Int)).toNat = b + i := by omega
      have mixed := Tryd.insIv.mixed
      go_wp2_with fail
      go_big_region_o
      all_goals go_wp2
      go_roundw
      case rel =>
        refine ⟨i + 1, m + 1, swp dk (a + i) (b + i), os, by go_num, by omega, by rw [size_swp]; exact hsk, ?_, (show Hid _ from swr_step _ dk a b i (by omega) (by omega) HS.out)⟩
        rw [HW.out, ← HX.out.1, ← HX.out.2]
        exact xch W blk off m (a + i) (b + i) dk os hblk (by omega) (by omega)
      case measure => simp [intOf]; omega
    · have u1 : decide (i < n) = false := by simp; omega
      obtain rfl : i = n := by omega
      go_wp2
      go_end0
      exact ⟨rfl, m, dk, os, rfl, hsk, HS.out⟩
end Go.Proofs.YtchpjojndkkmeaaDoor.srt
