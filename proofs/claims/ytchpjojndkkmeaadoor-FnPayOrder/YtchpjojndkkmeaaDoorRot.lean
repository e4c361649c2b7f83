/-
  Plain helpers of this seat's proofs: the contract of the rotation of the stable sort. Conditions: none.
-/
import Derived.Test.YtchpjojndkkmeaaDoorRows
import Derived.Test.YtchpjojndkkmeaaDoorLift
import Derived.Test.YtchpjojndkkmeaaDoorMrg
import Derived.Test.YtchpjojndkkmeaaDoorShelf2
import Derived.Shelf.SlSortFuncK.ComposeK
namespace Go.Proofs.YtchpjojndkkmeaaDoor.srt
open Go.Shelf Go.RowKit Go.Lib Go.Sort
open mrg (El)

theorem nan (a : Int) (W : World) : Calls Tryd.prog 69 #[.int .i64 a] W fun e w' => e = .returned (.bool false) ∧ W = w' := by
  have t : (a != a) = false := by simp
  go_enter Tryd.func69, Tryd.ntmps69
  go_wp2
  go_ret
  exact ⟨rfl, rfl⟩
def cmp2 (a b : Int) : Int := if a < b then -1 else if b < a then 1 else 0
theorem compare (a b : Int) (W : World) : Calls Tryd.prog 49 #[.int .i64 a, .int .i64 b] W fun e w' => e = .returned (.int .i64 (cmp2 a b)) ∧ W = w' := by
  by_cases h1 : a < b
  · have e : cmp2 a b = -1 := if_pos h1
    rw [e]
    clear e
    have t1 : decide (a < b) = true := by simp; omega
    go_enter Tryd.func49, Tryd.ntmps49
    go_wp2_with (go_at_call 69; refine (nan _ _).mono ?_; rintro e w' ⟨rfl, rfl⟩)
    go_ret
    exact ⟨rfl, rfl⟩
  · have t1 : decide (a < b) = false := by simp; omega
    by_cases h2 : b < a
    · have e : cmp2 a b = 1 := by unfold cmp2; rw [if_neg h1, if_pos h2]
      rw [e]
      clear e
      have t2 : decide (b < a) = true := by simp; omega
      clear h1
      go_enter Tryd.func49, Tryd.ntmps49
      go_wp2_with (go_at_call 69; refine (nan _ _).mono ?_; rintro e w' ⟨rfl, rfl⟩)
      go_ret
      exact ⟨rfl, rfl⟩
    · have e : cmp2 a b = 0 := by unfold cmp2; rw [if_neg h1, if_neg h2]
      rw [e]
      clear e
      have t2 : decide (b < a) = false := by simp; omega
      clear h1 h2
      go_enter Tryd.func49, Tryd.ntmps49
      go_wp2_with (go_at_call 69; refine (nan _ _).mono ?_; rintro e w' ⟨rfl, rfl⟩)
      go_ret
      exact ⟨rfl, rfl⟩

/-- An element's two cells. -/
def enc (x : El) : List Value := [.int .i64 x.1, .int .i64 x.2]
theorem enc_len (x : El) : (enc x).length = 2 := rfl
theorem enc_one (x : El) : ∀ v ∈ enc x, v.oneCell' = true := fun v hv => by
  simp [enc] at hv; rcases hv with rfl | rfl <;> rfl

set_option maxHeartbeats 1000000 in
theorem closure (x y : El) (W : World) : Calls Tryd.prog 48 #[.agg #[.int .i64 x.1, .int .i64 x.2], .agg #[.int .i64 y.1, .int .i64 y.2]] W fun e w' => e = .returned (.int .i64 (mrg.cf x y)) ∧ ∃ q os', w' = grow (W.drewN q) os' := by
  have hcon := fun W' => compare y.2 x.2 W'
  have e : cmp2 y.2 x.2 = mrg.cf x y := rfl
  rw [e] at hcon
  clear e
  generalize mrg.cf x y = r at hcon ⊢
  go_enter Tryd.func48, Tryd.ntmps48
  go_wp2_with (go_at_call 49; refine (hcon _).mono ?_; rintro e w' ⟨rfl, rfl⟩)
  go_ret
  exact ⟨rfl, 0, _, by rw [alloc_eq_grow, alloc_eq_grow, grow_grow]; rfl⟩
theorem enters : ∀ args w, (callFunc 48 args).run Tryd.prog w = .ok (.enter 48 args) w := enters_of Tryd.func48 (by kernel_rfl) rfl
theorem cmpLays (blk off size : Nat) (w : World) : CmpLays Tryd.prog 48 #[] enc 2 mrg.cf blk off size w := fun _ _ _ _ x y => closure x y _

/-- What a piece of the sort leaves: the row holds elements of which p holds; nothing else old has turned. -/
def Post (W : World) (blk off : Nat) (d : Array El) (p : Array El → Prop) (e : Ending) (w' : World) : Prop :=
  e = .returned (.tuple #[]) ∧ ∃ n d' os, w' = sortWorldK enc 2 W blk off n d' os ∧ d'.size = d.size ∧ p d'

theorem ins (blk off cap a b : Nat) (d : Array El) (W : World) (hH : HoldsK enc 2 W blk off d) (hblk : blk < W.heap.size) (hab : a ≤ b) (hb : b ≤ d.size) (hsz : d.size ≤ 1048576)
    (hq : ∀ k j, a ≤ k → k < j → j < b → (mrg.at' d k).1 < (mrg.at' d j).1) :
    Calls Tryd.prog 75 #[.slice (some ⟨blk, off, none⟩) d.size cap, .int .i64 a, .int .i64 b, .func (.func 48) #[] #[]] W (Post W blk off d fun d' => mrg.Srt a b (mrg.at' d') ∧ mrg.Frm a b (mrg.at' d) (mrg.at' d')) := by
  have h := AnyQ.insertionSortCmpFunc Tryd.insIv 2 Tryd.isAgg74 Tryd.sizeOf74 enc enc_len enc_one mrg.cf 48 #[] blk off cap a b d W enters (cmpLays blk off d.size W) hH hblk hab hb (by omega)
  obtain ⟨s1, s2, s3⟩ := mrg.ins_sort d a b hab hb hq
  exact h.mono fun e w' ⟨he, n, os, hw⟩ => ⟨he, n, _, os, hw, s1, s2, s3⟩
end Go.Proofs.YtchpjojndkkmeaaDoor.srt

namespace Go.Proofs.YtchpjojndkkmeaaDoor.srt
open Go.Shelf Go.RowKit Go.Lib Go.Sort
open mrg (El)

theorem swr_step (f : Nat → El) (dk : Array El) (a b i : Nat) (hab : a + i < b) (hb : b + i < dk.size) (h : mrg.at' dk = mrg.swr f a b i) : mrg.at' (swp dk (a + i) (b + i)) = mrg.swr f a b (i + 1) := by
  funext k
  rw [mrg.at_swp dk (a + i) (b + i) k (by omega) (by omega) (by omega), h]
  unfold mrg.swr
  by_cases c1 : k = a + i
  · subst c1
    rw [if_pos rfl, if_neg (by omega), if_neg (by omega), if_pos (by omega)]; congr 1; omega
  · rw [if_neg c1]
    by_cases c2 : k = b + i
    · subst c2
      rw [if_pos rfl, if_neg (by omega), if_neg (by omega), if_neg (by omega), if_pos (by omega)]; congr 1; omega
    · rw [if_neg c2]
      by_cases c3 : a ≤ k ∧ k < a + i
      · rw [if_pos c3, if_pos (by omega)]
      · rw [if_neg c3, if_neg (show ¬ (a ≤ k ∧ k < a + (i + 1)) by omega)]
        by_cases c4 : b ≤ k ∧ k < b + i
        · rw [if_pos c4, if_pos (by omega)]
        · rw [if_neg c4, if_neg (by omega)]
theorem swr_zero (f : Nat → El) (a b : Nat) : f = mrg.swr f a b 0 := by
  funext k; unfold mrg.swr; rw [if_neg (by omega), if_neg (by omega)]

/-- The two cells of an element. -/
structure Cells (w : World) (blk off i : Nat) (x : El) : Prop where
  c0 : w.cell? ⟨blk, off + i * 2, none⟩ = some (.int .i64 x.1)
  c1 : w.cell? ⟨blk, off + i * 2 + 1, none⟩ = some (.int .i64 x.2)
  f0 : w.frozen? ⟨blk, off + i * 2, none⟩ = false
  f1 : w.frozen? ⟨blk, off + i * 2 + 1, none⟩ = false
theorem cellsOf {w : World} {blk off i : Nat} {d : Array El} (h : HoldsK enc 2 w blk off d) (hi : i < d.size) : Cells w blk off i d[i]! := by
  have x0 := (h.cell (i := i) (c := 0) hi (by omega))
  have x1 := (h.cell (i := i) (c := 1) hi (by omega))
  exact ⟨x0.1, x1.1, x0.2, x1.2⟩
theorem xch (W : World) (blk off m i j : Nat) (dk : Array El) (os : Array Obj) (hblk : blk < W.heap.size) (hi : i < dk.size) (hj : j < dk.size) :
    (((((sortWorldK enc 2 W blk off m dk os).setCell ⟨blk, off + i * 2, none⟩ (.int .i64 dk[j]!.1)).setCell ⟨blk, off + i * 2 + 1, none⟩ (.int .i64 dk[j]!.2)).setCell ⟨blk, off + j * 2, none⟩ (.int .i64 dk[i]!.1)).setCell ⟨blk, off + j * 2 + 1, none⟩ (.int .i64 dk[i]!.2)).drew
      = sortWorldK enc 2 W blk off (m + 1) (swp dk i j) os := by
  have h := sortWorldK_swp_c enc 2 W blk off enc_len m dk os hblk i j hi hj
  rw [← h]
  generalize sortWorldK enc 2 W blk off m dk os = w
  rfl

set_option maxHeartbeats 1000000 in
theorem swapRange (blk off cap a b n : Nat) (d : Array El) (W : World) (hH : HoldsK enc 2 W blk off d) (hblk : blk < W.heap.size) (hab : a + n ≤ b) (hb : b + n ≤ d.size) (hsz : d.size ≤ 1048576) (g : Value) :
    Calls Tryd.prog 80 #[.slice (some ⟨blk, off, none⟩) d.size cap, .int .i64 a, .int .i64 b, .int .i64 n, g] W (Post W blk off d fun d' => mrg.at' d' = mrg.swr (mrg.at' d) a b n) := by
  have HH := Lib.hid hH
  have ST := Lib.hid (sortWorldK_start enc 2 W blk off d hH)
  clear hH
  go_enter Tryd.func80, Tryd.ntmps80
  go_wp2
  go_loopw [10] (fun vi wr => ∃ (i m : Nat) (dk : Array El) (os : Array Obj), vi = .int .i64 i ∧ i ≤ n ∧ dk.size = d.size ∧ wr = sortWorldK enc 2 W blk off m dk os ∧ Hid (mrg.at' dk = mrg.swr (mrg.at' d) a b i)) (fun vi _ => n - (intOf vi).toNat)
  case atStart => exact ⟨0, 0, d, #[], by go_num, by omega, rfl, ST.out.symm, swr_zero _ _ _⟩
  case round =>
    obtain ⟨i, m, dk, os, rfl, hi, hsk, rfl, HS⟩ := hrel
    by_cases hlt : i < n
    · have u1 : decide (i < n) = true := by simp; omega
      have hHd : HoldsK enc 2 (sortWorldK enc 2 W blk off m dk os).drew blk off dk := holdsK_sortWorldK enc 2 W blk off m d dk os hblk HH.out hsk
      obtain ⟨x, hx⟩ : ∃ x, dk[a + i]! = x := ⟨_, rfl⟩
      obtain ⟨y, hy⟩ : ∃ y, dk[b + i]! = y := ⟨_, rfl⟩
      obtain ⟨wq, hwq⟩ : ∃ wq, wq = sortWorldK enc 2 W blk off m dk os := ⟨_, rfl⟩
      rw [← hwq] at hHd ⊢
      have CX := cellsOf hHd (i := a + i) (by omega)
      have CY := cellsOf hHd (i := b + i) (by omega)
      rw [hx] at CX
      rw [hy] at CY
      obtain ⟨x0, x1, fx0, fx1⟩ := CX
      obtain ⟨y0, y1, fy0, fy1⟩ := CY
      simp only [World.cell?_drew, World.frozen?_drew] at x0 x1 y0 y1 fx0 fx1 fy0 fy1
      have HW := Lib.hid hwq
      have HX := Lib.hid (And.intro hx hy)
      clear hwq hHd hx hy
      have q1 : (a : Int) + (i : Int) < (d.size : Int) := by omega
      have q2 : (b : Int) + (i : Int) < (d.size : Int) := by omega
      have q3 : ((a : Int) + (i : Int)).toNat = a + i := by omega
      have q4 : ((b : Int) + (i : Int)).toNat = b + i := by omega
      have mixed := Tryd.insIv.mixed
      go_wp2_with fail
      go_big_region_o
      all_goals go_wp2
      go_roundw
      case rel =>
        refine ⟨i + 1, m + 1, swp dk (a + i) (b + i), os, by go_num, by omega, by rw [size_swp]; exact hsk, ?_, (show Hid _ from swr_step _ dk a b i (by omega) (by omega) HS.out)⟩
        rw [HW.out, ← HX.out.1, ← HX.out.2]
        exact xch W blk off m (a + i) (b + i) dk os hblk (by omega) (by omega)
      case measure => simp [intOf]; omega
    · have u1 : decide (i < n) = false := by simp; omega
      obtain rfl : i = n := by omega
      go_wp2
      go_end0
      exact ⟨rfl, m, dk, os, rfl, hsk, HS.out⟩
end Go.Proofs.YtchpjojndkkmeaaDoor.srt

namespace Go.Proofs.YtchpjojndkkmeaaDoor.srt
open Go.Shelf Go.RowKit Go.Lib Go.Sort
open mrg (El)

theorem Post.on {W : World} {blk off n : Nat} {d dk : Array El} {os : Array Obj} {p : Array El → Prop} {e : Ending} {w' : World} (hblk : blk < W.heap.size) (hs : dk.size = d.size)
    (h : Post (sortWorldK enc 2 W blk off n dk os) blk off dk p e w') : Post W blk off d p e w' := by
  obtain ⟨he, m, d', os', hw, hd, hp⟩ := h
  exact ⟨he, n + m, d', os ++ os', by rw [hw]; exact sortWorldK_on enc 2 W blk off n m dk d' os os' hblk hd, by rw [hd, hs], hp⟩
theorem Post.weak {W : World} {blk off : Nat} {d : Array El} {p q : Array El → Prop} {e : Ending} {w' : World} (h : Post W blk off d p e w') (k : ∀ d', d'.size = d.size → p d' → q d') : Post W blk off d q e w' := by
  obtain ⟨he, m, d', os', hw, hd, hp⟩ := h
  exact ⟨he, m, d', os', hw, hd, k d' hd hp⟩
theorem blk_on {W : World} {blk off n : Nat} {dk : Array El} {os : Array Obj} (hblk : blk < W.heap.size) : blk < (sortWorldK enc 2 W blk off n dk os).heap.size :=
  Nat.lt_of_lt_of_le hblk (size_sortWorldK_c enc 2 W blk off n dk os)

/-- The row of a sort: where it lies, what it held first. -/
structure Base (W : World) (blk off : Nat) (d : Array El) : Prop where
  hold : HoldsK enc 2 W blk off d
  blk : blk < W.heap.size
  small : d.size ≤ 1048576
theorem Base.on {W : World} {blk off n : Nat} {d dk : Array El} {os : Array Obj} (B : Base W blk off d) (hs : dk.size = d.size) : Base (sortWorldK enc 2 W blk off n dk os) blk off dk :=
  ⟨holdsK_sortWorldK enc 2 W blk off n d dk os B.blk B.hold hs, blk_on B.blk, by rw [hs]; exact B.small⟩

theorem swapAt (blk off cap a b c n : Nat) (d dk : Array El) (os : Array Obj) (W : World) (B : Base W blk off d) (hs : dk.size = d.size) (hab : a + n ≤ b) (hb : b + n ≤ d.size) (g : Value) :
    Calls Tryd.prog 80 #[.slice (some ⟨blk, off, none⟩) d.size cap, .int .i64 a, .int .i64 b, .int .i64 n, g] (sortWorldK enc 2 W blk off c dk os) (Post W blk off d fun d' => mrg.at' d' = mrg.swr (mrg.at' dk) a b n) := by
  have B' := B.on (n := c) (os := os) hs
  have h := swapRange blk off cap a b n dk (sortWorldK enc 2 W blk off c dk os) B'.hold B'.blk hab (by omega) B'.small g
  rw [hs] at h
  exact h.mono fun e w' k => Post.on B.blk hs k

set_option maxHeartbeats 2000000 in
theorem rotate (blk off cap a m b : Nat) (d : Array El) (W : World) (B : Base W blk off d) (ham : a < m) (hmb : m < b) (hb : b ≤ d.size) (g : Value) :
    Calls Tryd.prog 79 #[.slice (some ⟨blk, off, none⟩) d.size cap, .int .i64 a, .int .i64 m, .int .i64 b, g] W (Post W blk off d fun d' => mrg.at' d' = mrg.rot (mrg.at' d) a m b) := by
  have BB := Lib.hid B
  have ST := Lib.hid (sortWorldK_start enc 2 W blk off d B.hold)
  have hsz := B.small
  clear B
  obtain ⟨i0, hi0⟩ : ∃ i0, m = a + i0 := ⟨m - a, by omega⟩
  obtain ⟨j0, hj0⟩ : ∃ j0, b = m + j0 := ⟨b - m, by omega⟩
  have e1 : (m : Int) - (a : Int) = (i0 : Int) := by omega
  have e2 : (b : Int) - (m : Int) = (j0 : Int) := by omega
  have HM := Lib.hid (And.intro hi0 hj0)
  clear hi0 hj0
  go_enter Tryd.func79, Tryd.ntmps79
  go_wp2
  clear e1 e2
  go_loopw [10, 11] (fun vi vj wr => ∃ (i j n : Nat) (dk : Array El) (os : Array Obj), vi = .int .i64 i ∧ vj = .int .i64 j ∧ 0 < i ∧ 0 < j ∧ i ≤ m ∧ m + j ≤ d.size ∧ dk.size = d.size ∧ wr = sortWorldK enc 2 W blk off n dk os ∧ Hid (mrg.rot (mrg.at' dk) (m - i) m (m + j) = mrg.rot (mrg.at' d) a m b)) (fun vi vj _ => (intOf vi).toNat + (intOf vj).toNat)
  case atStart =>
    obtain ⟨hm, hj⟩ := HM.out
    refine ⟨i0, j0, 0, d, #[], rfl, rfl, by omega, by omega, by omega, by omega, rfl, ST.out.symm, (show Hid _ from ?_)⟩
    show _ = _
    rw [show m - i0 = a by omega, ← hj]
  case round =>
    obtain ⟨i, j, n, dk, os, rfl, rfl, hi, hj, him, hjm, hsk, rfl, HR⟩ := hrel
    rcases Nat.lt_trichotomy i j with h | h | h
    · have t1 : ((i : Int) != (j : Int)) = true := by simp; omega
      have t2 : decide (j < i) = false := by simp; omega
      obtain ⟨p, hp⟩ : ∃ p, p + i = m := ⟨m - i, by omega⟩
      obtain ⟨s, hs⟩ : ∃ s, s + i = j := ⟨j - i, by omega⟩
      have e1 : (m : Int) - (i : Int) = (p : Int) := by omega
      have e2 : (m : Int) + (j : Int) - (i : Int) = ((m + s : Nat) : Int) := by omega
      have e3 : (j : Int) - (i : Int) = (s : Int) := by omega
      have K := Lib.hid (swapAt blk off cap p (m + s) n i d dk os W BB.out hsk (by omega) (by omega) g)
      have R := Lib.hid (mrg.rot_lt (mrg.at' dk) m i j h him hi)
      have HP := Lib.hid (And.intro hp hs)
      clear hp hs
      go_wp2_with fail
      refine K.out.mono ?_
      rintro e w' ⟨rfl, n2, d2, os2, rfl, hs2, hp2⟩
      have P2 := Lib.hid hp2
      clear hp2
      go_wp2
      go_roundw
      case rel =>
        obtain ⟨hp, hs⟩ := HP.out
        refine ⟨i, s, n2, d2, os2, rfl, by go_num, hi, by omega, him, by omega, hs2, rfl, (show Hid _ from ?_)⟩
        show _ = _
        rw [P2.out, ← HR.out, ← R.out, show m - i = p by omega, show m + j - i = m + s by omega, show j - i = s by omega]
      case measure =>
        obtain ⟨hp, hs⟩ := HP.out
        simp [intOf]; omega
    · have t1 : ((i : Int) != (j : Int)) = false := by simp; omega
      obtain ⟨p, hp⟩ : ∃ p, p + i = m := ⟨m - i, by omega⟩
      have e1 : (m : Int) - (i : Int) = (p : Int) := by omega
      have K := Lib.hid (swapAt blk off cap p m n i d dk os W BB.out hsk (by omega) (by omega) g)
      have R := Lib.hid (mrg.rot_eq (mrg.at' dk) m i him)
      have HP := Lib.hid (And.intro hp h)
      clear hp h
      go_wp2_with fail
      refine K.out.mono ?_
      rintro e w' ⟨rfl, n2, d2, os2, rfl, hs2, hp2⟩
      have P2 := Lib.hid hp2
      clear hp2
      go_wp2
      go_end0
      obtain ⟨hp, hh⟩ := HP.out
      refine ⟨rfl, n2, d2, os2, rfl, hs2, ?_⟩
      show _ = _
      rw [P2.out, ← HR.out, show p = m - i by omega, R.out, hh]
    · have t1 : ((i : Int) != (j : Int)) = true := by simp; omega
      have t2 : decide (j < i) = true := by simp; omega
      obtain ⟨p, hp⟩ : ∃ p, p + i = m := ⟨m - i, by omega⟩
      obtain ⟨s, hs⟩ : ∃ s, s + j = i := ⟨i - j, by omega⟩
      have e1 : (m : Int) - (i : Int) = (p : Int) := by omega
      have e3 : (i : Int) - (j : Int) = (s : Int) := by omega
      have K := Lib.hid (swapAt blk off cap p m n j d dk os W BB.out hsk (by omega) (by omega) g)
      have R := Lib.hid (mrg.rot_gt (mrg.at' dk) m i j h him hj)
      have HP := Lib.hid (And.intro hp hs)
      clear hp hs
      go_wp2_with fail
      refine K.out.mono ?_
      rintro e w' ⟨rfl, n2, d2, os2, rfl, hs2, hp2⟩
      have P2 := Lib.hid hp2
      clear hp2
      go_wp2
      go_roundw
      case rel =>
        obtain ⟨hp, hs⟩ := HP.out
        refine ⟨s, j, n2, d2, os2, by go_num, rfl, by omega, hj, by omega, hjm, hs2, rfl, (show Hid _ from ?_)⟩
        show _ = _
        rw [P2.out, ← HR.out, ← R.out, show m - i = p by omega, show i - j = s by omega]
      case measure =>
        obtain ⟨hp, hs⟩ := HP.out
        simp [intOf]; omega
end Go.Proofs.YtchpjojndkkmeaaDoor.srt
