/-
  Plain helpers of this seat's proofs: the merge of the stable sort where one side has one element. Conditions: none.
-/
import Derived.Test.YtchpjojndkkmeaaDoorRot
namespace Go.Proofs.YtchpjojndkkmeaaDoor.srt
open Go.Shelf Go.RowKit Go.Lib Go.Sort
open mrg (El)

/-- The cells of an element in every world that the sort's reading passes through. -/
def Seen (wq : World) (blk off i : Nat) (x : El) : Prop := ∀ n' os', (grow (wq.drewN n') os').cell? ⟨blk, off + i * 2, none⟩ = some (.int .i64 x.1) ∧ (grow (wq.drewN n') os').cell? ⟨blk, off + i * 2 + 1, none⟩ = some (.int .i64 x.2)
theorem seen {W : World} {blk off n i : Nat} {d dk : Array El} {os : Array Obj} (B : Base W blk off d) (hs : dk.size = d.size) (hi : i < d.size) : Seen (sortWorldK enc 2 W blk off n dk os) blk off i (mrg.at' dk i) := fun n' os' => by
  rw [sortWorldK_grown_c enc 2 W blk off n n' dk os os']
  have C := cellsOf (B.on (n := n + n') (os := os ++ os') hs).hold (i := i) (by omega)
  exact ⟨C.c0, C.c1⟩
theorem upTo_start (f : Nat → El) (a : Nat) : f = mrg.upTo f a (a + 1) := by
  funext k; unfold mrg.upTo; rw [if_neg (by omega)]
  by_cases c : k + 1 = a + 1 ∧ a ≤ k
  · rw [if_pos c]; congr 1; omega
  · rw [if_neg c]
theorem upTo_step (f : Nat → El) (dk : Array El) (a k : Nat) (hk : a ≤ k) (hb : k + 1 < dk.size) (h : mrg.at' dk = mrg.upTo f a (k + 1)) : mrg.at' (swp dk k (k + 1)) = mrg.upTo f a (k + 1 + 1) := by
  funext t
  rw [mrg.at_swp dk k (k + 1) t (by omega) (by omega) (by omega), h]
  unfold mrg.upTo
  by_cases c1 : t = k
  · subst c1
    rw [if_pos rfl, if_neg (by omega), if_neg (by omega), if_pos (by omega)]
  · rw [if_neg c1]
    by_cases c2 : t = k + 1
    · subst c2
      rw [if_pos rfl, if_neg (by omega), if_pos (by omega), if_neg (by omega), if_pos (by omega)]
    · rw [if_neg c2]
      by_cases c3 : a ≤ t ∧ t + 1 < k + 1
      · rw [if_pos c3, if_pos (by omega)]
      · rw [if_neg c3, if_neg (by omega), if_neg (by omega), if_neg (by omega)]

set_option maxRecDepth 100000 in
set_option maxHeartbeats 4000000 in
theorem symUp (blk off cap a b : Nat) (d : Array El) (W : World) (B : Base W blk off d) (hmb : a + 1 < b) (hb : b ≤ d.size) (hS : mrg.Srt (a + 1) b (mrg.at' d)) (hC : mrg.Crs a (a + 1) b (mrg.at' d)) :
    Calls Tryd.prog 76 #[.slice (some ⟨blk, off, none⟩) d.size cap, .int .i64 a, .int .i64 ((a : Int) + 1), .int .i64 b, .func (.func 48) #[] #[]] W (Post W blk off d fun d' => mrg.Srt a b (mrg.at' d') ∧ mrg.Frm a b (mrg.at' d) (mrg.at' d')) := by
  have BB := Lib.hid B
  have ST := Lib.hid (sortWorldK_start enc 2 W blk off d B.hold)
  have hsz := B.small
  have HS := Lib.hid hS
  have HC := Lib.hid hC
  clear B hS hC
  have e1 : (a : Int) + 1 - (a : Int) = 1 := by omega
  go_enter Tryd.func76, Tryd.ntmps76
  go_wp2
  clear e1
  go_loopw [10, 11] (fun vi vj wr => ∃ (i j n : Nat) (os : Array Obj), vi = .int .i64 i ∧ vj = .int .i64 j ∧ a + 1 ≤ i ∧ i ≤ j ∧ j ≤ b ∧ wr = sortWorldK enc 2 W blk off n d os ∧ Hid (mrg.Up (mrg.at' d) a (a + 1) b i j)) (fun vi vj _ => (intOf vj).toNat - (intOf vi).toNat)
  case atStart => exact ⟨a + 1, b, 0, #[], by go_num, rfl, Nat.le_refl _, by omega, Nat.le_refl _, ST.out.symm, mrg.Up.start _ _ _ _ (by omega)⟩
  case round =>
    obtain ⟨i, j, n, os, rfl, rfl, hai, hij, hjb, rfl, U⟩ := hrel
    by_cases hlt : i < j
    · have u1 : decide (i < j) = true := by simp; omega
      obtain ⟨h, hh⟩ : ∃ h, h = (i + j) / 2 := ⟨_, rfl⟩
      have e1 : ((i : Int) + (j : Int)) / 2 = (h : Int) := by omega
      have h1 : i ≤ h := by omega
      have h2 : h < j := by omega
      have UL := Lib.hid (fun t => U.out.left HS.out hlt t)
      have UR := Lib.hid (fun t => U.out.right HS.out hlt t)
      have IX := Lib.hid (HC.out a h (Nat.le_refl _) (by omega) (by omega) (by omega))
      rw [← hh] at UL UR
      have SH := seen (i := h) (n := n) (os := os) BB.out rfl (by omega)
      have SA := seen (i := a) (n := n) (os := os) BB.out rfl (by omega)
      have CLS := Lib.hid (fun n' os' => sortWorldK_grown_c enc 2 W blk off n n' d os os')
      obtain ⟨x, hx⟩ : ∃ x, x = mrg.at' d h := ⟨_, rfl⟩
      obtain ⟨y, hy⟩ : ∃ y, y = mrg.at' d a := ⟨_, rfl⟩
      rw [← hx] at SH UL UR IX
      rw [← hy] at SA UL UR IX
      have z1 : (h : Int) < (d.size : Int) := by omega
      have z2 : (a : Int) < (d.size : Int) := by omega
      clear hh hx hy
      generalize hwq : sortWorldK enc 2 W blk off n d os = wq at SH SA CLS ⊢
      have HWQ := Lib.hid hwq
      clear hwq
      have sh0 := fun n' os' => (SH n' os').1
      have sh1 := fun n' os' => (SH n' os').2
      have sa0 := fun n' os' => (SA n' os').1
      have sa1 := fun n' os' => (SA n' os').2
      clear SH SA
      have hcg := fun W' => closure x y W'
      obtain ⟨r, hr⟩ : ∃ r, r = mrg.cf x y := ⟨_, rfl⟩
      rw [← hr] at hcg
      have HR := Lib.hid hr
      clear hr
      by_cases hlv : r < 0
      · have t1 : decide (r < 0) = true := by simp; omega
        have mixed := Tryd.insIv.mixed
        have eg := enters
        go_wp2_with fail
        go_quiet_grown (first | (go_at_fn 48; refine Calls.grown_of (hcg _)))
        go_wp2
        go_roundw
        case rel => exact ⟨h + 1, j, n + nq, os ++ osq, by go_num, rfl, by omega, by omega, hjb, CLS.out nq osq, UL.out ((mrg.cf_neg IX.out).1 (by rw [← HR.out]; exact hlv))⟩
        case measure => simp [intOf]; omega
      · have t1 : decide (r < 0) = false := by simp; omega
        have mixed := Tryd.insIv.mixed
        have eg := enters
        go_wp2_with fail
        go_quiet_grown (first | (go_at_fn 48; refine Calls.grown_of (hcg _)))
        go_wp2
        go_roundw
        case rel => exact ⟨i, h, n + nq, os ++ osq, rfl, by go_num, hai, h1, by omega, CLS.out nq osq, UR.out (mrg.cf_not IX.out (by rw [← HR.out]; omega))⟩
        case measure => simp [intOf]; omega
    · have u1 : decide (i < j) = false := by simp; omega
      obtain rfl : i = j := by omega
      have FIN := Lib.hid (mrg.upTo_srt U.out HS.out)
      clear U HS HC
      go_wp2
      go_loopw [13] (fun vk wr => ∃ (k m : Nat) (dk : Array El) (os' : Array Obj), vk = .int .i64 k ∧ a ≤ k ∧ k + 1 ≤ i ∧ dk.size = d.size ∧ wr = sortWorldK enc 2 W blk off m dk os' ∧ Hid (mrg.at' dk = mrg.upTo (mrg.at' d) a (k + 1))) (fun vk _ => i - (intOf vk).toNat)
      case atStart => exact ⟨a, n, d, os, rfl, Nat.le_refl _, by omega, rfl, rfl, upTo_start _ _⟩
      case round =>
        obtain ⟨k, m, dk, os', rfl, hk, hki, hsk, rfl, HK⟩ := hrel
        by_cases hlt : k + 1 < i
        · have u1 : decide ((k : Int) < (i : Int) - 1) = true := by simp; omega
          obtain ⟨x, hx⟩ : ∃ x, dk[k]! = x := ⟨_, rfl⟩
          obtain ⟨y, hy⟩ : ∃ y, dk[k + 1]! = y := ⟨_, rfl⟩
          have hHd := (BB.out.on (n := m) (os := os') hsk).hold
          obtain ⟨wq, hwq⟩ : ∃ wq, wq = sortWorldK enc 2 W blk off m dk os' := ⟨_, rfl⟩
          rw [← hwq] at hHd ⊢
          have CX := cellsOf hHd (i := k) (by omega)
          have CY := cellsOf hHd (i := k + 1) (by omega)
          rw [hx] at CX
          rw [hy] at CY
          obtain ⟨x0, x1, fx0, fx1⟩ := CX
          obtain ⟨y0, y1, fy0, fy1⟩ := CY
          have HW := Lib.hid hwq
          have HX := Lib.hid (And.intro hx hy)
          clear hwq hHd hx hy
          have q1 : (k : Int) < (d.size : Int) := by omega
          have q2 : (k : Int) + 1 < (d.size : Int) := by omega
          have q4 : ((k : Int) + 1).toNat = k + 1 := by omega
          have mixed := Tryd.insIv.mixed
          go_wp2_with fail
          go_big_region_o
          all_goals go_wp2
          go_roundw
          case rel =>
            refine ⟨k + 1, m + 1, swp dk k (k + 1), os', by go_num, by omega, by omega, by rw [size_swp]; exact hsk, ?_, (show Hid _ from upTo_step _ dk a k hk (by omega) HK.out)⟩
            rw [HW.out, ← HX.out.1, ← HX.out.2]
            exact xch W blk off m k (k + 1) dk os' BB.out.blk (by omega) (by omega)
          case measure => simp [intOf]; omega
        · have u1 : decide ((k : Int) < (i : Int) - 1) = false := by simp; omega
          have HE := Lib.hid (show k + 1 = i by omega)
          go_wp2
          go_end0
          refine ⟨rfl, m, dk, os', rfl, hsk, ?_⟩
          show _ ∧ _
          rw [HK.out, HE.out]
          exact FIN.out
end Go.Proofs.YtchpjojndkkmeaaDoor.srt
