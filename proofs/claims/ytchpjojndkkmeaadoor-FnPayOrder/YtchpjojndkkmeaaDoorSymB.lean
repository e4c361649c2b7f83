/-
  Plain helpers of this seat's proofs: the merge of the stable sort where the right side has one element. Conditions: none.
-/
import Derived.Test.YtchpjojndkkmeaaDoorSymA
namespace Go.Proofs.YtchpjojndkkmeaaDoor.srt
open Go.Shelf Go.RowKit Go.Lib Go.Sort
open mrg (El)

theorem dnTo_step (f : Nat → El) (dk : Array El) (m k : Nat) (hk : k + 1 ≤ m) (hb : k + 1 < dk.size) (h : mrg.at' dk = mrg.dnTo f (k + 1) m) : mrg.at' (swp dk (k + 1) k) = mrg.dnTo f k m := by
  funext t
  rw [mrg.at_swp dk (k + 1) k t (by omega) (by omega) (by omega), h]
  unfold mrg.dnTo
  by_cases c1 : t = k + 1
  · subst c1
    rw [if_pos rfl, if_neg (by omega), if_neg (by omega), if_neg (by omega), if_pos (by omega)]
    congr 1
  · rw [if_neg c1]
    by_cases c2 : t = k
    · subst c2
      rw [if_pos rfl, if_pos (by omega), if_pos (by omega)]
    · rw [if_neg c2, if_neg (show ¬ (t = k + 1 ∧ t ≤ m) by omega), if_neg (show ¬ (t = k ∧ t ≤ m) by omega)]
      by_cases c3 : k + 1 < t ∧ t ≤ m
      · rw [if_pos c3, if_pos (by omega)]
      · rw [if_neg c3, if_neg (by omega)]

set_option maxRecDepth 100000 in
set_option maxHeartbeats 4000000 in
theorem symDn (blk off cap a m : Nat) (d : Array El) (W : World) (B : Base W blk off d) (ham : a + 1 < m) (hb : m + 1 ≤ d.size) (hS : mrg.Srt a m (mrg.at' d)) (hC : mrg.Crs a m (m + 1) (mrg.at' d)) :
    Calls Tryd.prog 76 #[.slice (some ⟨blk, off, none⟩) d.size cap, .int .i64 a, .int .i64 m, .int .i64 ((m : Int) + 1), .func (.func 48) #[] #[]] W (Post W blk off d fun d' => mrg.Srt a (m + 1) (mrg.at' d') ∧ mrg.Frm a (m + 1) (mrg.at' d) (mrg.at' d')) := by
  have BB := Lib.hid B
  have ST := Lib.hid (sortWorldK_start enc 2 W blk off d B.hold)
  have hsz := B.small
  have HS := Lib.hid hS
  have HC := Lib.hid hC
  clear B hS hC
  have e0 : ((m : Int) - (a : Int) == 1) = false := by simp; omega
  have e1 : (m : Int) + 1 - (m : Int) = 1 := by omega
  go_enter Tryd.func76, Tryd.ntmps76
  go_wp2
  clear e0 e1
  go_loopw [14, 15] (fun vi vj wr => ∃ (i j n : Nat) (os : Array Obj), vi = .int .i64 i ∧ vj = .int .i64 j ∧ a ≤ i ∧ i ≤ j ∧ j ≤ m ∧ wr = sortWorldK enc 2 W blk off n d os ∧ Hid (mrg.Dn (mrg.at' d) a m i j)) (fun vi vj _ => (intOf vj).toNat - (intOf vi).toNat)
  case atStart => exact ⟨a, m, 0, #[], rfl, rfl, Nat.le_refl _, by omega, Nat.le_refl _, ST.out.symm, mrg.Dn.start _ _ _ (by omega)⟩
  case round =>
    obtain ⟨i, j, n, os, rfl, rfl, hai, hij, hjb, rfl, U⟩ := hrel
    by_cases hlt : i < j
    · have u1 : decide (i < j) = true := by simp; omega
      obtain ⟨h, hh⟩ : ∃ h, h = (i + j) / 2 := ⟨_, rfl⟩
      have e1 : ((i : Int) + (j : Int)) / 2 = (h : Int) := by omega
      have h1 : i ≤ h := by omega
      have h2 : h < j := by omega
      have UL := Lib.hid (fun t => U.out.left HS.out hlt t)
      have UR := Lib.hid (fun t => U.out.right HS.out hlt t)
      have IX := Lib.hid (HC.out h m (by omega) (by omega) (Nat.le_refl _) (by omega))
      rw [← hh] at UL UR
      have SH := seen (i := h) (n := n) (os := os) BB.out rfl (by omega)
      have SA := seen (i := m) (n := n) (os := os) BB.out rfl (by omega)
      have CLS := Lib.hid (fun n' os' => sortWorldK_grown_c enc 2 W blk off n n' d os os')
      obtain ⟨x, hx⟩ : ∃ x, x = mrg.at' d h := ⟨_, rfl⟩
      obtain ⟨y, hy⟩ : ∃ y, y = mrg.at' d m := ⟨_, rfl⟩
      rw [← hx] at SH UL UR IX
      rw [← hy] at SA UL UR IX
      have z1 : (h : Int) < (d.size : Int) := by omega
      have z2 : (m : Int) < (d.size : Int) := by omega
      clear hh hx hy
      generalize hwq : sortWorldK enc 2 W blk off n d os = wq at SH SA CLS ⊢
      have HWQ := Lib.hid hwq
      clear hwq
      have sh0 := fun n' os' => (SH n' os').1
      have sh1 := fun n' os' => (SH n' os').2
      have sa0 := fun n' os' => (SA n' os').1
      have sa1 := fun n' os' => (SA n' os').2
      clear SH SA
      have hcg := fun W' => closure y x W'
      obtain ⟨r, hr⟩ : ∃ r, r = mrg.cf y x := ⟨_, rfl⟩
      rw [← hr] at hcg
      have HR := Lib.hid hr
      clear hr
      by_cases hlv : r < 0
      · have t1 : decide (r < 0) = true := by simp; omega
        have mixed := Tryd.insIv.mixed
        have eg := enters
        go_wp2_with fail
        go_quiet_grown (first | (go_at_fn 48; refine Calls.grown_of (hcg _)))
        go_wp2
        go_roundw
        case rel => exact ⟨i, h, n + nq, os ++ osq, rfl, by go_num, hai, h1, by omega, CLS.out nq osq, UR.out ((mrg.cf_neg IX.out).1 (by rw [← HR.out]; exact hlv))⟩
        case measure => simp [intOf]; omega
      · have t1 : decide (r < 0) = false := by simp; omega
        have mixed := Tryd.insIv.mixed
        have eg := enters
        go_wp2_with fail
        go_quiet_grown (first | (go_at_fn 48; refine Calls.grown_of (hcg _)))
        go_wp2
        go_roundw
        case rel => exact ⟨h + 1, j, n + nq, os ++ osq, by go_num, rfl, by omega, by omega, hjb, CLS.out nq osq, UL.out (mrg.cf_not IX.out (by rw [← HR.out]; omega))⟩
        case measure => simp [intOf]; omega
    · have u1 : decide (i < j) = false := by simp; omega
      obtain rfl : i = j := by omega
      have FIN := Lib.hid (mrg.dnTo_srt U.out HS.out)
      clear U HS HC
      go_wp2
      go_loopw [17] (fun vk wr => ∃ (k c : Nat) (dk : Array El) (os' : Array Obj), vk = .int .i64 k ∧ i ≤ k ∧ k ≤ m ∧ dk.size = d.size ∧ wr = sortWorldK enc 2 W blk off c dk os' ∧ Hid (mrg.at' dk = mrg.dnTo (mrg.at' d) k m)) (fun vk _ => (intOf vk).toNat)
      case atStart => exact ⟨m, n, d, os, rfl, by omega, Nat.le_refl _, rfl, rfl, (funext fun k => mrg.dnTo_self _ m k)⟩
      case round =>
        obtain ⟨k, c, dk, os', rfl, hk, hki, hsk, rfl, HK⟩ := hrel
        by_cases hlt : i < k
        · obtain ⟨k, rfl⟩ : ∃ k', k = k' + 1 := ⟨k - 1, by omega⟩
          have u1 : decide ((i : Int) < (k : Int) + 1) = true := by simp; omega
          obtain ⟨x, hx⟩ : ∃ x, dk[k + 1]! = x := ⟨_, rfl⟩
          obtain ⟨y, hy⟩ : ∃ y, dk[k]! = y := ⟨_, rfl⟩
          have hHd := (BB.out.on (n := c) (os := os') hsk).hold
          obtain ⟨wq, hwq⟩ : ∃ wq, wq = sortWorldK enc 2 W blk off c dk os' := ⟨_, rfl⟩
          rw [← hwq] at hHd ⊢
          have CX := cellsOf hHd (i := k + 1) (by omega)
          have CY := cellsOf hHd (i := k) (by omega)
          rw [hx] at CX
          rw [hy] at CY
          obtain ⟨x0, x1, fx0, fx1⟩ := CX
          obtain ⟨y0, y1, fy0, fy1⟩ := CY
          have HW := Lib.hid hwq
          have HX := Lib.hid (And.intro hx hy)
          clear hwq hHd hx hy
          have q1 : (k : Int) < (d.size : Int) := by omega
          have q2 : (k : Int) + 1 < (d.size : Int) := by omega
          have q3 : (0 : Int) ≤ (k : Int) + 1 := by omega
          have q4 : ((k : Int) + 1).toNat = k + 1 := by omega
          have hwp : IntKind.i64.wrap (k : Int) = (k : Int) := by rw [IntKind.wrap_i64]; omega
          have mixed := Tryd.insIv.mixed
          go_wp2_with fail
          go_big_region_o
          all_goals go_wp2
          go_roundw
          case rel =>
            refine ⟨k, c + 1, swp dk (k + 1) k, os', by go_num, by omega, by omega, by rw [size_swp]; exact hsk, ?_, (show Hid _ from dnTo_step _ dk m k (by omega) (by omega) HK.out)⟩
            rw [HW.out, ← HX.out.1, ← HX.out.2]
            exact xch W blk off c (k + 1) k dk os' BB.out.blk (by omega) (by omega)
          case measure => simp [intOf]
        · have u1 : decide ((i : Int) < (k : Int)) = false := by simp; omega
          have u2 : decide (i < k) = false := by simp; omega
          have HE := Lib.hid (show k = i by omega)
          go_wp2
          go_end0
          refine ⟨rfl, c, dk, os', rfl, hsk, ?_⟩
          show _ ∧ _
          rw [HK.out, HE.out]
          exact FIN.out
end Go.Proofs.YtchpjojndkkmeaaDoor.srt
