/-
  Plain helpers of this seat's proofs: copies of a slice of Items. Conditions: none.
-/
import Derived.Test.YtcpglphhhmgjkaaDoorToI4
namespace Go.Proofs.YtcpglphhhmgjkaaDoor.four
open Go.ChangeShapes Go.WideShapes Go.ChangeAt Go.RowKit
open gen
theorem infoE : (Tryd.prog.info? 49).map (fun i => (i.zero, i.size, i.bytes)) = some (some (.agg #[.int .i64 0, .int .i64 0, .int .i64 0, .int .i64 0]), 4, 32) := by kernel_rfl
/-- A copy in a block of its own. -/
def Copied (w : World) (l : List F4) (e : Ending) (w' : World) : Prop := ∃ g, e = .returned (.slice (some ⟨g, 0, none⟩) l.length l.length) ∧ Row w' (some ⟨g, 0, none⟩) l.length g l ∧ w.heap.size ≤ g ∧ g < w'.heap.size ∧ Below w.heap.size w w'
set_option maxHeartbeats 1000000 in
theorem copy (a : Option Addr) (cap : Nat) (l : List F4) (w : World) (h : Inp w a l) (hn : l.length ≤ 1048576) : Calls Tryd.prog 28 #[.slice a l.length cap] w (Copied w l) := by
  have HI := Lib.hid h
  clear h
  obtain ⟨n, hnz⟩ : ∃ n, n = l.length := ⟨_, rfl⟩
  rw [← hnz] at hn ⊢
  have HNZ := Lib.hid hnz
  clear hnz
  obtain ⟨i0, hi, hz0, hz1, hz2⟩ := info_parts infoE
  go_enter Tryd.func28, Tryd.ntmps28
  go_wp2_with (at_make; refine wpList_make_full _ rfl _ _ 27 rfl w.heap.size 49 i0 (.agg #[.int .i64 0, .int .i64 0, .int .i64 0, .int .i64 0]) 4 Tryd.underlying27 hi hz0 hz1 _ _ _ _ n rfl rfl rfl rfl ?b2 ?b3 (Nat.le_refl _) ?_)
  case b2 => (try rw [hz2]); omega
  case b3 => unfold maxLen; omega
  intro w0 hown0 hgrow0
  obtain ⟨⟨A0, hA0, _⟩, hg0, _⟩ := Blk.of_owns hown0
  have BL0 := Lib.hid hA0
  have B0 := Lib.hid ((Below.refl w.heap.size w).grown hgrow0 (Nat.le_refl _) (fun k h => by cases h))
  clear hown0 hgrow0 hA0 hg0 hi hz0 hz1 hz2
  go_wp2
  go_loopw [4] (fun vi wr => Below w.heap.size w wr ∧ ∃ (k : Nat) (A : Nat → Value), k ≤ n ∧ vi = .int .i64 k ∧ Blk wr w.heap.size (n * 4) A ∧ Holds A k l) (fun vi _ => n - (intOf vi).toNat)
  case atStart => exact ⟨B0.out, 0, A0, by omega, rfl, BL0.out, fun j h => by omega⟩
  case round =>
    obtain ⟨hB, k, A, hk, rfl, hA, hd⟩ := hrel
    have BB := Lib.hid hB
    have AA := Lib.hid hA
    have DD := Lib.hid hd
    by_cases hlt : k < n
    · obtain ⟨c, off, rfl, hcell⟩ := HI.out k (by rw [← HNZ.out]; exact hlt)
      replace hcell := hcell.keep (hB.block c hcell.lt)
      obtain ⟨x, hx⟩ : ∃ x, x = l.getD k zz := ⟨_, rfl⟩
      rw [← hx] at hcell
      obtain ⟨x1, x2, x3, x4⟩ := hcell
      have HX := Lib.hid hx
      have u1 : decide (k < n) = true := by simp; omega
      have z1 : (k : Int) < (n : Int) := by omega
      clear hB hA hd hx
      go_wp2_with fail
      refine (toEl x wr).mono ?_
      rintro e w1 ⟨rfl, b1⟩
      have A1 := Lib.hid (AA.out.below b1 AA.out.lt)
      have B1 := Lib.hid (BB.out.trans (b1.mono BB.out.size))
      have y0 := A1.out.cell (k * 4) (by omega)
      have y1 := A1.out.cell (k * 4 + 1) (by omega)
      have y2 := A1.out.cell (k * 4 + 2) (by omega)
      have y3 := A1.out.cell (k * 4 + 3) (by omega)
      have f0 := A1.out.free (k * 4)
      have f1 := A1.out.free (k * 4 + 1)
      have f2 := A1.out.free (k * 4 + 2)
      have f3 := A1.out.free (k * 4 + 3)
      clear b1 x1 x2 x3 x4
      go_wp2
      go_roundw
      case rel =>
        exact ⟨below_wN B1.out (Nat.le_refl _) _ x, k + 1, _, by omega, by go_num, put A1.out hlt x, DD.out.put HX.out⟩
      case measure => simp [intOf]; omega
    · have u1 : decide (k < n) = false := by simp; omega
      obtain rfl : k = n := by omega
      clear hB hA hd
      go_wp2
      go_ret
      refine ⟨w.heap.size, by rw [← HNZ.out]; rfl, ?_, Nat.le_refl _, AA.out.lt, BB.out⟩
      exact row AA.out HNZ.out.symm (by rw [← HNZ.out]; exact Nat.le_refl _) DD.out
theorem szOk (a : Option Addr) (len cap m : Nat) (w : World) (h : len ≤ m) (hm : m ≤ 1048576) : Calls Tryd.prog 20 #[.slice a len cap, .int .i64 m] w fun e w' => e = .returned (.int .i64 ((m - len : Nat) : Int)) ∧ w = w' := by
  obtain ⟨d, hd⟩ : ∃ d, d = m - len := ⟨_, rfl⟩
  rw [← hd]
  have e : (m : Int) - (len : Int) = (d : Int) := by omega
  have t1 : decide ((d : Int) < 0) = false := by simp
  have hd2 : d ≤ 1048576 := by omega
  clear hd
  go_enter Tryd.func20, Tryd.ntmps20
  go_wp2
  go_ret
  exact ⟨rfl, rfl⟩
end Go.Proofs.YtcpglphhhmgjkaaDoor.four
