/-
  Plain helpers of this seat's proofs: contracts of the landed test of a rate and of slices.Backward's closure. Conditions: none.
-/
import Derived.Test.YtnkdjnfbllkgiabRsI
import Derived.Test.YtnkdjnfbllkgiabOnS
import Derived.RangeFuncNested
import Derived.RangeFuncBound
import Derived.RangeFuncCalls
import Derived.RangeFuncLeaves
import Derived.Shelf.Abstract
import Derived.Shelf.AbstractIn
import Derived.Shelf.RegionOpen
import Derived.OwnWalkIn
import Derived.TacticsInMore
import Derived.LoopNIn
import Derived.LoopIn
namespace Go.Proofs.Ytnkdjnfbllkgiab.base
open Go.ChangeShapes Go.WideShapes Go.ChangeAt Go.RowKit Go.Shelf
open led (F5 z5)
open five (Row At)
attribute [local go_sem] Oper.semAt_some

set_option maxHeartbeats 1000000 in
theorem acc (x : F5) (bf bt bd : Nat) (f t d : Int) (W : World) (hf : W.cell? ⟨bf, 0, none⟩ = some (.int .i64 f)) (ht : W.cell? ⟨bt, 0, none⟩ = some (.int .i64 t)) (hd : W.cell? ⟨bd, 0, none⟩ = some (.int .i64 d)) (lf : bf < W.heap.size) (lt : bt < W.heap.size) (ld : bd < W.heap.size) :
    Calls Try.prog 40 #[.agg #[.int .i64 x.1, .int .i64 x.2.1, .int .i64 x.2.2.1, .int .i64 x.2.2.2.1, .int .i64 x.2.2.2.2], .pointer (some ⟨bf, 0, none⟩), .pointer (some ⟨bt, 0, none⟩), .pointer (some ⟨bd, 0, none⟩)] W (Gives (led.mt f t d x) W) := by
  unfold led.mt
  cases t1 : (x.2.1 == f) with
  | false =>
    go_enter Try.func40, Try.ntmps40
    go_wp2
    go_ret
    exact ⟨rfl, five.Grew.alloc _ _⟩
  | true =>
    cases t2 : (x.2.2.1 == t) with
    | false =>
      go_enter Try.func40, Try.ntmps40
      go_wp2
      go_ret
      exact ⟨rfl, five.Grew.alloc _ _⟩
    | true =>
      cases t3 : decide (x.1 ≤ d)
      all_goals
        go_enter Try.func40, Try.ntmps40
        go_wp2
        go_ret
        exact ⟨rfl, five.Grew.alloc _ _⟩

/-- What has come when k rounds are over, from the last one on. -/
def bk (L : List F5) (k : Nat) : List (Int × F5) := (List.range k).map fun r => (((L.length - 1 - r : Nat) : Int), L.getD (L.length - 1 - r) z5)
theorem bk_succ (L : List F5) {k j : Nat} (h : j + 1 + k = L.length) : bk L (k + 1) = bk L k ++ [((j : Int), L.getD j z5)] := by
  have e : L.length - 1 - k = j := by omega
  simp [bk, List.range_succ, e]
theorem bk_length (L : List F5) (k : Nat) : (bk L k).length = k := by simp [bk]
def encY (x : Int × F5) : Array Value := #[.int .i64 x.1, .agg #[.int .i64 x.2.1, .int .i64 x.2.2.1, .int .i64 x.2.2.2.1, .int .i64 x.2.2.2.2.1, .int .i64 x.2.2.2.2.2]]

set_option maxRecDepth 100000 in
set_option maxHeartbeats 2000000 in
theorem back1 (F : Fence) (n : Nat) (h61 : F.fn 61) (hro : F.round = none) (hn : 1 ≤ n) (l Bs n₀ b cap : Nat) (L : List F5) (hlen : L.length ≤ 1048577) (hcap : L.length ≤ cap) (hB : Bs < n₀) (hb : b < n₀) (J Jx : List (Int × F5) → World → Prop)
    (hY : ∀ pre x W, J pre W → pre.length < L.length → YieldAt F (n - 1) Try.prog l (encY x) W fun e W' =>
      (e = .returned (.bool true) ∧ J (pre ++ [x]) W' ∧ Below n₀ W W') ∨ (e = .returned (.bool false) ∧ Jx (pre ++ [x]) W'))
    (W : World) (hBs : W.cell? ⟨Bs, 0, none⟩ = some (.slice (some ⟨b, 0, none⟩) L.length cap)) (hc : ∀ j, j < L.length → At W b (j * 5) (L.getD j z5)) (h0 : J [] W) :
    CallsIn F n Try.prog 61 #[.func (.yield l) #[] #[], .pointer (some ⟨Bs, 0, none⟩)] W fun e W' => (∃ v, e = .returned v) ∧
      ((∃ ys, ys = bk L L.length ∧ J ys W') ∨ (∃ pre, (∃ k, k ≤ L.length ∧ pre = bk L k) ∧ Jx pre W')) := by
  have HC := Lib.hid hc
  clear hc
  obtain ⟨len, hl⟩ : ∃ len, len = L.length := ⟨_, rfl⟩
  rw [← hl] at hlen hcap hBs hY ⊢
  have HL := Lib.hid hl
  clear hl
  refine callsIn_of_wp Try.func61 rfl h61 ?_ hro
  simp only [Try.ntmps61, List.size_toArray, List.length_cons, List.length_nil, Nat.reduceAdd, Nat.reduceSub, Array.replicate_succ, Array.replicate_zero, List.push_toArray, List.append_toArray, List.nil_append, List.cons_append]
  gi_wp2
  gi_loopw [3] (fun i wr => ∃ k m : Nat, m + k = len ∧ i = .int .i64 ((m : Int) - 1) ∧ J (bk L k) wr ∧ Below n₀ W wr)
    (fun i _ => (intOf i + 1).toNat)
  case atStart => exact ⟨0, len, by omega, by go_num, h0, Below.refl _ _⟩
  case round =>
    obtain ⟨k, m, hm, rfl, hJs, hnx⟩ := hrel
    cases m with
    | zero =>
      obtain rfl : k = len := by omega
      gi_wp2
      go_end0
      exact ⟨⟨_, rfl⟩, .inl ⟨_, rfl, hJs⟩⟩
    | succ j =>
      have ej : (((j + 1 : Nat) : Int) - 1) = (j : Int) := by omega
      rw [ej]
      clear ej
      have hs := (hnx.cell (p := ⟨Bs, 0, none⟩) hB).trans hBs
      have q := (HC.out j (by rw [← HL.out]; omega)).keep (hnx.block b hb)
      have SUC := Lib.hid (bk_succ L (k := k) (j := j) (by rw [← HL.out]; omega))
      obtain ⟨x, hx⟩ : ∃ x, x = L.getD j z5 := ⟨_, rfl⟩
      rw [← hx] at q SUC
      clear hx
      obtain ⟨x1, x2, x3, x4, x5⟩ := q
      obtain ⟨fn, tmps, assign, body, hy, hR⟩ := hY _ ((j : Int), x) wr hJs (by rw [bk_length]; omega)
      dsimp only [encY] at hy
      have z0 : (0 : Int) ≤ (j : Int) := by omega
      have z1 : (j : Int) < (len : Int) := by omega
      gi_wp2
      refine hR.mono ?_
      rintro e W3 (⟨rfl, hJ3, hk3⟩ | ⟨rfl, hJx3⟩)
      · gi_wp2
        go_roundw
        case rel => exact ⟨k + 1, j, by omega, by go_num, by rw [SUC.out]; exact hJ3, hnx.trans hk3⟩
        case measure => simp [intOf]
      · gi_wp2
        refine bodyPost_ret (results_none rfl _ _ _) rfl ?_
        exact ⟨⟨_, rfl⟩, .inr ⟨_, ⟨k + 1, by omega, SUC.out.symm⟩, hJx3⟩⟩

set_option maxRecDepth 100000 in
set_option maxHeartbeats 1000000 in
theorem back0 (F : Fence) (n : Nat) (h61 : F.fn 61) (hro : F.round = none) (l Bs cap : Nat) (a : Option Addr) (J : List (Int × F5) → World → Prop) (W : World) (hBs : W.cell? ⟨Bs, 0, none⟩ = some (.slice a 0 cap)) (h0 : J [] W) :
    CallsIn F n Try.prog 61 #[.func (.yield l) #[] #[], .pointer (some ⟨Bs, 0, none⟩)] W fun e W' => (∃ v, e = .returned v) ∧ J [] W' := by
  refine callsIn_of_wp Try.func61 rfl h61 ?_ hro
  simp only [Try.ntmps61, List.size_toArray, List.length_cons, List.length_nil, Nat.reduceAdd, Nat.reduceSub, Array.replicate_succ, Array.replicate_zero, List.push_toArray, List.append_toArray, List.nil_append, List.cons_append]
  gi_wp2
  gi_loopw [3] (fun i wr => i = .int .i64 (-1) ∧ J [] wr) (fun _ _ => 0)
  case atStart => exact ⟨by go_num, h0⟩
  case round =>
    obtain ⟨rfl, hJs⟩ := hrel
    gi_wp2
    go_end0
    exact ⟨⟨_, rfl⟩, hJs⟩

/-- slices.Backward's closure over a slice of rates, as a loop meets it. -/
theorem back_stops (F : Fence) (n : Nat) (h61 : F.fn 61) (hro : F.round = none) (hn : 1 ≤ n) (Bs n₀ g cap : Nat) (a : Option Addr) (L : List F5) (w : World) (hlen : L.length ≤ 1048577) (hB : Bs < n₀) (hn₀ : n₀ ≤ w.heap.size) (hg : 0 < L.length → g < n₀)
    (hc : w.cell? ⟨Bs, 0, none⟩ = some (.slice a L.length cap)) (r : Row w a cap g L) :
    SeqStopsK F n Try.prog 61 #[.pointer (some ⟨Bs, 0, none⟩)] encY (Below n₀) (fun ys => ys = bk L L.length) (fun pre => ∃ k, k ≤ L.length ∧ pre = bk L k) L.length w := fun l J Jx W hW _ _ hY h0 => by
  have hc' := (hW.cell (p := ⟨Bs, 0, none⟩) (Nat.lt_of_lt_of_le hB hn₀)).trans hc
  rcases Nat.eq_zero_or_pos L.length with h | h
  · rw [h] at hc'
    exact (back0 F n h61 hro l Bs cap a J W hc' h0).mono fun e W' ⟨he, hj⟩ => ⟨he, .inl ⟨_, rfl, by rw [h]; exact hj⟩⟩
  · obtain rfl := r.addr h
    exact back1 F n h61 hro hn l Bs n₀ g cap L hlen r.room hB (hg h) J Jx hY W hc' (fun j hj => (r.cells j hj).keep (hW.block g (Nat.lt_of_lt_of_le (hg h) hn₀))) h0
end Go.Proofs.Ytnkdjnfbllkgiab.base
