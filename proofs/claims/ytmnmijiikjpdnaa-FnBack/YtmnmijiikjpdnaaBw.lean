/-
  Plain helpers of this seat's proofs: what the landed iterator over Parts from the last one on hands on. Conditions: none.
-/
import Derived.Test.YtmnmijiikjpdnaaRk
import Derived.Test.YtmnmijiikjpdnaaPoI
import Derived.RangeFuncNested
import Derived.RangeFuncBound
import Derived.RangeFuncCalls
import Derived.RangeFuncLeaves
import Derived.Shelf.Abstract
import Derived.Shelf.AbstractIn
import Derived.Shelf.RegionOpen
import Derived.OwnWalkIn
import Derived.TacticsInMore
import Derived.LoopNIn
import Derived.LoopIn
import Derived.Stop.RegionWithIn
namespace Go.Proofs.Ytmnmijiikjpdnaa.base
open Go.ChangeShapes Go.WideShapes Go.ChangeAt Go.RowKit
open seven (F7 zz Row At)
open pl (inR prOk pok)
open gen
open Go.Shelf
attribute [local go_sem] Oper.semAt_some
def encB (x : Nat × F7) : Array Value := #[.int .i64 (x.1 : Int), .agg #[.int .i64 x.2.1, .int .i64 x.2.2.1, .int .i64 x.2.2.2.1, .int .i64 x.2.2.2.2.1, .int .i64 x.2.2.2.2.2.1, .int .i64 x.2.2.2.2.2.2.1, .int .i64 x.2.2.2.2.2.2.2]]
def encP (g : Nat) (j : Nat) : Array Value := #[.pointer (some ⟨g, j * 7, none⟩)]
/-- What is read while the Parts are handed on. -/
structure Rb (g Bs len cap k : Nat) (W : World) : Prop where
  hd : W.cell? ⟨Bs, 0, none⟩ = some (.slice (some ⟨g, 0, none⟩) len cap)
  pt : ∀ i, i + 1 + k = len → ∃ x, At W g (i * 7) x
set_option maxRecDepth 100000 in
set_option maxHeartbeats 4000000 in
theorem bwIt (n : Nat) (hn : 1 ≤ n) (g Bs len cap : Nat) (hlen : len ≤ 24) :
    rf.IterK Fence.wide n Try.prog 72 #[.pointer (some ⟨Bs, 0, none⟩)] encB (fun pre => Rb g Bs len cap pre.length) (fun pre x => x.1 + 1 + pre.length = len) (fun xs => xs.length = len) := by
  intro l J Jx W hst hsx hQ hY h0
  have HQ := Lib.hid hQ
  have HY := Lib.hid hY
  have hh0 := (hQ _ _ h0).hd
  clear hst hsx hQ hY
  have hro : Fence.wide.round = none := rfl
  refine callsIn_of_wp Try.func72 rfl trivial ?_ hro
  simp only [Try.ntmps72, List.size_toArray, List.length_cons, List.length_nil, Nat.reduceAdd, Nat.reduceSub, Array.replicate_succ, Array.replicate_zero, List.push_toArray, List.append_toArray, List.nil_append, List.cons_append]
  gi_wp2
  gi_loopw [3] (fun i wr => ∃ (pre : List (Nat × F7)) (m : Nat), m + pre.length = len ∧ i = .int .i64 ((m : Int) - 1) ∧ J pre wr) (fun i _ => (intOf i + 1).toNat)
  case atStart => exact ⟨[], len, by simp, by go_num, h0⟩
  case round =>
    obtain ⟨pre, m, hm, rfl, hJs⟩ := hrel
    cases m with
    | zero =>
      have hm' : pre.length = len := by omega
      gi_wp2
      go_end0
      exact ⟨⟨_, rfl⟩, .inl ⟨_, hm', hJs⟩⟩
    | succ j =>
      have ej : (((j + 1 : Nat) : Int) - 1) = (j : Int) := by omega
      rw [ej]
      clear ej
      have hs := (HQ.out _ _ hJs).hd
      obtain ⟨x, q⟩ := (HQ.out _ _ hJs).pt j (by omega)
      obtain ⟨x1, x2, x3, x4, x5, x6, x7⟩ := q
      obtain ⟨fn, tmps, assign, body, hy, hR⟩ := HY.out pre (j, x) wr hJs (by show j + 1 + pre.length = len; omega)
      dsimp only [encB] at hy
      have z0 : (0 : Int) ≤ (j : Int) := by omega
      have z1 : (j : Int) < (len : Int) := by omega
      gi_wp2
      refine hR.mono ?_
      rintro e W3 (⟨rfl, hJ3, hk3⟩ | ⟨rfl, hJx3, hk3⟩)
      · gi_wp2
        go_roundw
        case rel => exact ⟨pre ++ [(j, x)], j, by simp; omega, by go_num, hJ3⟩
        case measure => simp [intOf]
      · gi_wp2
        refine bodyPost_ret (results_none rfl _ _ _) rfl ?_
        exact ⟨⟨_, rfl⟩, .inr ⟨_, hJx3⟩⟩
theorem b7C (a : Option Addr) (len cap : Nat) (w : World) : Calls Try.prog 67 #[.slice a len cap] w fun e w' => e = .returned (.func (.func 72) #[] #[.pointer (some ⟨w.heap.size, 0, none⟩)]) ∧ w' = w.alloc (.cells #[.slice a len cap] 24) := by
  go_enter Try.func67, Try.ntmps67
  go_wp2
  go_ret
  exact ⟨rfl, rfl⟩
theorem bwC (a : Option Addr) (len cap : Nat) (w : World) : Calls Try.prog 48 #[.slice a len cap] w fun e w' => e = .returned (.func (.func 66) #[] #[.pointer (some ⟨w.heap.size, 0, none⟩)]) ∧ w' = w.alloc (.cells #[.slice a len cap] 24) := by
  go_enter Try.func48, Try.ntmps48
  go_wp2
  go_ret
  exact ⟨rfl, rfl⟩
end Go.Proofs.Ytmnmijiikjpdnaa.base
