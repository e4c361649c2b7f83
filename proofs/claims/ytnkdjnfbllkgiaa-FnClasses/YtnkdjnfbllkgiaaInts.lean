/-
  Plain helpers: slices of numbers in memory, and contracts of the functions that compare them. Conditions: none.
-/
import Derived.Test.YtnkdjnfbllkgiaaRows
import Derived.Test.YtnkdjnfbllkgiaaLift
import Derived.Deep.QuietTactic
import Derived.BigQuiet
namespace Go.Proofs.Ytnkdjnfbllkgiaa.rows
open Go.ChangeShapes Go.WideShapes Go.ChangeAt Go.RowKit

/-- A slice of 64-bit numbers in block g of memory: nil, or the cells from the block's head on. -/
structure Row (w : World) (a : Option Addr) (cap g : Nat) (zs : List Int) : Prop where
  addr : 0 < zs.length → a = some ⟨g, 0, none⟩
  room : zs.length ≤ cap
  cells : ∀ i, i < zs.length → w.cell? ⟨g, i, none⟩ = some (.int .i64 (zs.getD i 0))
  free : 0 < zs.length → ∀ i, w.frozen? ⟨g, i, none⟩ = false

theorem of_owns {w : World} {B : Nat} {v : Value} {zs : List Int} (h : w.ownsRow B 2 1 v zs.length (zs.map (Value.int .i64))) :
    ∃ a cap g, v = .slice a zs.length cap ∧ Row w a cap g zs ∧ (0 < zs.length → B ≤ g ∧ g < w.heap.size) := by
  obtain ⟨h1, h2⟩ := h
  rcases h2 with ⟨rfl, h2⟩ | ⟨g, cap, cur, rfl, hg, hh, hn, hm, hs, ht⟩
  · refine ⟨none, 0, 0, by rw [h2], ⟨fun h => by omega, by omega, fun i hi => by omega, fun h => by omega⟩, fun h => by omega⟩
  · refine ⟨_, cap, g, rfl, ⟨fun _ => rfl, hn, fun i hi => ?_, fun _ i => ?_⟩, fun _ => ⟨hg, (Array.getElem?_eq_some_iff.1 hh).1⟩⟩
    · have e : cur[i]? = some (.int .i64 (zs.getD i 0)) := by
        have q : (cur.toList.take (zs.length * 1))[i]? = (zs.map (Value.int .i64))[i]? := by rw [ht]
        rw [Nat.mul_one, List.getElem?_take, if_pos hi] at q
        rw [← Array.getElem?_toList, q]
        simp [List.getElem?_map, List.getElem?_eq_getElem hi]
      unfold World.cell?
      simp [hh, e]
    · unfold World.frozen?
      simp [hh]

theorem Row.keep {w w' : World} {a : Option Addr} {cap g : Nat} {zs : List Int} (r : Row w a cap g zs) (hb : 0 < zs.length → w'.heap[g]? = w.heap[g]?) : Row w' a cap g zs := by
  refine ⟨r.addr, r.room, fun i hi => ?_, fun h i => ?_⟩
  · rw [World.cell?_of_block (w := w) (a := ⟨g, i, none⟩) (hb (by omega))]; exact r.cells i hi
  · rw [World.frozen?_of_block (w := w) (a := ⟨g, i, none⟩) (hb h)]; exact r.free h i

def Drawn (w : World) (t : Bool) (e : Ending) (w' : World) : Prop := e = .returned (.bool t) ∧ ∃ n, w' = w.drewN n


set_option maxHeartbeats 400000 in
/-- Two slices of the same numbers: the answer is yes. -/
theorem eqT (w : World) (a1 a2 : Option Addr) (c1 c2 g1 g2 : Nat) (zs : List Int) (r1 : Row w a1 c1 g1 zs) (r2 : Row w a2 c2 g2 zs) (hn : zs.length ≤ 1048576) :
    Calls Try.prog 25 #[.slice a1 zs.length c1, .slice a2 zs.length c2] w (Drawn w true) := by
  have R1 := Lib.hid r1
  have R2 := Lib.hid r2
  have e1 := r1.addr
  have e2 := r2.addr
  have m1 := r1.room
  have m2 := r2.room
  clear r1 r2
  obtain ⟨n, hnz⟩ : ∃ n, n = zs.length := ⟨_, rfl⟩
  rw [← hnz] at hn e1 e2 m1 m2 ⊢
  have HNZ := Lib.hid hnz
  clear hnz
  rcases Nat.eq_zero_or_pos n with rfl | hp
  · clear e1 e2
    go_enter Try.func25, Try.ntmps25
    go_wp2
    go_loop [5] (fun i => i = .int .i64 0) (fun _ => 0)
    case atStart => exact rfl
    case round =>
      obtain rfl := hrel
      go_wp2
      go_ret
      exact ⟨rfl, 0, rfl⟩
  · obtain rfl := e1 hp
    obtain rfl := e2 hp
    clear e1 e2
    go_enter Try.func25, Try.ntmps25
    go_wp2
    go_loopw [5] (fun i wr => (∃ q, wr = w.drewN q) ∧ ∃ k : Nat, k ≤ n ∧ i = .int .i64 k) (fun i _ => n - (intOf i).toNat)
    case atStart => exact ⟨⟨0, rfl⟩, 0, by omega, rfl⟩
    case round =>
      obtain ⟨⟨q, hq⟩, k, hk, rfl⟩ := hrel
      subst hq
      by_cases hlt : k < n
      · have x1 := R1.out.cells k (by rw [← HNZ.out]; exact hlt)
        have x2 := R2.out.cells k (by rw [← HNZ.out]; exact hlt)
        have y1 : (k : Int) < (n : Int) := by omega
        have u1 : decide ((k : Int) < (n : Int)) = true := by simp; omega
        go_wp2
        go_quiet (fail)
        go_wp2
        go_roundw
        case rel => exact ⟨⟨_, rfl⟩, k + 1, by omega, by go_num⟩
        case measure => simp [intOf]; omega
      · have u1 : decide ((k : Int) < (n : Int)) = false := by simp; omega
        go_wp2
        go_ret
        exact ⟨rfl, q, rfl⟩

set_option maxHeartbeats 400000 in
/-- Two slices of the same numbers: the answer is yes. -/
theorem sameT (w : World) (a1 a2 : Option Addr) (c1 c2 g1 g2 : Nat) (zs : List Int) (r1 : Row w a1 c1 g1 zs) (r2 : Row w a2 c2 g2 zs) (hn : zs.length ≤ 1048576) :
    Calls Try.prog 37 #[.slice a1 zs.length c1, .slice a2 zs.length c2] w (Drawn w true) := by
  have R1 := Lib.hid r1
  have R2 := Lib.hid r2
  have e1 := r1.addr
  have e2 := r2.addr
  have m1 := r1.room
  have m2 := r2.room
  clear r1 r2
  obtain ⟨n, hnz⟩ : ∃ n, n = zs.length := ⟨_, rfl⟩
  rw [← hnz] at hn e1 e2 m1 m2 ⊢
  have HNZ := Lib.hid hnz
  clear hnz
  rcases Nat.eq_zero_or_pos n with rfl | hp
  · clear e1 e2
    go_enter Try.func37, Try.ntmps37
    go_wp2
    go_loop [5] (fun i => i = .int .i64 0) (fun _ => 0)
    case atStart => exact rfl
    case round =>
      obtain rfl := hrel
      go_wp2
      go_ret
      exact ⟨rfl, 0, rfl⟩
  · obtain rfl := e1 hp
    obtain rfl := e2 hp
    clear e1 e2
    go_enter Try.func37, Try.ntmps37
    go_wp2
    go_loopw [5] (fun i wr => (∃ q, wr = w.drewN q) ∧ ∃ k : Nat, k ≤ n ∧ i = .int .i64 k) (fun i _ => n - (intOf i).toNat)
    case atStart => exact ⟨⟨0, rfl⟩, 0, by omega, rfl⟩
    case round =>
      obtain ⟨⟨q, hq⟩, k, hk, rfl⟩ := hrel
      subst hq
      by_cases hlt : k < n
      · have x1 := R1.out.cells k (by rw [← HNZ.out]; exact hlt)
        have x2 := R2.out.cells k (by rw [← HNZ.out]; exact hlt)
        have y1 : (k : Int) < (n : Int) := by omega
        have u1 : decide ((k : Int) < (n : Int)) = true := by simp; omega
        go_wp2
        go_quiet (fail)
        go_wp2
        go_roundw
        case rel => exact ⟨⟨_, rfl⟩, k + 1, by omega, by go_num⟩
        case measure => simp [intOf]; omega
      · have u1 : decide ((k : Int) < (n : Int)) = false := by simp; omega
        go_wp2
        go_ret
        exact ⟨rfl, q, rfl⟩
end Go.Proofs.Ytnkdjnfbllkgiaa.rows
