/-
  Plain helpers of this seat's proofs: the contracts of slices.Grow from nothing and of slices.Concat of two slices of rates. Conditions: none.
-/
import Derived.Shelf.Spec.SlicesGrow
import Derived.Maps.AppendAt
import Derived.Test.YtnkdjnfbllkgiabDrawRs
namespace Go.Proofs
open Go.Shelf
def Try.grow_ren : Go.Shelf.Ren := ⟨fun | 4 => 54 | n => n, fun | 25 => 25 | 22 => 31 | n => n, fun | n => n⟩
theorem Try.growL : Go.Proofs.Lays8.n4 Try.prog Try.grow_ren := {
  mixed := by kernel_rfl
  f4 := ⟨Try.f54.name, by decide, Try.func54.trans (congrArg some (by kernel_rfl))⟩
  t0 := Try.underlying0
  a0 := Try.isAgg0
  z0 := Try.sizeOf0
  v0 := Try.zeroValue0
  t3 := Try.underlying3
  a3 := Try.isAgg3
  z3 := Try.sizeOf3
  v3 := Try.zeroValue3
  t4 := Try.underlying4
  a4 := Try.isAgg4
  z4 := Try.sizeOf4
  v4 := Try.zeroValue4
  t9 := Try.underlying9
  a9 := Try.isAgg9
  z9 := Try.sizeOf9
  v9 := Try.zeroValue9
  t20 := Try.underlying20
  a20 := Try.isAgg20
  z20 := Try.sizeOf20
  v20 := Try.zeroValue20
  t22 := Try.underlying31
  a22 := Try.isAgg31
  z22 := Try.sizeOf31
  v22 := Try.zeroValue31 }
end Go.Proofs
namespace Go.Proofs.Ytnkdjnfbllkgiab.draw
open Go.ChangeShapes Go.WideShapes Go.ChangeAt Go.RowKit
open led (F5 z5)
open five (Row At Blk)
/-- Room for n rates, none laid yet. -/
theorem growN (n : Nat) (w : World) (h1 : 1 ≤ n) (h2 : n ≤ 1048578) : Calls Try.prog 54 #[.slice none 0 0, .int .i64 n] w fun e w' =>
    ∃ cap, e = .returned (.slice (some ⟨w.heap.size, 0, none⟩) 0 cap) ∧ w'.ownsRow w.heap.size 25 5 (.slice (some ⟨w.heap.size, 0, none⟩) 0 cap) 0 (fl []) ∧ Below w.heap.size w w' := by
  obtain ⟨i5, hi, hz, hs, hb⟩ := info_parts five.infoE
  have h := Any8.slices_Grow_grow Try.growL i5 (.agg #[.int .i64 0, .int .i64 0, .int .i64 0, .int .i64 0, .int .i64 0]) hi hz (by rw [hs]; decide) none 0 0 n [] w (Nat.le_refl _) (by omega) (by rw [hb]; omega) (by omega) (by simp) (fun _ => rfl) (fun a e => by cases e)
  refine h.mono fun e w' ⟨he, hw⟩ => ?_
  subst hw
  have hge := grownCap_ge w (0 + n) 0 25
  have hcm : grownCap w (0 + n) 0 25 ≤ maxLen := grownCap_le_maxLen w (0 + n) 0 25 (by unfold maxLen; omega)
  refine ⟨grownCap w (0 + n) 0 25, he, ⟨rfl, .inr ⟨w.heap.size, _, _, rfl, Nat.le_refl _, heap_alloc_new w.drew _, Nat.zero_le _, hcm, ?_, by simp [fl]⟩⟩, (Below.refl w.heap.size w).drew.alloc (Nat.le_refl _) _⟩
  have zc : (Value.agg #[.int .i64 0, .int .i64 0, .int .i64 0, .int .i64 0, .int .i64 0]).cells.size = 5 := rfl
  show (_ ++ _ ++ _ : Array Value).size = _
  simp only [Array.size_append, List.size_toArray, List.length_nil, size_zeroCells, zc]
  show 0 + (0 + n - 0) * 5 + (grownCap w (0 + n) 0 25 - (0 + n)) * 5 = _
  omega
end Go.Proofs.Ytnkdjnfbllkgiab.draw
