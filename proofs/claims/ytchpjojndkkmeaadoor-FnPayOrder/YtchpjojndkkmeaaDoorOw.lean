/-
  Plain helpers of this seat's proofs: what is owed. Conditions: none.
-/
import Derived.Test.YtchpjojndkkmeaaDoorSmI
namespace Go.Proofs.YtchpjojndkkmeaaDoor.base
open Go.ChangeShapes Go.WideShapes Go.ChangeAt Go.RowKit
open seven (F7 zz Row At)
open pl (inR prOk pok)
open gen
def ow (x : F7) : Int := x.2.1 + x.2.2.1 + x.2.2.2.1 - x.2.2.2.2.1 - x.2.2.2.2.2.1 - x.2.2.2.2.2.2
/-- Sums that are small enough to be added. -/
structure Sml (x : F7) : Prop where
  a1 : 0 ≤ x.2.1
  a2 : x.2.1 ≤ 24000000000000
  b1 : 0 ≤ x.2.2.1
  b2 : x.2.2.1 ≤ 24000000000000
  c1 : 0 ≤ x.2.2.2.1
  c2 : x.2.2.2.1 ≤ 24000000000000
  d1 : 0 ≤ x.2.2.2.2.1
  d2 : x.2.2.2.2.1 ≤ 24000000000000
  e1 : 0 ≤ x.2.2.2.2.2.1
  e2 : x.2.2.2.2.2.1 ≤ 24000000000000
  f1 : 0 ≤ x.2.2.2.2.2.2
  f2 : x.2.2.2.2.2.2 ≤ 24000000000000
theorem sml_sums {l : List F7} (h : pl.PV l) : Sml (pl.sums l) := by
  rw [pl.sums_t (pl.pv_t h)]
  have s := pl.sin h (k := l.length) (Nat.le_refl _)
  have k := h.1
  obtain ⟨_, p0, p1, i0, i1, f0, f1, q0, q1, j0, j1, g0, g1⟩ := s
  constructor <;> omega
theorem sums_d {l : List F7} (h : pl.PV l) : (pl.sums l).1 = 0 := by
  rw [pl.sums_t (pl.pv_t h)]
  exact (pl.sin h (k := l.length) (Nat.le_refl _)).d
set_option maxHeartbeats 1000000 in
theorem owC (a0 a1 a2 a3 a4 a5 a6 : Int) (w : World) (h : Sml (a0, a1, a2, a3, a4, a5, a6)) : Calls Tryd.prog 20 #[.agg #[.int .i64 a0, .int .i64 a1, .int .i64 a2, .int .i64 a3, .int .i64 a4, .int .i64 a5, .int .i64 a6]] w fun e w' => e = .returned (.int .i64 (ow (a0, a1, a2, a3, a4, a5, a6))) ∧ Below w.heap.size w w' := by
  obtain ⟨h1, h2, h3, h4, h5, h6, h7, h8, h9, h10, h11, h12⟩ := h
  dsimp only at h1 h2 h3 h4 h5 h6 h7 h8 h9 h10 h11 h12
  unfold ow
  dsimp only
  go_enter Tryd.func20, Tryd.ntmps20
  go_wp2
  go_ret
  exact ⟨rfl, (Below.refl _ _).alloc (Nat.le_refl _) _⟩
end Go.Proofs.YtchpjojndkkmeaaDoor.base
