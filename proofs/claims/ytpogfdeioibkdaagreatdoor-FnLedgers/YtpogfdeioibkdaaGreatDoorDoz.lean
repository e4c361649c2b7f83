/-
  Plain helpers of this seat's proofs: what the list of four tables says of memory. Conditions: none.
-/
import Derived.Test.YtpogfdeioibkdaaGreatDoorPtj
import Derived.Test.YtpogfdeioibkdaaGreatDoorCards
import Derived.Test.YtpogfdeioibkdaaGreatDoorTie
namespace Go.Proofs.YtpogfdeioibkdaaGreatDoor.doo
open Go.ChangeShapes Go.WideShapes Go.ChangeAt Go.RowKit
theorem own : ownKnob Tryz.prog.godebug = none := by kernel_rfl
theorem laidOut : laidOutB Tryz.prog = true := by kernel_rfl
theorem tPow : (Tryz.prog.globals[2]?).map (·.type) = some 119 := by kernel_rfl
theorem four {W : World} (h : laidMetH Tryz.prog Rows.fnLedgersRow.laid W) : laidMet Tryz.prog [("math/bits.deBruijn32tab", Rows.laid_math_bits_deBruijn32tab), ("math/bits.deBruijn64tab", Rows.laid_math_bits_deBruijn64tab), ("internal/strconv.uint64pow10", Rows.laid_internal_strconv_uint64pow10), ("loop.example/g00714/impl.currencies", Rows.laid_loop_example_g00714_impl_currencies)] W := by
  rw [MakeChecks.laidMetH_plain _ _ _ (by kernel_rfl)] at h
  exact h
theorem cur_four {W : World} (h : laidMetH Tryz.prog Rows.fnLedgersRow.laid W) : cur.Cur W := by
  obtain ⟨ps, h, _⟩ := (four h).tail.tail.tail
  exact cur.cur_of h
theorem pow_four {W : World} (h : laidMetH Tryz.prog Rows.fnLedgersRow.laid W) : ptm.Pow W := by
  have h := (four h).tail.tail
  refine Lib.tabIs_of_head ptm.gPow tPow Tryz.underlying119 Tryz.underlying104 (by kernel_rfl) (by kernel_rfl) (rest := [("loop.example/g00714/impl.currencies", Rows.laid_loop_example_g00714_impl_currencies)]) ?_
  exact h
theorem lt_of_cell {W : World} {b o : Nat} {v : Value} (e0 : W.cell? ⟨b, o, none⟩ = some v) : b < W.heap.size := by
  unfold World.cell? at e0
  cases hh : W.heap[b]? with
  | none => simp [hh] at e0
  | some o => exact (Array.getElem?_eq_some_iff.1 hh).1
theorem pow_lt {W : World} (h : ptm.Pow W) : 2 < W.heap.size := lt_of_cell (h.cell ptm.gPow 0 (by decide))
end Go.Proofs.YtpogfdeioibkdaaGreatDoor.doo
