/-
  Plain helpers: what the list of four tables says of memory. Conditions: none.
-/
import Derived.Test.YtlpeadkkkmpccabDoorPad
namespace Go.Proofs.YtlpeadkkkmpccabDoor.dec
open Go.ChangeShapes Go.WideShapes Go.ChangeAt Go.RowKit

theorem tPow : (Tryd.prog.globals[1]?).map (·.type) = some 85 := by kernel_rfl
theorem four {W : World} (h : laidMetH Tryd.prog Rows.fnExactDateTextRow.laid W) : laidMet Tryd.prog [("math/bits.deBruijn32tab", Rows.laid_math_bits_deBruijn32tab), ("math/bits.deBruijn64tab", Rows.laid_math_bits_deBruijn64tab), ("internal/strconv.uint64pow10", Rows.laid_internal_strconv_uint64pow10), ("loop.example/g00714/impl.monthLengths", Rows.laid_loop_example_g00714_impl_monthLengths)] W := by
  rw [MakeChecks.laidMetH_plain _ _ _ (by kernel_rfl)] at h
  exact h
theorem mon_four {W : World} (h : laidMetH Tryd.prog Rows.fnExactDateTextRow.laid W) : base.Mon W := base.mon_of (four h).tail.tail.tail
theorem pow_four {W : World} (h : laidMetH Tryd.prog Rows.fnExactDateTextRow.laid W) : Pow W := by
  have h := (four h).tail.tail
  refine Lib.tabIs_of_head gPow tPow Tryd.underlying85 Tryd.underlying51 (by kernel_rfl) (by kernel_rfl) (rest := [("loop.example/g00714/impl.monthLengths", Rows.laid_loop_example_g00714_impl_monthLengths)]) ?_
  exact h
theorem two_four {W : World} (h : laidMetH Tryd.prog Rows.fnExactDateTextRow.laid W) : 1 < W.heap.size := base.lt_of_cell ((pow_four h).cell gPow 0 (by decide))
end Go.Proofs.YtlpeadkkkmpccabDoor.dec
