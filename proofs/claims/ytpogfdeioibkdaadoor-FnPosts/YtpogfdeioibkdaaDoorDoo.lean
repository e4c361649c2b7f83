/-
  Plain helpers of this seat's proofs: what the list of four tables says of memory; arguments that are posts. Conditions: none.
-/
import Derived.Test.YtpogfdeioibkdaaDoorPtj
import Derived.Test.YtpogfdeioibkdaaDoorOpA
import Derived.Test.YtpogfdeioibkdaaDoorCards
import Derived.Test.YtpogfdeioibkdaaDoorTie
namespace Go.Proofs.YtpogfdeioibkdaaDoor.doo
open Go.ChangeShapes Go.WideShapes Go.ChangeAt Go.RowKit
open led (F5 z5)
theorem own : ownKnob Tryd.prog.godebug = none := by kernel_rfl
theorem laidOut : laidOutB Tryd.prog = true := by kernel_rfl
theorem tPow : (Tryd.prog.globals[2]?).map (·.type) = some 126 := by kernel_rfl
theorem four {W : World} (h : laidMetH Tryd.prog Rows.fnExactPostTextRow.laid W) : laidMet Tryd.prog [("math/bits.deBruijn32tab", Rows.laid_math_bits_deBruijn32tab), ("math/bits.deBruijn64tab", Rows.laid_math_bits_deBruijn64tab), ("internal/strconv.uint64pow10", Rows.laid_internal_strconv_uint64pow10), ("loop.example/g00714/impl.currencies", Rows.laid_loop_example_g00714_impl_currencies)] W := by
  rw [MakeChecks.laidMetH_plain _ _ _ (by kernel_rfl)] at h
  exact h
theorem cur_four {W : World} (h : laidMetH Tryd.prog Rows.fnExactPostTextRow.laid W) : cur.Cur W := by
  obtain ⟨ps, h, _⟩ := (four h).tail.tail.tail
  exact cur.cur_of h
theorem pow_four {W : World} (h : laidMetH Tryd.prog Rows.fnExactPostTextRow.laid W) : ptm.Pow W := by
  have h := (four h).tail.tail
  refine Lib.tabIs_of_head ptm.gPow tPow Tryd.underlying126 Tryd.underlying85 (by kernel_rfl) (by kernel_rfl) (rest := [("loop.example/g00714/impl.currencies", Rows.laid_loop_example_g00714_impl_currencies)]) ?_
  exact h
theorem lt_of_cell {W : World} {b o : Nat} {v : Value} (e0 : W.cell? ⟨b, o, none⟩ = some v) : b < W.heap.size := by
  unfold World.cell? at e0
  cases hh : W.heap[b]? with
  | none => simp [hh] at e0
  | some o => exact (Array.getElem?_eq_some_iff.1 hh).1
theorem pow_lt {W : World} (h : ptm.Pow W) : 2 < W.heap.size := lt_of_cell (h.cell ptm.gPow 0 (by decide))
section
variable {H : Type} {enc : TypeId × Value → H} {w : World} {base base' : Nat} {spare : Nat → Bool} {held : Bool}
set_option maxRecDepth 100000 in
theorem open_post {v : Value} {d : DataW H} {p : List MemPlace} (hok : Value.okWide Tryd.prog w .any base 35 v) (h : DataW.Trod enc Tryd.prog w base' spare held 35 v d p) :
    ∃ y : F5, v = .agg #[.int .i64 y.1, .int .i64 y.2.1, .int .i64 y.2.2.1, .int .i64 y.2.2.2.1, .int .i64 y.2.2.2.2] := by
  obtain ⟨cs, rfl, _⟩ := okWide_struct Tryd.underlying35 hok
  obtain ⟨fuel, hf⟩ := h
  obtain ⟨y, e, _⟩ := five.post_cells hf
  refine ⟨y, ?_⟩
  have e' : cs.toList = [Value.int .i64 y.1, .int .i64 y.2.1, .int .i64 y.2.2.1, .int .i64 y.2.2.2.1, .int .i64 y.2.2.2.2] := e
  obtain ⟨l⟩ := cs
  simp at e'
  rw [e']
end
end Go.Proofs.YtpogfdeioibkdaaDoor.doo
