/-
  Plain helpers: the two functions that write an amount, at every argument; what the list of four tables says of memory. Conditions: none.
-/
import Derived.Test.YtlpeadkkkmpccaaDoorAmt2
namespace Go.Proofs.YtlpeadkkkmpccaaDoor.amt
open Go.ChangeShapes Go.WideShapes Go.ChangeAt Go.RowKit

/-- A currency and an amount. -/
def okA (k n : Int) : Prop := 0 ≤ k ∧ k ≤ 5 ∧ -1000000000000 ≤ n ∧ n ≤ 1000000000000
instance (k n : Int) : Decidable (okA k n) := inferInstanceAs (Decidable (_ ∧ _))
/-- The text of an amount. -/
def atx (k n : Int) : List UInt8 := if okA k n then (if n < 0 then 45 :: body (plc k) n.natAbs else body (plc k) n.natAbs) else []

theorem impl_no (k n : Int) (w : World) (h : ¬ okA k n) : Calls Tryd.prog 20 #[.int .i64 k, .int .i64 n] w fun e w' => e = .returned (.string ⟨#[]⟩) ∧ w = w' := by
  unfold okA at h
  by_cases h1 : k < 0
  · have t1 : decide (0 ≤ k) = false := by simp; omega
    clear h
    go_enter Tryd.func20, Tryd.ntmps20
    go_wp2
    go_ret
    exact ⟨rfl, rfl⟩
  · have t1 : decide (0 ≤ k) = true := by simp; omega
    by_cases h2 : 5 < k
    · have t2 : decide (k < 6) = false := by simp; omega
      clear h
      go_enter Tryd.func20, Tryd.ntmps20
      go_wp2
      go_ret
      exact ⟨rfl, rfl⟩
    · have t2 : decide (k < 6) = true := by simp; omega
      by_cases h3 : n < -1000000000000
      · have t3 : decide (-1000000000000 ≤ n) = false := by simp; omega
        clear h
        go_enter Tryd.func20, Tryd.ntmps20
        go_wp2
        go_ret
        exact ⟨rfl, rfl⟩
      · have t3 : decide (-1000000000000 ≤ n) = true := by simp; omega
        have t4 : decide (n ≤ 1000000000000) = false := by simp; omega
        clear h
        go_enter Tryd.func20, Tryd.ntmps20
        go_wp2
        go_ret
        exact ⟨rfl, rfl⟩

theorem spec_no (k n : Int) (w : World) (h : ¬ okA k n) : Calls Tryd.prog 24 #[.int .i64 k, .int .i64 n] w fun e w' => e = .returned (.string ⟨#[]⟩) ∧ w = w' := by
  unfold okA at h
  by_cases h1 : k < 0
  · have t1 : decide (0 ≤ k) = false := by simp; omega
    clear h
    go_enter Tryd.func24, Tryd.ntmps24
    go_wp2
    go_ret
    exact ⟨rfl, rfl⟩
  · have t1 : decide (0 ≤ k) = true := by simp; omega
    by_cases h2 : 5 < k
    · have t2 : decide (k ≤ 5) = false := by simp; omega
      clear h
      go_enter Tryd.func24, Tryd.ntmps24
      go_wp2
      go_ret
      exact ⟨rfl, rfl⟩
    · have t2 : decide (k ≤ 5) = true := by simp; omega
      by_cases h3 : n < -1000000000000
      · have t3 : decide (-1000000000000 ≤ n) = false := by simp; omega
        clear h
        go_enter Tryd.func24, Tryd.ntmps24
        go_wp2
        go_ret
        exact ⟨rfl, rfl⟩
      · have t3 : decide (-1000000000000 ≤ n) = true := by simp; omega
        have t4 : decide (n ≤ 1000000000000) = false := by simp; omega
        clear h
        go_enter Tryd.func24, Tryd.ntmps24
        go_wp2
        go_ret
        exact ⟨rfl, rfl⟩

theorem impl (k n : Int) (w : World) (c : base.Cur w) (hp : dec.Pow w) : Calls Tryd.prog 20 #[.int .i64 k, .int .i64 n] w fun e w' => e = .returned (.string ⟨(atx k n).toArray⟩) ∧ Below w.heap.size w w' := by
  unfold atx
  by_cases h : okA k n
  · obtain ⟨h1, h2, h3, h4⟩ := id h
    rw [if_pos h]
    by_cases hn : n < 0
    · rw [if_pos hn]
      obtain ⟨a, rfl⟩ : ∃ a : Nat, n = -(a : Int) := ⟨n.natAbs, by omega⟩
      rw [show (-(a : Int)).natAbs = a by omega]
      rcases Nat.eq_zero_or_pos (plc k) with hz | hz
      · rw [hz]; exact impl_neg0 k a w c hp h1 h2 hz (by omega) (by omega)
      · have hl := len_pad a (plc k + 1)
        exact impl_neg1 k a (plc k) ((dec.padL a (plc k + 1)).length - plc k) hz (by omega) w c hp h1 h2 rfl (by omega) (by omega)
    · rw [if_neg hn]
      obtain ⟨a, rfl⟩ : ∃ a : Nat, n = (a : Int) := ⟨n.natAbs, by omega⟩
      rw [show (a : Int).natAbs = a by omega]
      rcases Nat.eq_zero_or_pos (plc k) with hz | hz
      · rw [hz]; exact impl_pos0 k a w c hp h1 h2 hz (by omega)
      · have hl := len_pad a (plc k + 1)
        exact impl_pos1 k a (plc k) ((dec.padL a (plc k + 1)).length - plc k) hz (by omega) w c hp h1 h2 rfl (by omega)
  · rw [if_neg h]
    exact (impl_no k n w h).mono fun _ _ q => ⟨q.1, q.2 ▸ Below.refl _ _⟩

theorem spec (k n : Int) (w : World) : Calls Tryd.prog 24 #[.int .i64 k, .int .i64 n] w fun e w' => e = .returned (.string ⟨(atx k n).toArray⟩) ∧ Below w.heap.size w w' := by
  unfold atx
  by_cases h : okA k n
  · obtain ⟨h1, h2, h3, h4⟩ := id h
    rw [if_pos h]
    by_cases hn : n < 0
    · rw [if_pos hn]
      obtain ⟨a, rfl⟩ : ∃ a : Nat, n = -(a : Int) := ⟨n.natAbs, by omega⟩
      rw [show (-(a : Int)).natAbs = a by omega]
      rcases Nat.eq_zero_or_pos (plc k) with hz | hz
      · rw [hz]; exact spec_neg0 k a w h1 h2 hz (by omega) (by omega)
      · have hl := len_pad a (plc k + 1)
        exact spec_neg1 k a (plc k) ((dec.padL a (plc k + 1)).length - plc k) hz (by omega) w h1 h2 rfl (by omega) (by omega)
    · rw [if_neg hn]
      obtain ⟨a, rfl⟩ : ∃ a : Nat, n = (a : Int) := ⟨n.natAbs, by omega⟩
      rw [show (a : Int).natAbs = a by omega]
      rcases Nat.eq_zero_or_pos (plc k) with hz | hz
      · rw [hz]; exact spec_pos0 k a w h1 h2 hz (by omega)
      · have hl := len_pad a (plc k + 1)
        exact spec_pos1 k a (plc k) ((dec.padL a (plc k + 1)).length - plc k) hz (by omega) w h1 h2 rfl (by omega)
  · rw [if_neg h]
    exact (spec_no k n w h).mono fun _ _ q => ⟨q.1, q.2 ▸ Below.refl _ _⟩

theorem tPow : (Tryd.prog.globals[2]?).map (·.type) = some 95 := by kernel_rfl
theorem four {W : World} (h : laidMetH Tryd.prog Rows.fnExactAmountTextRow.laid W) : laidMet Tryd.prog [("math/bits.deBruijn32tab", Rows.laid_math_bits_deBruijn32tab), ("math/bits.deBruijn64tab", Rows.laid_math_bits_deBruijn64tab), ("internal/strconv.uint64pow10", Rows.laid_internal_strconv_uint64pow10), ("loop.example/g00714/impl.currencies", Rows.laid_loop_example_g00714_impl_currencies)] W := by
  rw [MakeChecks.laidMetH_plain _ _ _ (by kernel_rfl)] at h
  exact h
theorem cur_four {W : World} (h : laidMetH Tryd.prog Rows.fnExactAmountTextRow.laid W) : base.Cur W := by
  obtain ⟨ps, h, _⟩ := (four h).tail.tail.tail
  exact base.cur_of h
theorem pow_four {W : World} (h : laidMetH Tryd.prog Rows.fnExactAmountTextRow.laid W) : dec.Pow W := by
  have h := (four h).tail.tail
  refine Lib.tabIs_of_head dec.gPow tPow Tryd.underlying95 Tryd.underlying64 (by kernel_rfl) (by kernel_rfl) (rest := [("loop.example/g00714/impl.currencies", Rows.laid_loop_example_g00714_impl_currencies)]) ?_
  exact h
theorem lt_of_cell {W : World} {b o : Nat} {v : Value} (e0 : W.cell? ⟨b, o, none⟩ = some v) : b < W.heap.size := by
  unfold World.cell? at e0
  cases hh : W.heap[b]? with
  | none => simp [hh] at e0
  | some o => exact (Array.getElem?_eq_some_iff.1 hh).1
theorem pow_lt {W : World} (h : dec.Pow W) : 2 < W.heap.size := lt_of_cell (h.cell dec.gPow 0 (by decide))
end Go.Proofs.YtlpeadkkkmpccaaDoor.amt
