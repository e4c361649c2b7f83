/-
  Plain helpers of this seat's proofs: the contract of the function that copies a rate; rates and slices of them as they came in. Conditions: none.
-/
import Derived.Test.YtnkdjnfbllkgiabFive
namespace Go.Proofs.Ytnkdjnfbllkgiab.five
open Go.ChangeShapes Go.WideShapes Go.ChangeAt Go.RowKit
open led (F5 z5)
set_option maxHeartbeats 1000000 in
theorem toEl3 (x : F5) (w : World) : Calls Try.prog 12 #[.agg #[.int .i64 x.1, .int .i64 x.2.1, .int .i64 x.2.2.1, .int .i64 x.2.2.2.1, .int .i64 x.2.2.2.2]] w fun e w' => e = .returned (.agg #[.int .i64 x.1, .int .i64 x.2.1, .int .i64 x.2.2.1, .int .i64 x.2.2.2.1, .int .i64 x.2.2.2.2]) ∧ ∃ o1 o2 o3, w' = ((w.alloc o1).alloc o2).alloc o3 := by
  obtain ⟨a, b, c, d, f⟩ := x
  dsimp only
  go_enter Try.func12, Try.ntmps12
  go_wp2
  refine bodyPost_ret (v := .agg #[.int .i64 a, .int .i64 b, .int .i64 c, .int .i64 d, .int .i64 f]) (by simp [results, Try.results12, go_sem]) rfl ⟨rfl, ?_⟩
  exact ⟨_, _, _, rfl⟩
theorem toEl (x : F5) (w : World) : Calls Try.prog 12 #[.agg #[.int .i64 x.1, .int .i64 x.2.1, .int .i64 x.2.2.1, .int .i64 x.2.2.2.1, .int .i64 x.2.2.2.2]] w fun e w' => e = .returned (.agg #[.int .i64 x.1, .int .i64 x.2.1, .int .i64 x.2.2.1, .int .i64 x.2.2.2.1, .int .i64 x.2.2.2.2]) ∧ Below w.heap.size w w' :=
  (toEl3 x w).mono fun e w' ⟨he, o1, o2, o3, hw⟩ => ⟨he, by subst hw; exact bAl (bAl (bAl (Below.refl _ _) (Nat.le_refl _) _) (Nat.le_refl _) _) (Nat.le_refl _) _⟩
section
variable {H : Type} {enc : TypeId × Value → H} {w : World} {base base' : Nat} {spare : Nat → Bool} {held : Bool}
theorem c2 : Try.prog.cellsOf 2 = 1 := by kernel_rfl
theorem cP : Try.prog.cellsOf 23 = 5 := by kernel_rfl
theorem rate_cells {fuel : Nat} {cs : List Value} {x : DataW H × List MemPlace} (h : DataW.trod enc Try.prog w base spare held fuel 23 cs = some x) : ∃ y : F5, cs = [.int .i64 y.1, .int .i64 y.2.1, .int .i64 y.2.2.1, .int .i64 y.2.2.2.1, .int .i64 y.2.2.2.2] ∧ Wf y :=
  open5 Try.underlying23 Try.underlying2 Try.underlying2 Try.underlying2 Try.underlying2 Try.underlying2 cP c2 c2 c2 c2 c2 rfl rfl rfl rfl rfl h
set_option maxRecDepth 100000 in
theorem open_rate {v : Value} {d : DataW H} {p : List MemPlace} (hok : Value.okWide Try.prog w .any base 23 v) (h : DataW.Trod enc Try.prog w base' spare held 23 v d p) :
    ∃ y : F5, v = .agg #[.int .i64 y.1, .int .i64 y.2.1, .int .i64 y.2.2.1, .int .i64 y.2.2.2.1, .int .i64 y.2.2.2.2] ∧ Wf y := by
  obtain ⟨cs, rfl, _⟩ := okWide_struct Try.underlying23 hok
  obtain ⟨fuel, hf⟩ := h
  obtain ⟨y, e, hy⟩ := rate_cells hf
  refine ⟨y, ?_, hy⟩
  have e' : cs.toList = [Value.int .i64 y.1, .int .i64 y.2.1, .int .i64 y.2.2.1, .int .i64 y.2.2.2.1, .int .i64 y.2.2.2.2] := e
  obtain ⟨l⟩ := cs
  simp at e'
  rw [e']
set_option maxRecDepth 100000 in
theorem open_rates {v : Value} {d : DataW H} {p : List MemPlace} (hok : Value.okWide Try.prog w .any base 28 v) (h : DataW.Trod enc Try.prog w 0 (fun _ => true) true 28 v d p) :
    ∃ a cap, ∃ l : List F5, v = .slice a l.length cap ∧ l.length ≤ maxLen ∧ Inp w a l ∧ ∀ x ∈ l, Wf x := open_rows Try.underlying28 cP rate_cells hok h
end
end Go.Proofs.Ytnkdjnfbllkgiab.five
