/-
  Plain helpers of this seat's proofs: arguments that are accounts and slices of posts, as they came in. Conditions: none.
-/
import Derived.Test.YtpogfdeioibkdaaDoorFive
namespace Go.Proofs.YtpogfdeioibkdaaDoor.five
open Go.ChangeShapes Go.WideShapes Go.ChangeAt Go.RowKit
open led (F5 z5)
section
variable {H : Type} {enc : TypeId × Value → H} {w : World} {base base' : Nat} {spare : Nat → Bool} {held : Bool}
theorem c2 : Tryd.prog.cellsOf 2 = 1 := by kernel_rfl
theorem cA : Tryd.prog.cellsOf 33 = 3 := by kernel_rfl
theorem cP : Tryd.prog.cellsOf 35 = 5 := by kernel_rfl
theorem acct_cells {fuel : Nat} {cs : List Value} {x : DataW H × List MemPlace} (h : DataW.trod enc Tryd.prog w base spare held fuel 33 cs = some x) : ∃ a b c : Int, cs = [.int .i64 a, .int .i64 b, .int .i64 c] ∧ (Lit.int .i64 a).wf = true ∧ (Lit.int .i64 b).wf = true ∧ (Lit.int .i64 c).wf = true :=
  open3 Tryd.underlying33 Tryd.underlying2 Tryd.underlying2 Tryd.underlying2 cA c2 c2 c2 rfl rfl rfl h
theorem post_cells {fuel : Nat} {cs : List Value} {x : DataW H × List MemPlace} (h : DataW.trod enc Tryd.prog w base spare held fuel 35 cs = some x) : ∃ y : F5, cs = [.int .i64 y.1, .int .i64 y.2.1, .int .i64 y.2.2.1, .int .i64 y.2.2.2.1, .int .i64 y.2.2.2.2] ∧ Wf y :=
  open33 Tryd.underlying35 acct_cells Tryd.underlying2 Tryd.underlying2 cP cA c2 c2 rfl rfl rfl h
set_option maxRecDepth 100000 in
theorem open_acct {v : Value} {d : DataW H} {p : List MemPlace} (hok : Value.okWide Tryd.prog w .any base 33 v) (h : DataW.Trod enc Tryd.prog w base' spare held 33 v d p) :
    ∃ a b c : Int, v = .agg #[.int .i64 a, .int .i64 b, .int .i64 c] ∧ (Lit.int .i64 a).wf = true ∧ (Lit.int .i64 b).wf = true ∧ (Lit.int .i64 c).wf = true := by
  obtain ⟨cs, rfl, _⟩ := okWide_struct Tryd.underlying33 hok
  obtain ⟨fuel, hf⟩ := h
  obtain ⟨a, b, c, e, w0, w1, w2⟩ := acct_cells hf
  refine ⟨a, b, c, ?_, w0, w1, w2⟩
  have e' : cs.toList = [Value.int .i64 a, .int .i64 b, .int .i64 c] := e
  obtain ⟨l⟩ := cs
  simp at e'
  rw [e']
set_option maxRecDepth 100000 in
theorem open_posts {v : Value} {d : DataW H} {p : List MemPlace} (hok : Value.okWide Tryd.prog w .any base 40 v) (h : DataW.Trod enc Tryd.prog w 0 (fun _ => true) true 40 v d p) :
    ∃ a cap, ∃ l : List F5, v = .slice a l.length cap ∧ l.length ≤ maxLen ∧ Inp w a l ∧ ∀ x ∈ l, Wf x := open_rows Tryd.underlying40 cP post_cells hok h
end
end Go.Proofs.YtpogfdeioibkdaaDoor.five
