/-
  Plain helpers of this seat's proofs: the contract of the function that draws a ledger and a batch. Conditions: none.
-/
import Derived.Test.YtnkdjnfbllkgiaaDrawL
namespace Go.Proofs.Ytnkdjnfbllkgiaa.draw
open Go.ChangeShapes Go.WideShapes Go.ChangeAt Go.RowKit
open led (F5 z5)
open five (Row At Blk)
def DrewPs (w : World) (e : Ending) (w' : World) : Prop := ∃ cl gl, ∃ l : List F5, ∃ ab cb gb, ∃ bt : List F5, e = .returned (.tuple #[.slice (some ⟨gl, 0, none⟩) l.length cl, .slice ab bt.length cb]) ∧ Row w' (some ⟨gl, 0, none⟩) cl gl l ∧ gl < w'.heap.size ∧ Row w' ab cb gb bt ∧ (0 < bt.length → gb < w'.heap.size) ∧ l.length ≤ 500 ∧ bt.length ≤ 100 ∧ Below w.heap.size w w'
set_option maxRecDepth 40000 in
set_option maxHeartbeats 4000000 in
theorem drawPs (a : Option Addr) (len cap : Nat) (w : World) (hB : Bytes w a len) (h : len ≤ 1048576) : Calls Try.prog 35 #[.slice a len cap] w (DrewPs w) := by
  have HB := Lib.hid hB
  clear hB
  go_enter Try.func35, Try.ntmps35
  go_wp2_with fail
  refine (openRd a len cap w HB.out h).mono ?_
  rintro e w1 ⟨rfl, r1, b1⟩
  have R1 := Lib.hid r1
  have B1 := Lib.hid b1
  have s1 := r1.lt
  clear r1 b1
  go_wp2_with fail
  refine (ledger w1 w.heap.size len R1.out).mono ?_
  rintro e w2 ⟨cl, gl, l, rfl, rl, g1, g2, hl, _, o2, r2⟩
  have R2 := Lib.hid r2
  have O2 := Lib.hid o2
  have L2 := Lib.hid rl
  have s2 := o2.size
  clear rl o2 r2
  go_wp2_with fail
  refine (batch w2 w.heap.size len R2.out).mono ?_
  rintro e w3 ⟨ab, cb, gb, bt, rfl, rb, GB, hb, o3, r3⟩
  have O3 := Lib.hid (O2.out.trans o3)
  have L3 := Lib.hid (L2.out.keep (w' := w3) fun _ => o3.block gl g2 (by omega))
  have LB := Lib.hid rb
  have GBh := Lib.hid GB
  have s3 := o3.size
  clear rb GB o3 r3 L2
  go_wp2
  refine bodyPost_ret (v := .tuple #[.slice (some ⟨gl, 0, none⟩) l.length cl, .slice ab bt.length cb]) (by simp [results, Try.results35, go_sem]) rfl ⟨cl, gl, l, ab, cb, gb, bt, rfl, L3.out, by omega, LB.out, fun h => (GBh.out h).2, hl, hb, back rfl B1.out O3.out⟩
end Go.Proofs.Ytnkdjnfbllkgiaa.draw
