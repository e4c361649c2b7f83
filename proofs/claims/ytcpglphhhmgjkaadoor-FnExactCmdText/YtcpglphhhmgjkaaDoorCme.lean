/-
  Plain helpers of this seat's proofs: comparing commands. Conditions: none.
-/
import Derived.Test.YtcpglphhhmgjkaaDoorCmv
import Derived.Test.YtcpglphhhmgjkaaDoorEqI4
namespace Go.Proofs.YtcpglphhhmgjkaaDoor.cm
open Go.ChangeShapes Go.WideShapes Go.ChangeAt Go.RowKit
open gen
open four (F4)
set_option maxRecDepth 100000 in
set_option maxHeartbeats 4000000 in
/-- Two equal commands: the answer is yes. -/
theorem eqCT (w : World) (s : Sc) (l : List F4) (a1 a2 : Option Addr) (c1 g1 c2 g2 : Nat) (r1 : four.Row w a1 c1 g1 l) (r2 : four.Row w a2 c2 g2 l) (hl : l.length ≤ 1048576) :
    Calls Tryd.prog 11 #[.agg #[.int .i64 s.k, .string s.key, .int .i64 s.a, .int .i64 s.b, .int .i64 s.c, .int .i64 s.d, .int .i64 s.e, .int .i64 s.f, .slice a1 l.length c1], .agg #[.int .i64 s.k, .string s.key, .int .i64 s.a, .int .i64 s.b, .int .i64 s.c, .int .i64 s.d, .int .i64 s.e, .int .i64 s.f, .slice a2 l.length c2]] w fun e w' => e = .returned (.bool true) ∧ Below w.heap.size w w' := by
  have B0 := Lib.hid (show Below w.heap.size w ((w.alloc (.cells #[.int .i64 s.k, .string s.key, .int .i64 s.a, .int .i64 s.b, .int .i64 s.c, .int .i64 s.d, .int .i64 s.e, .int .i64 s.f, .slice a1 l.length c1] 29)).alloc (.cells #[.int .i64 s.k, .string s.key, .int .i64 s.a, .int .i64 s.b, .int .i64 s.c, .int .i64 s.d, .int .i64 s.e, .int .i64 s.f, .slice a2 l.length c2] 29)) from bAl (bAl (Below.refl _ _) (Nat.le_refl _) _) (Nat.le_refl _) _)
  have CI := Lib.hid (fun W (hb : Below w.heap.size w W) => four.eqT W a1 a2 c1 c2 g1 g2 l (r1.keep fun h => hb.block g1 (r1.lt h)) (r2.keep fun h => hb.block g2 (r2.lt h)) hl)
  clear r1 r2
  generalize l.length = n at *
  go_enter Tryd.func11, Tryd.ntmps11
  go_wp2_with fail
  refine (CI.out _ B0.out).mono ?_
  rintro e w1 ⟨rfl, b⟩
  have B1 := Lib.hid (B0.out.trans (b.mono B0.out.size))
  clear b B0
  go_wp2
  go_ret
  exact ⟨rfl, B1.out⟩
end Go.Proofs.YtcpglphhhmgjkaaDoor.cm
