/-
  Plain helpers of this seat's proofs: the model's CmdText. Conditions: none.
-/
import Derived.Test.YtcpglphhhmgjkaaDoorTxn
import Derived.Test.YtcpglphhhmgjkaaDoorTxs
import Derived.Test.YtcpglphhhmgjkaaDoorWrd
namespace Go.Proofs.YtcpglphhhmgjkaaDoor.cm
open Go.ChangeShapes Go.WideShapes Go.ChangeAt Go.RowKit
open gen
open four (F4)
theorem ctS (w : World) (s : Sc) (ai : Option Addr) (ci gi : Nat) (l : List F4) (r : four.Row w ai ci gi l) (hl : l.length ≤ 1048576) (hk : s.key.size ≤ 1048576) :
    Calls Tryd.prog 12 #[.agg #[.int .i64 s.k, .string s.key, .int .i64 s.a, .int .i64 s.b, .int .i64 s.c, .int .i64 s.d, .int .i64 s.e, .int .i64 s.f, .slice ai l.length ci]] w fun e w' => e = .returned (.string ⟨(ctx s l).toArray⟩) ∧ Below w.heap.size w w' := by
  have HR := Lib.hid (fun W (hb : Below w.heap.size w W) => r.keep (w' := W) fun h => hb.block gi (r.lt h))
  clear r
  have C1 := Lib.hid (fun W hb => okS W s ai ci gi l (HR.out W hb) hl hk)
  have B0 := Lib.hid (show Below w.heap.size w (w.alloc (.cells #[.int .i64 s.k, .string s.key, .int .i64 s.a, .int .i64 s.b, .int .i64 s.c, .int .i64 s.d, .int .i64 s.e, .int .i64 s.f, .slice ai l.length ci] 29)) from bAl (Below.refl _ _) (Nat.le_refl _) _)
  have O0 := Lib.hid (CB.new w s ai l.length ci 29)
  cases tk : ok s l
  · have V := Lib.hid (show ctx s l = [] from by unfold ctx; rw [tk]; rfl)
    rw [tk] at C1
    go_enter Tryd.func12, Tryd.ntmps12
    go_wp2_with fail
    refine (C1.out _ B0.out).mono ?_
    rintro e w1 ⟨rfl, b⟩
    have B1 := Lib.hid (B0.out.trans (b.mono B0.out.size))
    clear b
    go_wp2
    go_ret
    exact ⟨by rw [V.out]; rfl, B1.out⟩
  · have V := Lib.hid (show ctx s l = txt s l from by unfold ctx; rw [if_pos tk])
    obtain ⟨q1, q2, q3, q4, q5⟩ := ok_small tk
    have C2 := Lib.hid (fun W hb => textS W s ai ci gi l (HR.out W hb) q3 q2 q1 q4 q5)
    rw [tk] at C1
    clear q1 q2 q3 q4 q5 tk
    go_enter Tryd.func12, Tryd.ntmps12
    go_wp2_with fail
    refine (C1.out _ B0.out).mono ?_
    rintro e w1 ⟨rfl, b⟩
    have B1 := Lib.hid (B0.out.trans (b.mono B0.out.size))
    obtain ⟨y0, y1, y2, y3, y4, y5, y6, y7, y8⟩ := O0.out.keep (b.block w.heap.size O0.out.lt)
    clear b
    go_wp2_with fail
    refine (C2.out _ B1.out).mono ?_
    rintro e w2 ⟨rfl, b⟩
    have B2 := Lib.hid (B1.out.trans (b.mono B1.out.size))
    clear b
    go_wp2
    go_ret
    exact ⟨by rw [V.out]; rfl, B2.out⟩
end Go.Proofs.YtcpglphhhmgjkaaDoor.cm
