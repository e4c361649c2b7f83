/-
  Plain helpers of this seat's proofs: what a change of an order answers. Conditions: none.
-/
import Derived.Test.YtmaejlfjdkkpdaaNwO
import Derived.Test.YtmaejlfjdkkpdaaSi
import Derived.Test.YtmaejlfjdkkpdaaBxs
namespace Go.Proofs.Ytmaejlfjdkkpdaa.ob
open Go.ChangeShapes Go.WideShapes Go.ChangeAt Go.RowKit
open gen
open seven (F7 zz Row At)
open four (F4)
open pl (inR)
open pls (nth Pls OL)
open ord (Sc iok)
/-- What a change of an order answers: an order whose lists lie in memory of their own. -/
def Res (w : World) (s : Sc) (l : List F4) (p : List (List F7)) (v : Value) (w' : World) : Prop := ∃ ai ci gi ap cp gp gs cs, v = .agg #[.int .i64 s.id, .int .i64 s.co, .int .i64 s.me, .int .i64 s.cu, .int .i64 s.da, .int .i64 s.nn, .int .i64 s.ra, .int .i64 s.nu, .int .i64 s.de, .slice ai l.length ci, .slice ap p.length cp, .int .i64 s.op, .int .i64 s.up] ∧ OL w' w.heap.size l p ai ci gi ap cp gp gs cs ∧ Below w.heap.size w w'
def zs : Sc := ⟨0, 0, 0, 0, 0, 0, 0, 0, 0, 0, 0⟩
theorem res_no {w w' : World} (hb : Below w.heap.size w w') : Res w zs [] [] (.agg #[.int .i64 0, .int .i64 0, .int .i64 0, .int .i64 0, .int .i64 0, .int .i64 0, .int .i64 0, .int .i64 0, .int .i64 0, .slice none 0 0, .slice none 0 0, .int .i64 0, .int .i64 0]) w' := ⟨none, 0, 0, none, 0, 0, _, _, rfl, OL.nil w' _, hb⟩
end Go.Proofs.Ytmaejlfjdkkpdaa.ob
