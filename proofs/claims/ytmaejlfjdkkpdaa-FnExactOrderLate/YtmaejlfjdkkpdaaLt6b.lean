/-
  Plain helpers of this seat's proofs: how long the lists of a changed order are. Conditions: none.
-/
import Derived.Test.YtmaejlfjdkkpdaaOlI
import Derived.Test.YtmaejlfjdkkpdaaSh6
namespace Go.Proofs.Ytmaejlfjdkkpdaa.ob
open Go.ChangeShapes Go.WideShapes Go.ChangeAt Go.RowKit
open gen
open seven (F7 zz Row At)
open four (F4)
open pl (inR)
open pls (nth Pls OL)
open ord (Sc iok)
theorem lateR_short {s : Sc} {l : List F4} {p : List (List F7)} {d f g S0 C : Int} {s' : Sc} {l' : List F4} {p' : List (List F7)} (h : lateR s l p d f g S0 C s' l' p') : Short l' p' := by
  rcases h with ⟨_, _, _, _, rfl, rfl⟩ | ⟨_, _, _, _, _, rfl, rfl⟩ | ⟨hk, _, _, _, _, rfl, rfl⟩
  · exact short_nil
  · exact short_nil
  · have o := ord.ok_iff.1 hk
    have e : (ltLs p d f g).length = p.length := wk.fw_len _ _ _ _
    refine short_24 o.i1 (by rw [e]; exact o.p1) fun i hi => ?_
    rw [e] at hi
    unfold ltLs
    rw [nth_fw _ _ p p.length (Nat.le_refl _) i hi]
    exact Nat.le_trans (base.ltL_len _ _ _ _) (pl.pv_iff.1 (o.pv i hi)).1
end Go.Proofs.Ytmaejlfjdkkpdaa.ob
