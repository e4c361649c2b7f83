/-
  Plain helpers of this seat's proofs: a list that posting answers has 400 posts at most. Conditions: none.
-/
import Derived.Test.YtnkdjnfbllkgiaaPsS
namespace Go.Proofs.Ytnkdjnfbllkgiaa.mp
open led (F5 Pst)
theorem pr_len (l b : List F5) : (pr l b).length ≤ 400 := by
  have h := pst l b
  by_cases q1 : led.LV l
  · by_cases q2 : led.BV b
    · by_cases q3 : led.ZV b
      · by_cases q4 : led.LV (led.puts l b)
        · rw [(h.c0 q1 q2 q3 q4).1]; exact q4.1
        · rw [(h.c4 q1 q2 q3 q4).1]; simp
      · rw [(h.c3 q1 q2 q3).1]; simp
    · rw [(h.c2 q1 q2).1]; simp
  · rw [(h.c1 q1).1]; simp
end Go.Proofs.Ytnkdjnfbllkgiaa.mp
