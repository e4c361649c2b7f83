/-
  Plain helpers of this seat's proofs: what an added rate does to the rate of a day. Conditions: none.
-/
import Derived.Test.YtnkdjnfbllkgiabAddS
import Derived.Test.YtnkdjnfbllkgiabOnI
namespace Go.Proofs.Ytnkdjnfbllkgiab.base
open led (F5 z5)
def ov : Option F5 → F5
  | some x => x
  | none => z5
def ob : Option F5 → Bool
  | some _ => true
  | none => false
theorem onv_is (o : Option F5) : onv o = .tuple #[.agg #[.int .i64 (ov o).1, .int .i64 (ov o).2.1, .int .i64 (ov o).2.2.1, .int .i64 (ov o).2.2.2.1, .int .i64 (ov o).2.2.2.2], .bool (ob o)] := by
  cases o <;> rfl
theorem ron_new {l : List F5} {x : F5} (h : led.lv (l ++ [x]) = true) : ron (l ++ [x]) x.2.1 x.2.2.1 x.1 = some x := by
  unfold ron
  rw [if_pos h, led.lastK_snoc, if_pos (led.mt_iff.2 ⟨rfl, rfl, Int.le_refl _⟩)]
theorem ron_skip {l : List F5} {x : F5} (h : led.lv (l ++ [x]) = true) {f t d : Int} (hm : ¬ led.mt f t d x = true) : ron (l ++ [x]) f t d = ron l f t d := by
  unfold ron
  rw [if_pos h, if_pos (led.lv_t (led.LV_init (led.lv_iff.1 h)).1), led.lastK_snoc, if_neg hm]
theorem ron_before {l : List F5} {x : F5} (h : led.lv (l ++ [x]) = true) : ron (l ++ [x]) x.2.1 x.2.2.1 (x.1 - 1) = ron l x.2.1 x.2.2.1 (x.1 - 1) :=
  ron_skip h fun q => by have := (led.mt_iff.1 q).2.2; omega
theorem ron_other {l : List F5} {x : F5} (h : led.lv (l ++ [x]) = true) (d : Int) : ron (l ++ [x]) x.2.2.1 x.2.1 d = ron l x.2.2.1 x.2.1 d :=
  ron_skip h fun q => (led.LV_init (led.lv_iff.1 h)).2.ne (led.mt_iff.1 q).1
end Go.Proofs.Ytnkdjnfbllkgiab.base
