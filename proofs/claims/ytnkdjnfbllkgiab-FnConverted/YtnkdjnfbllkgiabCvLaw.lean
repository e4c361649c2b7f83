/-
  Plain helpers of this seat's proofs: the mathematics of conversions. Conditions: none.
-/
import Derived.Test.YtnkdjnfbllkgiabCv
import Derived.Test.YtnkdjnfbllkgiabMdLaw
namespace Go.Proofs.Ytnkdjnfbllkgiab.base
open led (F5 z5)
/-- What is known of a conversion that answers. -/
structure Cvd (l : List F5) (n f t d x : Int) : Prop where
  n1 : -1000000000000 ≤ n
  n2 : n ≤ 1000000000000
  x1 : -1000000000000 ≤ x
  x2 : x ≤ 1000000000000
  neg : cvt l (-n) f t d = (-x, true)
  same : cvt l n f f d = (n, true)
  how : (f = t ∧ x = n) ∨ (f ≠ t ∧ ∃ r : F5, ron l f t d = some r ∧ max r.2.2.2.1 1 = r.2.2.2.1 ∧ max r.2.2.2.2 1 = r.2.2.2.2 ∧ md.val n r.2.2.2.1 r.2.2.2.2 = x ∧ md.ok n r.2.2.2.1 r.2.2.2.2 = true)
theorem amt_neg (n : Int) : led.amt (-n) = led.amt n := by
  have h1 := @led.inR_iff n (-1000000000000) 1000000000000
  have h2 := @led.inR_iff (-n) (-1000000000000) 1000000000000
  unfold led.amt
  cases a : led.inR n (-1000000000000) 1000000000000 <;> cases b : led.inR (-n) (-1000000000000) 1000000000000 <;> simp only [a, b] at h1 h2 ⊢ <;> simp at h1 h2 <;> omega
theorem val_bound {a b c : Int} (h : md.ok a b c = true) : -1000000000000 ≤ md.val a b c ∧ md.val a b c ≤ 1000000000000 := by
  have := (md.ok_iff.1 h).2.2.2.2.2.2
  unfold md.val
  rw [if_pos h]
  split <;> omega
theorem cvd {l : List F5} {n f t d x : Int} (h : cvt l n f t d = (x, true)) : Cvd l n f t d x := by
  cases g : (led.lv l && led.amt n && led.cur f && led.cur t) with
  | false => rw [cvt_no l n f t d g] at h; simp at h
  | true =>
    have g0 := g
    simp only [Bool.and_eq_true] at g0
    obtain ⟨⟨⟨gl, ga⟩, gf⟩, gt⟩ := g0
    have ha := led.inR_iff.1 ga
    rw [cvt_yes l n f t d g] at h
    have same : cvt l n f f d = (n, true) := by rw [cvt_yes l n f f d (by rw [gl, ga, gf]; rfl), if_pos rfl]
    by_cases e : f = t
    · rw [if_pos e] at h
      injection h with h1 h2
      subst h1
      refine ⟨ha.1, ha.2, ha.1, ha.2, ?_, same, .inl ⟨e, rfl⟩⟩
      rw [cvt_yes l (-n) f t d (by rw [gl, amt_neg, ga, gf, gt]; rfl), if_pos e]
    · rw [if_neg e] at h
      cases o : ron l f t d with
      | none => rw [o] at h; simp [cvo] at h
      | some r =>
        rw [o] at h
        injection h with h1 h2
        have vb := val_bound h2
        rw [h1] at vb
        have rk : led.Rk r := by
          unfold ron at o
          rw [if_pos gl] at o
          exact led.LV_mem (led.lv_iff.1 gl) (led.lastK_mem (Nat.le_refl _) o).1
        refine ⟨ha.1, ha.2, vb.1, vb.2, ?_, same, .inr ⟨e, r, o, by have := rk.num; omega, by have := rk.den; omega, h1, h2⟩⟩
        rw [cvt_yes l (-n) f t d (by rw [gl, amt_neg, ga, gf, gt]; rfl), if_neg e, o]
        show (md.val (-n) _ _, md.ok (-n) _ _) = _
        rw [md.ok_neg, md.val_neg _ _ _ h2, h2, h1]
end Go.Proofs.Ytnkdjnfbllkgiab.base
