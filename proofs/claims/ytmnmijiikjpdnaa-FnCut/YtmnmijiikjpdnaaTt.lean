/-
  Plain helpers of this seat's proofs: sums over the Parts of a plan, and what they become. Conditions: none.
-/
import Derived.Test.YtmnmijiikjpdnaaPv
import Derived.Test.YtmnmijiikjpdnaaOw
namespace Go.Proofs.Ytmnmijiikjpdnaa.base
open Go.ChangeShapes Go.WideShapes Go.ChangeAt Go.RowKit
open seven (F7 zz Row At)
open pl (inR prOk pok)
open gen
/-- A sum over the Parts. -/
def tot (f : F7 → Int) : List F7 → Int
  | [] => 0
  | x :: l => f x + tot f l
theorem tot_snoc (f : F7 → Int) : ∀ (l : List F7) (x : F7), tot f (l ++ [x]) = tot f l + f x
  | [], x => by simp [tot]
  | y :: l, x => by
    show f y + tot f (l ++ [x]) = f y + tot f l + f x
    rw [tot_snoc f l x]; omega
abbrev fP (x : F7) : Int := x.2.1
abbrev fI (x : F7) : Int := x.2.2.1
abbrev fF (x : F7) : Int := x.2.2.2.1
abbrev fp (x : F7) : Int := x.2.2.2.2.1
abbrev fi (x : F7) : Int := x.2.2.2.2.2.1
abbrev ff (x : F7) : Int := x.2.2.2.2.2.2
theorem sumTo_take (l : List F7) : ∀ k, k ≤ l.length → pl.sumTo l k = (0, tot fP (l.take k), tot fI (l.take k), tot fF (l.take k), tot fp (l.take k), tot fi (l.take k), tot ff (l.take k))
  | 0, _ => rfl
  | k + 1, h => by
    rw [pl.sumTo, sumTo_take l k (by omega), pl.take_snoc (by omega)]
    simp only [tot_snoc]
    rfl
theorem sums_tot {l : List F7} (h : pl.PV l) : pl.sums l = (0, tot fP l, tot fI l, tot fF l, tot fp l, tot fi l, tot ff l) := by
  rw [pl.sums_t (pl.pv_t h), sumTo_take l l.length (Nat.le_refl _), List.take_length]
theorem pin_mem {l : List F7} (h : pl.PV l) : ∀ x ∈ l, pl.Pin x := fun x hx => by
  obtain ⟨i, hi, rfl⟩ := getD_mem hx
  exact h.pin hi
/-- Cutting. -/
structure CutT (l m : List F7) (n r : Int) : Prop where
  r0 : 0 ≤ r
  r1 : r ≤ n
  P : tot fP m = tot fP l - (n - r)
  I : tot fI m = tot fI l
  F : tot fF m = tot fF l
  p : tot fp m = tot fp l
  i : tot fi m = tot fi l
  f : tot ff m = tot ff l
  z : r = 0 ∨ tot fP m = tot fp m
theorem cut_tot {n : Int} (hn : 0 ≤ n) : ∀ l : List F7, (∀ x ∈ l, pl.Pin x) → CutT l (pl.mr pl.cut n l).1 n (pl.mr pl.cut n l).2
  | [], _ => ⟨hn, Int.le_refl _, by simp [pl.mr, tot], rfl, rfl, rfl, rfl, rfl, .inr rfl⟩
  | x :: l, h => by
    obtain ⟨r0, r1, eP, eI, eF, ep, ei, ef, ez⟩ := cut_tot hn l fun y hy => h y (List.mem_cons_of_mem _ hy)
    have p := h x List.mem_cons_self
    have q1 := p.q1
    simp only [pl.mr]
    generalize pl.mr pl.cut n l = R at *
    obtain ⟨m, r⟩ := R
    unfold pl.cut
    constructor <;> simp only [tot, fP, fI, fF, fp, fi, ff] at * <;> omega
/-- Giving back. -/
structure BackT (l m : List F7) (n r : Int) : Prop where
  r0 : 0 ≤ r
  r1 : r ≤ n
  P : tot fP m = tot fP l - (n - r)
  I : tot fI m = tot fI l
  F : tot fF m = tot fF l
  p : tot fp m = tot fp l - (n - r)
  i : tot fi m = tot fi l
  f : tot ff m = tot ff l
  z : r = 0 ∨ tot fp m = 0
theorem back_tot {n : Int} (hn : 0 ≤ n) : ∀ l : List F7, (∀ x ∈ l, pl.Pin x) → BackT l (pl.mr pl.back n l).1 n (pl.mr pl.back n l).2
  | [], _ => ⟨hn, Int.le_refl _, by simp [pl.mr, tot], rfl, rfl, by simp [pl.mr, tot], rfl, rfl, .inr rfl⟩
  | x :: l, h => by
    obtain ⟨r0, r1, eP, eI, eF, ep, ei, ef, ez⟩ := back_tot hn l fun y hy => h y (List.mem_cons_of_mem _ hy)
    have p := h x List.mem_cons_self
    have q0 := p.q0
    simp only [pl.mr]
    generalize pl.mr pl.back n l = R at *
    obtain ⟨m, r⟩ := R
    unfold pl.back
    constructor <;> simp only [tot, fP, fI, fF, fp, fi, ff] at * <;> omega
/-- Late fees. -/
structure LateT (l m : List F7) (s r : Int) : Prop where
  P : tot fP m = tot fP l
  I : tot fI m = tot fI l
  F : tot fF m = tot fF l + (r - s)
  p : tot fp m = tot fp l
  i : tot fi m = tot fi l
  f : tot ff m = tot ff l
theorem late_F {d f g : Int} (x : F7) (s : Int) : (pl.late d f g s x).1.2.2.2.1 = x.2.2.2.1 + ((pl.late d f g s x).2 - s) ∧ (pl.late d f g s x).1.2.1 = x.2.1 ∧ (pl.late d f g s x).1.2.2.1 = x.2.2.1 ∧ (pl.late d f g s x).1.2.2.2.2 = x.2.2.2.2 := by
  cases h : pl.isLate d g x with
  | false => rw [late_f h]; refine ⟨by dsimp only; omega, rfl, rfl, rfl⟩
  | true =>
    rw [late_t h]
    have e : x.2.2.2.1 = 0 := by
      unfold pl.isLate at h
      simp only [Bool.and_eq_true, beq_iff_eq] at h
      exact h.1.2
    refine ⟨by dsimp only; omega, rfl, rfl, rfl⟩
theorem late_tot {d f g : Int} : ∀ (l : List F7) (s : Int), LateT l (pl.ml (pl.late d f g) s l).1 s (pl.ml (pl.late d f g) s l).2
  | [], s => ⟨rfl, rfl, by simp [pl.ml, tot], rfl, rfl, rfl⟩
  | x :: l, s => by
    obtain ⟨eP, eI, eF, ep, ei, ef⟩ := late_tot (d := d) (f := f) (g := g) l (pl.late d f g s x).2
    obtain ⟨h1, h2, h3, h4⟩ := late_F (d := d) (f := f) (g := g) x s
    simp only [pl.ml]
    generalize pl.ml (pl.late d f g) (pl.late d f g s x).2 l = R at *
    obtain ⟨m, r⟩ := R
    generalize pl.late d f g s x = y at *
    obtain ⟨⟨y0, y1, y2, y3, y4⟩, yr⟩ := y
    constructor <;> simp only [tot, fP, fI, fF, fp, fi, ff] at * <;> (try rw [h4]) <;> omega
/-- A second time there is no fee. -/
theorem late_again {d f g : Int} (x : F7) (s t : Int) : pl.late d f g t (pl.late d f g s x).1 = ((pl.late d f g s x).1, t) := by
  cases h : pl.isLate d g x with
  | false => rw [late_f h]; exact late_f h
  | true =>
    rw [late_t h]
    dsimp only
    by_cases e : f = 0
    · subst e
      have hz : x.2.2.2.1 = 0 := by
        unfold pl.isLate at h
        simp only [Bool.and_eq_true, beq_iff_eq] at h
        exact h.1.2
      have hx : ((x.1, x.2.1, x.2.2.1, (0 : Int), x.2.2.2.2.1, x.2.2.2.2.2.1, x.2.2.2.2.2.2) : F7) = x := by rw [← hz]
      rw [hx, late_t h, hx]; simp
    · refine late_f ?_
      unfold pl.isLate
      simp [e]
theorem late_twice {d f g : Int} : ∀ (l : List F7) (s t : Int), pl.ml (pl.late d f g) t (pl.ml (pl.late d f g) s l).1 = ((pl.ml (pl.late d f g) s l).1, t)
  | [], _, _ => rfl
  | x :: l, s, t => by
    simp only [pl.ml]
    rw [late_again]
    dsimp only
    rw [late_twice l]
/-- Paying. -/
structure PayT (l m : List F7) (s r : pl.S4) : Prop where
  r0 : 0 ≤ r.1
  r1 : r.1 ≤ s.1
  e : r.1 + r.2.1 + r.2.2.1 + r.2.2.2 = s.1 + s.2.1 + s.2.2.1 + s.2.2.2
  P : tot fP m = tot fP l
  I : tot fI m = tot fI l
  F : tot fF m = tot fF l
  p : tot fp m = tot fp l + (r.2.2.2 - s.2.2.2)
  i : tot fi m = tot fi l + (r.2.2.1 - s.2.2.1)
  f : tot ff m = tot ff l + (r.2.1 - s.2.1)
  z : r.1 = 0 ∨ (tot fP m = tot fp m ∧ tot fI m = tot fi m ∧ tot fF m = tot ff m)
theorem pay_tot : ∀ (l : List F7) (s : pl.S4), 0 ≤ s.1 → (∀ x ∈ l, pl.Pin x) → PayT l (pl.ml pl.pay s l).1 s (pl.ml pl.pay s l).2
  | [], s, hs, _ => ⟨hs, Int.le_refl _, rfl, rfl, rfl, rfl, by simp [pl.ml, tot], by simp [pl.ml, tot], by simp [pl.ml, tot], .inr ⟨rfl, rfl, rfl⟩⟩
  | x :: l, s, hs, h => by
    obtain ⟨⟨a1, a2, a3⟩, ⟨b1, b2, b3⟩, c1, c2, c3⟩ := pay_b (h x List.mem_cons_self) hs
    obtain ⟨r0, r1, e, eP, eI, eF, ep, ei, ef, ez⟩ := pay_tot l (pl.pay s x).2 (by unfold pl.pay; dsimp only; omega) fun y hy => h y (List.mem_cons_of_mem _ hy)
    have z1 : pl.pF s.1 x = s.1 ∨ pl.pF s.1 x = x.2.2.2.1 - x.2.2.2.2.2.2 := by unfold pl.pF; omega
    have z2 : pl.pI s.1 x = s.1 - pl.pF s.1 x ∨ pl.pI s.1 x = x.2.2.1 - x.2.2.2.2.2.1 := by unfold pl.pI; omega
    have z3 : pl.pP s.1 x = s.1 - pl.pF s.1 x - pl.pI s.1 x ∨ pl.pP s.1 x = x.2.1 - x.2.2.2.2.1 := by unfold pl.pP; omega
    simp only [pl.ml]
    generalize pl.ml pl.pay (pl.pay s x).2 l = R at *
    obtain ⟨m, r⟩ := R
    unfold pl.pay at *
    generalize pl.pF s.1 x = u at *
    generalize pl.pI s.1 x = v at *
    generalize pl.pP s.1 x = y at *
    dsimp only at *
    constructor
    case z =>
      simp only [tot, fP, fI, fF, fp, fi, ff] at *
      by_cases hr : r.1 = 0
      · exact .inl hr
      · obtain ⟨k1, k2, k3⟩ := ez.resolve_left hr
        exact .inr ⟨by omega, by omega, by omega⟩
    all_goals
      try simp only [tot, fP, fI, fF, fp, fi, ff] at *
      omega
end Go.Proofs.Ytmnmijiikjpdnaa.base
