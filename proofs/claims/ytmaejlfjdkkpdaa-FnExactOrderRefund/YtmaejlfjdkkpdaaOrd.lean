/-
  Plain helpers of this seat's proofs: the mathematics of orders. Conditions: none.
-/
import Derived.Test.YtmaejlfjdkkpdaaPl
import Derived.Test.YtmaejlfjdkkpdaaFou
namespace Go.Proofs.Ytmaejlfjdkkpdaa.ord
open seven (F7 zz)
open four (F4)
open pl (inR)
/-- The numbers of an order. -/
structure Sc where
  id : Int
  co : Int
  me : Int
  cu : Int
  da : Int
  nn : Int
  ra : Int
  nu : Int
  de : Int
  op : Int
  up : Int
/-- The value of an item's pieces: all, shipped, refunded. -/
def va (x : F4) : Int := x.2.1 * x.1
def vs (x : F4) : Int := x.2.1 * x.2.2.1
def vr (x : F4) : Int := x.2.1 * x.2.2.2
/-- The sum over the first k items. -/
def su (f : F4 → Int) (l : List F4) : Nat → Int
  | 0 => 0
  | k + 1 => su f l k + f (l.getD k four.zz)
/-- One item is valid. -/
def iok (x : F4) : Bool := inR x.1 1 1000 && inR x.2.1 1 1000000 && inR x.2.2.1 0 x.1 && inR x.2.2.2 0 x.2.2.1
structure Iin (x : F4) : Prop where
  q0 : 1 ≤ x.1
  q1 : x.1 ≤ 1000
  p0 : 1 ≤ x.2.1
  p1 : x.2.1 ≤ 1000000
  s0 : 0 ≤ x.2.2.1
  s1 : x.2.2.1 ≤ x.1
  r0 : 0 ≤ x.2.2.2
  r1 : x.2.2.2 ≤ x.2.2.1
theorem iok_iff {x : F4} : iok x = true ↔ Iin x := by
  unfold iok
  simp only [Bool.and_eq_true, pl.inR_iff]
  constructor
  · rintro ⟨⟨⟨⟨a, b⟩, c, d⟩, e, f⟩, g, h⟩
    exact ⟨a, b, c, d, e, f, g, h⟩
  · rintro ⟨a, b, c, d, e, f, g, h⟩
    exact ⟨⟨⟨⟨a, b⟩, c, d⟩, e, f⟩, g, h⟩
theorem Iin.vals {x : F4} (h : Iin x) : 0 ≤ vr x ∧ vr x ≤ vs x ∧ vs x ≤ va x ∧ va x ≤ 1000000000 := by
  obtain ⟨a, b, c, d, e, f, g, i⟩ := h
  unfold vr vs va
  have h1 : (0 : Int) ≤ x.2.1 := by omega
  refine ⟨Int.mul_nonneg h1 g, Int.mul_le_mul_of_nonneg_left i h1, Int.mul_le_mul_of_nonneg_left f h1, ?_⟩
  calc x.2.1 * x.1 ≤ x.2.1 * 1000 := Int.mul_le_mul_of_nonneg_left b h1
    _ ≤ 1000000 * 1000 := Int.mul_le_mul_of_nonneg_right d (by omega)
    _ = 1000000000 := by decide
/-- All items are valid. -/
def IV (l : List F4) : Prop := ∀ i, i < l.length → iok (l.getD i four.zz) = true
theorem sums_in {l : List F4} (h : IV l) : ∀ k, k ≤ l.length → 0 ≤ su vr l k ∧ su vr l k ≤ su vs l k ∧ su vs l k ≤ su va l k ∧ su va l k ≤ k * 1000000000
  | 0, _ => by simp [su]
  | k + 1, hk => by
    have h1 := sums_in h k (by omega)
    have h2 := (iok_iff.1 (h k (by omega))).vals
    simp only [su]
    omega
/-- The sums of the first k plans. -/
noncomputable def ps (l : List (List F7)) : Nat → F7
  | 0 => zz
  | k + 1 => pl.add (ps l k) (pl.sums (l.getD k []))
theorem sums_sin (l : List F7) : pl.Sin 24 (pl.sums l) := by
  cases h : pl.pv l with
  | false => rw [pl.sums_f h]; unfold zz; constructor <;> simp
  | true =>
    rw [pl.sums_t h]
    have hp := pl.pv_iff.1 h
    have := pl.sin hp (k := l.length) (Nat.le_refl _)
    have hl := hp.1
    obtain ⟨a0, a1, a2, a3, a4, a5, a6, a7, a8, a9, b0, b1, b2⟩ := this
    constructor <;> omega
theorem ps_sin (l : List (List F7)) : ∀ k, pl.Sin (24 * k) (ps l k)
  | 0 => by unfold ps zz; constructor <;> simp
  | k + 1 => by
    have h1 := ps_sin l k
    have h2 := sums_sin (l.getD k [])
    unfold ps
    generalize ps l k = s at h1
    generalize pl.sums (l.getD k []) = x at h2
    obtain ⟨a0, a1, a2, a3, a4, a5, a6, a7, a8, a9, b0, b1, b2⟩ := h1
    obtain ⟨c0, c1, c2, c3, c4, c5, c6, c7, c8, c9, d0, d1, d2⟩ := h2
    unfold pl.add
    constructor <;> dsimp only <;> omega
/-- The numbers are in their ranges. -/
def tok (s : Sc) : Bool := inR s.id 1 999 && inR s.co 1 999 && inR s.me 1 999 && inR s.cu 0 5 && inR s.da 0 100000 && inR s.nn 1 24 && inR s.ra 0 10000 && inR s.nu 1 1000000 && inR s.de 1 1000000 && inR s.op 0 1000000000000 && inR s.up 0 1000000000000
/-- All plans are valid. -/
def PVs (l : List (List F7)) : Prop := ∀ i, i < l.length → pl.pv (l.getD i []) = true
/-- An order is valid. -/
structure OV (s : Sc) (l : List F4) (p : List (List F7)) : Prop where
  t : tok s = true
  i0 : 1 ≤ l.length
  i1 : l.length ≤ 8
  iv : IV l
  p1 : p.length ≤ 8
  pv : PVs p
  bal : (ps p p.length).2.1 = su vs l l.length - su vr l l.length - s.up
noncomputable def ok (s : Sc) (l : List F4) (p : List (List F7)) : Bool := @decide (OV s l p) (Classical.propDecidable _)
theorem ok_iff {s : Sc} {l : List F4} {p : List (List F7)} : ok s l p = true ↔ OV s l p := by unfold ok; simp
theorem ok_f {s : Sc} {l : List F4} {p : List (List F7)} (h : ¬ OV s l p) : ok s l p = false := by unfold ok; simp [h]
theorem ok_t {s : Sc} {l : List F4} {p : List (List F7)} (h : OV s l p) : ok s l p = true := ok_iff.2 h
end Go.Proofs.Ytmaejlfjdkkpdaa.ord
