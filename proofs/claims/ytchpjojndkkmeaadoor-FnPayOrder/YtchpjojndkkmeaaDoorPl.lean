/-
  Plain helpers of this seat's proofs: the mathematics of instalment plans. Conditions: none.
-/
import Derived.Test.YtchpjojndkkmeaaDoorSev
namespace Go.Proofs.YtchpjojndkkmeaaDoor.pl
open seven (F7 zz)
def inR (n a b : Int) : Bool := decide (a ≤ n) && decide (n ≤ b)
theorem inR_iff {n a b : Int} : inR n a b = true ↔ a ≤ n ∧ n ≤ b := by simp [inR]
theorem inR_not {n a b : Int} : inR n a b = false ↔ n < a ∨ b < n := by
  have := @inR_iff n a b
  cases h : inR n a b <;> simp [h] at this ⊢ <;> omega
def prOk (whole paid : Int) : Bool := inR whole 0 1000000000000 && inR paid 0 whole
theorem prOk_iff {a b : Int} : prOk a b = true ↔ (0 ≤ a ∧ a ≤ 1000000000000) ∧ 0 ≤ b ∧ b ≤ a := by simp [prOk, inR]
/-- One Part is valid. -/
def pok (x : F7) : Bool := inR x.1 0 100000 && prOk x.2.1 x.2.2.2.2.1 && prOk x.2.2.1 x.2.2.2.2.2.1 && prOk x.2.2.2.1 x.2.2.2.2.2.2
/-- The numbers of a valid Part. -/
structure Pin (x : F7) : Prop where
  d0 : 0 ≤ x.1
  d1 : x.1 ≤ 100000
  p0 : 0 ≤ x.2.1
  p1 : x.2.1 ≤ 1000000000000
  i0 : 0 ≤ x.2.2.1
  i1 : x.2.2.1 ≤ 1000000000000
  f0 : 0 ≤ x.2.2.2.1
  f1 : x.2.2.2.1 ≤ 1000000000000
  q0 : 0 ≤ x.2.2.2.2.1
  q1 : x.2.2.2.2.1 ≤ x.2.1
  j0 : 0 ≤ x.2.2.2.2.2.1
  j1 : x.2.2.2.2.2.1 ≤ x.2.2.1
  g0 : 0 ≤ x.2.2.2.2.2.2
  g1 : x.2.2.2.2.2.2 ≤ x.2.2.2.1
theorem pok_iff {x : F7} : pok x = true ↔ Pin x := by
  unfold pok
  rw [Bool.and_eq_true, Bool.and_eq_true, Bool.and_eq_true, inR_iff, prOk_iff, prOk_iff, prOk_iff]
  constructor
  · rintro ⟨⟨⟨⟨a, b⟩, ⟨c, d⟩, e, f⟩, ⟨g, h⟩, i, j⟩, ⟨k, l⟩, m, n⟩
    exact ⟨a, b, c, d, g, h, k, l, e, f, i, j, m, n⟩
  · rintro ⟨a, b, c, d, g, h, k, l, e, f, i, j, m, n⟩
    exact ⟨⟨⟨⟨a, b⟩, ⟨c, d⟩, e, f⟩, ⟨g, h⟩, i, j⟩, ⟨k, l⟩, m, n⟩
structure Fine (l : List F7) (i : Nat) : Prop where
  ok : pok (l.getD i zz) = true
  up : 0 < i → (l.getD (i - 1) zz).1 < (l.getD i zz).1
/-- A plan is valid. -/
def PV (l : List F7) : Prop := l.length ≤ 24 ∧ ∀ i, i < l.length → Fine l i
noncomputable def pv (l : List F7) : Bool := @decide (PV l) (Classical.propDecidable _)
theorem pv_iff {l : List F7} : pv l = true ↔ PV l := by unfold pv; simp
theorem pv_not {l : List F7} : pv l = false ↔ ¬ PV l := by unfold pv; simp
theorem pv_t {l : List F7} (h : PV l) : pv l = true := pv_iff.2 h
theorem pv_f {l : List F7} (h : ¬ PV l) : pv l = false := pv_not.2 h
theorem PV.pin {l : List F7} (h : PV l) {i : Nat} (hi : i < l.length) : Pin (l.getD i zz) := pok_iff.1 (h.2 i hi).ok

/-- The sums of two Parts, without a day. -/
def add (s x : F7) : F7 := (s.1, s.2.1 + x.2.1, s.2.2.1 + x.2.2.1, s.2.2.2.1 + x.2.2.2.1, s.2.2.2.2.1 + x.2.2.2.2.1, s.2.2.2.2.2.1 + x.2.2.2.2.2.1, s.2.2.2.2.2.2 + x.2.2.2.2.2.2)
def sumTo (l : List F7) : Nat → F7
  | 0 => zz
  | k + 1 => add (sumTo l k) (l.getD k zz)
/-- The sums of k Parts are far from the ends of the numbers. -/
structure Sin (k : Nat) (s : F7) : Prop where
  d : s.1 = 0
  p0 : 0 ≤ s.2.1
  p1 : s.2.1 ≤ k * 1000000000000
  i0 : 0 ≤ s.2.2.1
  i1 : s.2.2.1 ≤ k * 1000000000000
  f0 : 0 ≤ s.2.2.2.1
  f1 : s.2.2.2.1 ≤ k * 1000000000000
  q0 : 0 ≤ s.2.2.2.2.1
  q1 : s.2.2.2.2.1 ≤ s.2.1
  j0 : 0 ≤ s.2.2.2.2.2.1
  j1 : s.2.2.2.2.2.1 ≤ s.2.2.1
  g0 : 0 ≤ s.2.2.2.2.2.2
  g1 : s.2.2.2.2.2.2 ≤ s.2.2.2.1
theorem Sin.add {k : Nat} {s x : F7} (h : Sin k s) (p : Pin x) : Sin (k + 1) (add s x) := by
  obtain ⟨a0, a1, a2, a3, a4, a5, a6, a7, a8, a9, b0, b1, b2⟩ := h
  obtain ⟨c0, c1, c2, c3, c4, c5, c6, c7, c8, c9, d0, d1, d2, d3⟩ := p
  unfold pl.add
  constructor <;> dsimp only <;> omega
theorem sin {l : List F7} (h : PV l) : ∀ {k : Nat}, k ≤ l.length → Sin k (sumTo l k)
  | 0, _ => by unfold sumTo zz; constructor <;> simp
  | k + 1, hk => by rw [sumTo]; exact (sin h (by omega)).add (h.pin (by omega))

/-- The sums of a plan; of no plan, zeros. -/
noncomputable def sums (l : List F7) : F7 := if pv l then sumTo l l.length else zz
theorem sums_t {l : List F7} (h : pv l = true) : sums l = sumTo l l.length := by unfold sums; rw [h]; rfl
theorem sums_f {l : List F7} (h : pv l = false) : sums l = zz := by unfold sums; rw [h]; rfl

/-- A walk over a list that hands a state on, from the first one to the last one. -/
def ml {S : Type} (f : S → F7 → F7 × S) : S → List F7 → List F7 × S
  | s, [] => ([], s)
  | s, x :: l => ((f s x).1 :: (ml f (f s x).2 l).1, (ml f (f s x).2 l).2)
/-- The same, from the last one to the first one. -/
def mr {S : Type} (f : S → F7 → F7 × S) (s : S) : List F7 → List F7 × S
  | [] => ([], s)
  | x :: l => ((f (mr f s l).2 x).1 :: (mr f s l).1, (f (mr f s l).2 x).2)
theorem ml_len {S : Type} (f : S → F7 → F7 × S) : ∀ (s : S) (l : List F7), (ml f s l).1.length = l.length
  | _, [] => rfl
  | s, x :: l => by simp [ml, ml_len f _ l]
theorem mr_len {S : Type} (f : S → F7 → F7 × S) (s : S) : ∀ (l : List F7), (mr f s l).1.length = l.length
  | [] => rfl
  | x :: l => by simp [mr, mr_len f s l]
theorem ml_snoc {S : Type} (f : S → F7 → F7 × S) : ∀ (s : S) (l : List F7) (x : F7), ml f s (l ++ [x]) = ((ml f s l).1 ++ [(f (ml f s l).2 x).1], (f (ml f s l).2 x).2)
  | _, [], _ => rfl
  | s, y :: l, x => by simp [ml, ml_snoc f _ l x]
theorem take_snoc {l : List F7} {k : Nat} (h : k < l.length) : l.take (k + 1) = l.take k ++ [l.getD k zz] := by
  rw [List.take_add_one, List.getD_eq_getElem?_getD, List.getElem?_eq_getElem h]; simp
theorem drop_cons {l : List F7} {k : Nat} (h : k < l.length) : l.drop k = l.getD k zz :: l.drop (k + 1) := by
  rw [List.drop_eq_getElem_cons h, List.getD_eq_getElem?_getD, List.getElem?_eq_getElem h]; simp
/-- The list behind the first k rounds of a walk forward. -/
def fw {S : Type} (f : S → F7 → F7 × S) (s : S) (l : List F7) (k : Nat) : List F7 := (ml f s (l.take k)).1 ++ l.drop k
def fs {S : Type} (f : S → F7 → F7 × S) (s : S) (l : List F7) (k : Nat) : S := (ml f s (l.take k)).2
theorem fw_zero {S : Type} (f : S → F7 → F7 × S) (s : S) (l : List F7) : fw f s l 0 = l := by simp [fw, ml]
theorem fs_zero {S : Type} (f : S → F7 → F7 × S) (s : S) (l : List F7) : fs f s l 0 = s := by simp [fs, ml]
theorem fw_len {S : Type} (f : S → F7 → F7 × S) (s : S) (l : List F7) (k : Nat) : (fw f s l k).length = l.length := by
  simp [fw, ml_len]; omega
theorem fw_all {S : Type} (f : S → F7 → F7 × S) (s : S) (l : List F7) : fw f s l l.length = (ml f s l).1 := by simp [fw]
theorem fs_all {S : Type} (f : S → F7 → F7 × S) (s : S) (l : List F7) : fs f s l l.length = (ml f s l).2 := by simp [fs]
theorem fs_succ {S : Type} (f : S → F7 → F7 × S) (s : S) {l : List F7} {k : Nat} (h : k < l.length) : fs f s l (k + 1) = (f (fs f s l k) (l.getD k zz)).2 := by
  unfold fs; rw [take_snoc h, ml_snoc]
theorem fw_get {S : Type} (f : S → F7 → F7 × S) (s : S) {l : List F7} {k : Nat} (h : k < l.length) : (fw f s l k).getD k zz = l.getD k zz := by
  have hl : (ml f s (l.take k)).1.length = k := by rw [ml_len]; simp; omega
  unfold fw
  rw [List.getD_eq_getElem?_getD, List.getElem?_append_right (by omega), hl, Nat.sub_self, drop_cons h]; rfl
theorem fw_succ {S : Type} (f : S → F7 → F7 × S) (s : S) {l : List F7} {k : Nat} (h : k < l.length) : fw f s l (k + 1) = (fw f s l k).set k (f (fs f s l k) (l.getD k zz)).1 := by
  have hl : (ml f s (l.take k)).1.length = k := by rw [ml_len]; simp; omega
  unfold fw fs
  rw [take_snoc h, ml_snoc, List.set_append_right _ _ (by omega), hl, Nat.sub_self, drop_cons h]
  simp
/-- The list when the Parts from place k on are done by a walk backward. -/
def bw {S : Type} (f : S → F7 → F7 × S) (s : S) (l : List F7) (k : Nat) : List F7 := l.take k ++ (mr f s (l.drop k)).1
def bs {S : Type} (f : S → F7 → F7 × S) (s : S) (l : List F7) (k : Nat) : S := (mr f s (l.drop k)).2
theorem bw_all {S : Type} (f : S → F7 → F7 × S) (s : S) (l : List F7) : bw f s l l.length = l := by simp [bw, mr]
theorem bs_all {S : Type} (f : S → F7 → F7 × S) (s : S) (l : List F7) : bs f s l l.length = s := by simp [bs, mr]
theorem bw_len {S : Type} (f : S → F7 → F7 × S) (s : S) (l : List F7) (k : Nat) : (bw f s l k).length = l.length := by
  simp [bw, mr_len]; omega
theorem bw_zero {S : Type} (f : S → F7 → F7 × S) (s : S) (l : List F7) : bw f s l 0 = (mr f s l).1 := by simp [bw]
theorem bs_zero {S : Type} (f : S → F7 → F7 × S) (s : S) (l : List F7) : bs f s l 0 = (mr f s l).2 := by simp [bs]
theorem bs_succ {S : Type} (f : S → F7 → F7 × S) (s : S) {l : List F7} {k : Nat} (h : k < l.length) : bs f s l k = (f (bs f s l (k + 1)) (l.getD k zz)).2 := by
  unfold bs; rw [drop_cons h, mr]
theorem bw_get {S : Type} (f : S → F7 → F7 × S) (s : S) {l : List F7} {k : Nat} (h : k < l.length) : (bw f s l (k + 1)).getD k zz = l.getD k zz := by
  unfold bw
  rw [List.getD_eq_getElem?_getD, List.getElem?_append_left (by simp; omega), List.getElem?_take, if_pos (by omega), List.getD_eq_getElem?_getD]
theorem bw_succ {S : Type} (f : S → F7 → F7 × S) (s : S) {l : List F7} {k : Nat} (h : k < l.length) : bw f s l k = (bw f s l (k + 1)).set k (f (bs f s l (k + 1)) (l.getD k zz)).1 := by
  have hl : (l.take k).length = k := by simp; omega
  unfold bw bs
  rw [take_snoc h, drop_cons h, mr, List.append_assoc, List.set_append_right _ _ (by omega), hl, Nat.sub_self]
  simp
/-- What a round leaves of the state keeps what all rounds keep. -/
theorem fs_keep {S : Type} {f : S → F7 → F7 × S} {s : S} {l : List F7} (I : S → Prop) (h0 : I s) (hs : ∀ s x, I s → x ∈ l → I (f s x).2) : ∀ k, k ≤ l.length → I (fs f s l k)
  | 0, _ => by rw [fs_zero]; exact h0
  | k + 1, hk => by
    rw [fs_succ f s (by omega)]
    refine hs _ _ (fs_keep I h0 hs k (by omega)) ?_
    rw [List.getD_eq_getElem?_getD, List.getElem?_eq_getElem (by omega)]; simp
theorem bs_keep {S : Type} {f : S → F7 → F7 × S} {s : S} {l : List F7} (I : S → Prop) (h0 : I s) (hs : ∀ s x, I s → x ∈ l → I (f s x).2) : ∀ j k, k + j = l.length → I (bs f s l k)
  | 0, k, e => by obtain rfl : k = l.length := by omega
                  rw [bs_all]; exact h0
  | j + 1, k, e => by
    rw [bs_succ f s (by omega)]
    refine hs _ _ (bs_keep I h0 hs j (k + 1) (by omega)) ?_
    rw [List.getD_eq_getElem?_getD, List.getElem?_eq_getElem (by omega)]; simp

/-- Fees: a Part that is late gets its fee. -/
def isLate (d gr : Int) (x : F7) : Bool := decide (x.1 + gr < d) && (x.2.2.2.1 == 0) && (decide (x.2.2.2.2.1 < x.2.1) || decide (x.2.2.2.2.2.1 < x.2.2.1))
def late (d fee gr : Int) (s : Int) (x : F7) : F7 × Int :=
  if isLate d gr x then ((x.1, x.2.1, x.2.2.1, fee, x.2.2.2.2.1, x.2.2.2.2.2.1, x.2.2.2.2.2.2), s + fee) else (x, s)
/-- A cut of the price. -/
def cut (n : Int) (x : F7) : F7 × Int :=
  ((x.1, x.2.1 - min n (x.2.1 - x.2.2.2.2.1), x.2.2.1, x.2.2.2.1, x.2.2.2.2.1, x.2.2.2.2.2.1, x.2.2.2.2.2.2), n - min n (x.2.1 - x.2.2.2.2.1))
/-- Giving back. -/
def back (n : Int) (x : F7) : F7 × Int :=
  ((x.1, x.2.1 - min n x.2.2.2.2.1, x.2.2.1, x.2.2.2.1, x.2.2.2.2.1 - min n x.2.2.2.2.1, x.2.2.2.2.2.1, x.2.2.2.2.2.2), n - min n x.2.2.2.2.1)
/-- A payment: what goes to the fee, to the interest and to the price. -/
def pF (n : Int) (x : F7) : Int := min n (x.2.2.2.1 - x.2.2.2.2.2.2)
def pI (n : Int) (x : F7) : Int := min (n - pF n x) (x.2.2.1 - x.2.2.2.2.2.1)
def pP (n : Int) (x : F7) : Int := min (n - pF n x - pI n x) (x.2.1 - x.2.2.2.2.1)
/-- The state of a payment: what is left, and what has gone to the fees, the interest and the price. -/
abbrev S4 := Int × Int × Int × Int
def pay (s : S4) (x : F7) : F7 × S4 :=
  ((x.1, x.2.1, x.2.2.1, x.2.2.2.1, x.2.2.2.2.1 + pP s.1 x, x.2.2.2.2.2.1 + pI s.1 x, x.2.2.2.2.2.2 + pF s.1 x),
   (s.1 - pF s.1 x - pI s.1 x - pP s.1 x, s.2.1 + pF s.1 x, s.2.2.1 + pI s.1 x, s.2.2.2 + pP s.1 x))
/-- Paying off: interest that is not due is waived. -/
def woff (d : Int) (x : F7) : Int := if d < x.1 then x.2.2.1 - x.2.2.2.2.2.1 else 0
def off (d : Int) (s : Int) (x : F7) : F7 × Int :=
  ((x.1, x.2.1, x.2.2.1 - woff d x, x.2.2.2.1, x.2.1, x.2.2.1 - woff d x, x.2.2.2.1), s + woff d x)
end Go.Proofs.YtchpjojndkkmeaaDoor.pl
