/-
  Plain helpers of this seat's proofs: the frames with which a text begins. Conditions: none.
-/
import Derived.Test.YtibkoacphfdlkaaCrc
namespace Go.Proofs.Ytibkoacphfdlkaa.frm
open Go.ChangeShapes Go.WideShapes Go.ChangeAt Go.RowKit
open crc (le4 be4 sum)

/-- The number of four bytes, the greatest first. -/
def n4 (a b c d : Nat) : Nat := ((a * 256 + b) * 256 + c) * 256 + d
def bt (l : List UInt8) (i : Nat) : Nat := (l.getD i 0).toNat
theorem bt_lt (l : List UInt8) (i : Nat) : bt l i < 256 := (l.getD i 0).toNat_lt
/-- The size that a head at place p tells. -/
def sz (l : List UInt8) (p : Nat) : Nat := n4 (bt l p) (bt l (p + 1)) (bt l (p + 2)) (bt l (p + 3))
theorem sz_lt (l : List UInt8) (p : Nat) : sz l p < 4294967296 := by
  have := bt_lt l p; have := bt_lt l (p + 1); have := bt_lt l (p + 2); have := bt_lt l (p + 3)
  unfold sz n4; omega
/-- The data behind a head at place p. -/
def dat (l : List UInt8) (p : Nat) : List UInt8 := (l.drop (p + 8)).take (sz l p)
/-- A frame begins at place p. -/
def Good (l : List UInt8) (p : Nat) : Prop := p + 8 ≤ l.length ∧ sz l p ≤ 100000 ∧ p + 8 + sz l p ≤ l.length ∧ le4 (sum (dat l p)) = (l.drop (p + 4)).take 4
instance (l : List UInt8) (p : Nat) : Decidable (Good l p) := inferInstanceAs (Decidable (_ ∧ _))
theorem dat_len {l : List UInt8} {p : Nat} (h : p + 8 + sz l p ≤ l.length) : (dat l p).length = sz l p := by unfold dat; simp; omega
/-- Where the k-th frame begins. -/
def pos (l : List UInt8) : Nat → Nat
  | 0 => 0
  | k + 1 => pos l k + 8 + sz l (pos l k)
def Run (l : List UInt8) (k : Nat) : Prop := ∀ i, i < k → Good l (pos l i)
def outs (l : List UInt8) (k : Nat) : List (List UInt8) := (List.range k).map fun i => dat l (pos l i)
theorem outs_succ (l : List UInt8) (k : Nat) : outs l (k + 1) = outs l k ++ [dat l (pos l k)] := by unfold outs; rw [List.range_succ, List.map_append]; rfl
theorem outs_len (l : List UInt8) (k : Nat) : (outs l k).length = k := by simp [outs]
/-- What the frames of a text are. -/
def Fr (l : List UInt8) (k : Nat) : Prop := Run l k ∧ ¬ Good l (pos l k)
theorem fr_one {l : List UInt8} {j k : Nat} (a : Fr l j) (b : Fr l k) : j = k := by
  rcases Nat.lt_trichotomy j k with h | h | h
  · exact absurd (b.1 j h) a.2
  · exact h
  · exact absurd (a.1 k h) b.2
theorem run_pos {l : List UInt8} : ∀ {k : Nat}, Run l k → 8 * k ≤ pos l k ∧ pos l k ≤ l.length
  | 0, _ => by simp [pos]
  | k + 1, h => by
    have a := run_pos (k := k) (fun i hi => h i (by omega))
    have g := (h k (by omega)).2.2.1
    rw [pos]; omega
theorem run_succ {l : List UInt8} {k : Nat} (h : Run l k) (g : Good l (pos l k)) : Run l (k + 1) := fun i hi => by
  by_cases e : i = k
  · subst e; exact g
  · exact h i (by omega)
/-- There is an end. -/
theorem fr_ex (l : List UInt8) : ∃ k, Fr l k := by
  have key : ∀ n k, Run l k → l.length < 8 * (k + n) → ∃ k, Fr l k := by
    intro n
    induction n with
    | zero => intro k h e; have := run_pos h; omega
    | succ n ih =>
      intro k h e
      by_cases g : Good l (pos l k)
      · exact ih (k + 1) (run_succ h g) (by omega)
      · exact ⟨k, h, g⟩
  exact key (l.length + 1) 0 (fun i hi => by omega) (by omega)
/-- The four bytes of a head are those of its number. -/
theorem be_n4 {a b c d : Nat} (ha : a < 256) (hb : b < 256) (hc : c < 256) (hd : d < 256) : be4 (n4 a b c d) = [UInt8.ofNat a, UInt8.ofNat b, UInt8.ofNat c, UInt8.ofNat d] := by
  have e1 : n4 a b c d / 16777216 % 256 = a := by unfold n4; omega
  have e2 : n4 a b c d / 65536 % 256 = b := by unfold n4; omega
  have e3 : n4 a b c d / 256 % 256 = c := by unfold n4; omega
  have e4 : n4 a b c d % 256 = d := by unfold n4; omega
  unfold be4
  rw [e1, e2, e3, e4]
theorem of_bt (l : List UInt8) (i : Nat) : UInt8.ofNat (bt l i) = l.getD i 0 := by unfold bt; simp
theorem take4 {l : List UInt8} {p : Nat} (h : p + 4 ≤ l.length) : (l.drop p).take 4 = [l.getD p 0, l.getD (p + 1) 0, l.getD (p + 2) 0, l.getD (p + 3) 0] := by
  apply List.ext_getElem
  · simp; omega
  · intro i h1 h2
    simp at h1 h2
    have g : ∀ j, j < l.length → l.getD j 0 = l[j]! := fun j hj => by simp [List.getD_eq_getElem?_getD, hj]
    obtain rfl | rfl | rfl | rfl : i = 0 ∨ i = 1 ∨ i = 2 ∨ i = 3 := by omega
    all_goals (simp [List.getD_eq_getElem?_getD]; try rw [List.getElem?_eq_getElem (by omega)]; try rfl)
/-- The head of a text, at place p: the size, then the checksum. -/
theorem head_is {l : List UInt8} {p : Nat} (h : p + 8 ≤ l.length) : (l.drop p).take 8 = be4 (sz l p) ++ (l.drop (p + 4)).take 4 := by
  have e : (l.drop p).take 8 = (l.drop p).take 4 ++ (l.drop (p + 4)).take 4 := by
    rw [show (8 : Nat) = 4 + 4 from rfl, List.take_add, List.drop_drop]
  rw [e, take4 (by omega)]
  unfold sz
  rw [be_n4 (bt_lt _ _) (bt_lt _ _) (bt_lt _ _) (bt_lt _ _), of_bt, of_bt, of_bt, of_bt]
/-- What the landed check asks. -/
theorem good_iff {l : List UInt8} {p : Nat} (h : p + 8 ≤ l.length) (h1 : sz l p ≤ 100000) (h2 : p + 8 + sz l p ≤ l.length) : Good l p ↔ be4 (dat l p).length ++ le4 (sum (dat l p)) = (l.drop p).take 8 := by
  rw [head_is h, dat_len h2]
  constructor
  · intro g; rw [g.2.2.2]
  · intro e; exact ⟨h, h1, h2, List.append_cancel_left e⟩
end Go.Proofs.Ytibkoacphfdlkaa.frm
