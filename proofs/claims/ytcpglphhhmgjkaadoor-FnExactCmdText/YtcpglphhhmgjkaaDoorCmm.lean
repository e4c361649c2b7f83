/-
  Plain helpers of this seat's proofs: the mathematics of a valid command. Conditions: none.
-/
import Derived.Test.YtcpglphhhmgjkaaDoorCmv
namespace Go.Proofs.YtcpglphhhmgjkaaDoor.cm
open Go.ChangeShapes Go.WideShapes Go.ChangeAt Go.RowKit
open four (F4)
def inR (n a b : Int) : Bool := decide (a ≤ n) && decide (n ≤ b)
/-- One item is valid. -/
def iok (x : F4) : Bool := inR x.1 1 1000 && inR x.2.1 1 1000000 && inR x.2.2.1 0 x.1 && inR x.2.2.2 0 x.2.2.1
/-- A byte that a key may have. -/
def kb (b : UInt8) : Bool := (decide (97 ≤ b.toNat) && decide (b.toNat ≤ 122)) || (decide (48 ≤ b.toNat) && decide (b.toNat ≤ 57))
/-- The numbers in their order, and how many a kind has. -/
def nums (s : Sc) : List Int := [s.a, s.b, s.c, s.d, s.e, s.f]
def cnt (k : Int) : Nat := ([0, 1, 4, 2, 3, 6, 3, 3, 3, 2, 2, 2, 3, 1] : List Nat).getD k.toNat 0
/-- The numbers of each kind but the first one's being an id. -/
def fl (s : Sc) : Bool :=
  if s.k = 1 then (inR s.a 0 100000)
  else if s.k = 2 then (inR s.a 0 5 && inR s.b 0 5 && !(s.a == s.b) && inR s.c 1 1000000 && inR s.d 1 1000000)
  else if s.k = 3 then (inR s.b 0 1000000000000)
  else if s.k = 4 then (inR s.b 0 10000 && inR s.c 0 10000)
  else if s.k = 5 then (inR s.b 1 999 && inR s.c 1 999 && inR s.d 0 5 && inR s.e 1 24 && inR s.f 0 10000)
  else if s.k = 6 then (inR s.b 0 7 && inR s.c 1 1000)
  else if s.k = 7 then (inR s.b 0 5 && inR s.c 1 1000000000000)
  else if s.k = 8 then (inR s.b 0 7 && inR s.c 1 1000)
  else if s.k = 9 then (inR s.b 1 1000000000000)
  else if s.k = 10 then (inR s.b 0 1)
  else if s.k = 11 then (inR s.b 0 5)
  else if s.k = 12 then (inR s.b 0 5 && inR s.c 1 1000000000000)
  else if s.k = 13 then (true)
  else true
def idB (s : Sc) : Bool := if s.k = 1 then true else if s.k = 2 then true else inR s.a 1 999
def kind (s : Sc) : Bool := inR s.k 1 13
/-- The numbers that a kind does not have are 0. -/
def Zs (s : Sc) : Prop := ∀ j, cnt s.k ≤ j → j < 6 → (nums s).getD j 0 = 0
/-- The items. -/
def Its (s : Sc) (l : List F4) : Prop := if s.k = 5 then 1 ≤ l.length ∧ l.length ≤ 8 ∧ ∀ i, i < l.length → iok (l.getD i four.zz) = true ∧ (l.getD i four.zz).2.2.1 = 0 else l.length = 0
/-- The key. -/
def Key (q : ByteArray) : Prop := 1 ≤ q.size ∧ q.size ≤ 12 ∧ ∀ (i : Nat) (h : i < q.size), kb (q[i]) = true
noncomputable def dB (p : Prop) : Bool := @decide p (Classical.propDecidable _)
theorem dB_t {p : Prop} (h : p) : dB p = true := by unfold dB; simp [h]
theorem dB_f {p : Prop} (h : ¬ p) : dB p = false := by unfold dB; simp [h]
/-- A valid command. -/
noncomputable def ok (s : Sc) (l : List F4) : Bool := kind s && dB (Key s.key) && fl s && idB s && dB (Zs s) && dB (Its s l)
end Go.Proofs.YtcpglphhhmgjkaaDoor.cm
