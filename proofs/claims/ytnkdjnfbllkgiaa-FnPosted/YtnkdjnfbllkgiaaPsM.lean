/-
  Plain mathematics: posting a batch in another order, and back. Conditions: none.
-/
import Derived.Test.YtnkdjnfbllkgiaaPutI
namespace Go.Proofs.Ytnkdjnfbllkgiaa.led
theorem plok_perm {b b' : List F5} (h : b.Perm b') : BV b → BV b' := fun hb => BV_of (by rw [← h.length_eq]; exact hb.1) fun _ hx => BV_mem hb (h.mem_iff.2 hx)
theorem zv_perm {b b' : List F5} (h : b.Perm b') : ZV b → ZV b' := fun hz c h0 h6 => by rw [← csum_perm h]; exact hz c h0 h6
theorem puts_uniq {l m b : List F5} (hl : LV l) (hb : BV b) (hm : SS m) (hi : ∀ x ∈ m, In x ∧ nn x ≠ 0) (he : ∀ k, bal m k = bal l k + bal b k) : puts l b = m :=
  uniq (puts_SS (LV_SS hl)) hm (fun x hx => by
    have := puts_ok (l := l) (b := b) (fun _ hx => ⟨(LV_mem hl hx).1, (LV_mem hl hx).2.1⟩) (fun _ hx => (BV_mem hb hx).1) x hx
    exact ⟨plok_in this.1, this.2⟩) hi (fun k => by rw [puts_bal, he])
theorem puts_perm {l b b' : List F5} (h : b.Perm b') (hl : LV l) (hb : BV b) : puts l b = puts l b' :=
  puts_uniq hl hb (puts_SS (LV_SS hl)) (fun x hx => by
    have := puts_ok (l := l) (b := b') (fun _ hx => ⟨(LV_mem hl hx).1, (LV_mem hl hx).2.1⟩) (fun _ hx => (BV_mem (plok_perm h hb) hx).1) x hx
    exact ⟨plok_in this.1, this.2⟩) (fun k => by rw [puts_bal, bal_perm h])
/-- The order of a batch does not matter. -/
theorem Pst.perm {l b b' r : List F5} {c : Int} (p : b.Perm b') (h : Pst l b r c) : Pst l b' r c := by
  refine ⟨h.c1, fun q1 q2 => h.c2 q1 fun q => q2 (plok_perm p q), fun q1 q2 q3 => h.c3 q1 (plok_perm p.symm q2) fun q => q3 (zv_perm p q), fun q1 q2 q3 q4 => ?_, fun q1 q2 q3 q4 => ?_⟩
  · have q2' := plok_perm p.symm q2
    exact h.c4 q1 q2' (zv_perm p.symm q3) (by rw [puts_perm p q1 q2']; exact q4)
  · have q2' := plok_perm p.symm q2
    rw [← puts_perm p q1 q2'] at q4 ⊢
    exact h.c0 q1 q2' (zv_perm p.symm q3) q4
def ng (x : F5) : F5 := wn x (-(nn x))
theorem bal_ng : ∀ (b : List F5) (k : Int), bal (b.map ng) k = -(bal b k)
  | [], k => by simp [bal]
  | x :: b, k => by
    rw [List.map_cons, bal, bal, bal_ng b k]
    show (if K (ng x) = k then nn (ng x) else 0) + _ = _
    rw [show K (ng x) = K x from rfl, show nn (ng x) = -(nn x) from rfl]
    split <;> omega
theorem csum_ng : ∀ (b : List F5) (k : Int), csum (b.map ng) k = -(csum b k)
  | [], k => by simp [csum]
  | x :: b, k => by
    rw [List.map_cons, csum, csum, csum_ng b k]
    show (if x.2.2.2.1 = k then -(nn x) else 0) + _ = _
    split <;> omega
/-- A batch posted with all signs turned restores the ledger. -/
theorem Pst.back {l b r : List F5} (h : Pst l b r 0) : Pst r (b.reverse.map ng) l 0 := by
  obtain ⟨q1, q2, q3, q4, e⟩ := h.zero
  have hb : BV (b.reverse.map ng) := BV_of (by simp; exact q2.1) fun x hx => by
    obtain ⟨y, hy, rfl⟩ := List.mem_map.1 hx
    have := BV_mem q2 (by simpa using hy : y ∈ b)
    refine ⟨this.1, ?_⟩
    have hr := inR_iff.1 this.2
    exact inR_iff.2 (by show -1000000000000 ≤ -(nn y) ∧ -(nn y) ≤ 1000000000000; omega)
  have hz : ZV (b.reverse.map ng) := fun c h0 h6 => by rw [csum_ng, csum_perm (List.reverse_perm b), q3 c h0 h6]; rfl
  have pe : puts r (b.reverse.map ng) = l := puts_uniq q4 hb (LV_SS q1) (fun x hx => ⟨plok_in (LV_mem q1 hx).1, (LV_mem q1 hx).2.1⟩) (fun k => by
    rw [bal_ng, bal_perm (List.reverse_perm b), e, puts_bal]; omega)
  have := mk0 q4 hb hz (by rw [pe]; exact q1)
  rw [pe] at this
  exact this
/-- The last posts of a batch, from the end on. -/
def rv (b : List F5) (k : Nat) : List F5 := (b.drop k).reverse
theorem rv_all (b : List F5) : rv b b.length = [] := by simp [rv]
theorem rv_zero (b : List F5) : rv b 0 = b.reverse := by simp [rv]
theorem rv_step {b : List F5} {j : Nat} (h : j < b.length) : rv b j = rv b (j + 1) ++ [b.getD j z5] := by
  unfold rv
  rw [drop_succ5 h, List.reverse_cons]
theorem rv_len (b : List F5) (k : Nat) : (rv b k).length ≤ b.length := by unfold rv; simp
/-- The same with all signs turned. -/
def rn (b : List F5) (k : Nat) : List F5 := (rv b k).map ng
theorem rn_all (b : List F5) : rn b b.length = [] := by unfold rn; rw [rv_all]; rfl
theorem rn_zero (b : List F5) : rn b 0 = b.reverse.map ng := by unfold rn; rw [rv_zero]
theorem rn_step {b : List F5} {j : Nat} (h : j < b.length) : rn b j = rn b (j + 1) ++ [ng (b.getD j z5)] := by
  unfold rn
  rw [rv_step h, List.map_append]; rfl
theorem rn_len (b : List F5) (k : Nat) : (rn b k).length ≤ b.length := by unfold rn; rw [List.length_map]; exact rv_len b k

end Go.Proofs.Ytnkdjnfbllkgiaa.led
