/-
  Plain mathematics: balances as a list without doubles, and what adding posts to them gives. Conditions: none.
-/
import Derived.Test.YtpogfdeioibkdaaGreatDoorLed
namespace Go.Proofs.YtpogfdeioibkdaaGreatDoor.led
/-- Two posts of one balance. -/
def same (x y : F5) : Prop := x.1 = y.1 ∧ x.2.1 = y.2.1 ∧ x.2.2.1 = y.2.2.1 ∧ x.2.2.2.1 = y.2.2.2.1
instance (x y : F5) : Decidable (same x y) := by unfold same; infer_instance
theorem same.K {x y : F5} (h : same x y) : K x = K y := by
  obtain ⟨h1, h2, h3, h4⟩ := h
  unfold led.K
  rw [h1, h2, h3, h4]
theorem same.symm {x y : F5} (h : same x y) : same y x := ⟨h.1.symm, h.2.1.symm, h.2.2.1.symm, h.2.2.2.symm⟩
theorem same.trans {x y z : F5} (h : same x y) (k : same y z) : same x z := ⟨h.1.trans k.1, h.2.1.trans k.2.1, h.2.2.1.trans k.2.2.1, h.2.2.2.trans k.2.2.2⟩
theorem same_wn (x : F5) (n : Int) : same (wn x n) x := ⟨rfl, rfl, rfl, rfl⟩
theorem same.plok {x y : F5} (h : same x y) : plok x = plok y := by
  obtain ⟨h1, h2, h3, h4⟩ := h
  unfold led.plok
  rw [h1, h2, h3, h4]
/-- One post added to a list of balances. -/
def addE : List F5 → F5 → List F5
  | [], p => [p]
  | x :: l, p => if same x p then wn x (nn x + nn p) :: l else x :: addE l p
def addAll (L b : List F5) : List F5 := b.foldl addE L
def Apart (L : List F5) : Prop := L.Pairwise fun x y => ¬ same x y
theorem addE_bal : ∀ (L : List F5) (p : F5) (k : Int), bal (addE L p) k = bal L k + (if K p = k then nn p else 0)
  | [], p, k => by simp [addE, bal]
  | x :: l, p, k => by
    unfold addE
    split
    · rename_i h
      rw [bal, bal, K_wn, nn_wn, h.K]
      split <;> omega
    · rw [bal, bal, addE_bal l p k]; omega
theorem addE_mem : ∀ {L : List F5} {p x : F5}, x ∈ addE L p → (∃ y ∈ L, same x y) ∨ same x p
  | [], p, x, h => by
    simp [addE] at h
    exact .inr (h ▸ ⟨rfl, rfl, rfl, rfl⟩)
  | y :: l, p, x, h => by
    unfold addE at h
    split at h
    · rcases List.mem_cons.1 h with rfl | h
      · exact .inl ⟨y, by simp, same_wn _ _⟩
      · exact .inl ⟨x, by simp [h], rfl, rfl, rfl, rfl⟩
    · rcases List.mem_cons.1 h with rfl | h
      · exact .inl ⟨x, by simp, rfl, rfl, rfl, rfl⟩
      · rcases addE_mem h with ⟨z, hz, e⟩ | e
        · exact .inl ⟨z, by simp [hz], e⟩
        · exact .inr e
theorem addE_plok {L : List F5} {p : F5} (h : ∀ x ∈ L, plok x = true) (hp : plok p = true) : ∀ x ∈ addE L p, plok x = true := fun x hx => by
  rcases addE_mem hx with ⟨y, hy, e⟩ | e
  · rw [e.plok]; exact h y hy
  · rw [e.plok]; exact hp
theorem addE_apart : ∀ {L : List F5} {p : F5}, Apart L → Apart (addE L p)
  | [], p, _ => by simp [addE, Apart]
  | x :: l, p, h => by
    obtain ⟨h1, h2⟩ := List.pairwise_cons.1 h
    unfold addE
    split
    · exact List.pairwise_cons.2 ⟨fun y hy e => h1 y hy ((same_wn x _).symm.trans e), h2⟩
    · rename_i c
      refine List.pairwise_cons.2 ⟨fun y hy e => ?_, addE_apart h2⟩
      rcases addE_mem hy with ⟨z, hz, q⟩ | q
      · exact h1 z hz (e.trans q)
      · exact c (e.trans q)
theorem addE_bound {m B : Int} : ∀ {L : List F5} {p : F5}, 0 ≤ m → (∀ x ∈ L, -m ≤ nn x ∧ nn x ≤ m) → -B ≤ nn p ∧ nn p ≤ B → ∀ x ∈ addE L p, -(m + B) ≤ nn x ∧ nn x ≤ m + B
  | [], p, hm, _, hp, x, hx => by
    simp [addE] at hx
    rw [hx]; omega
  | y :: l, p, hm, h, hp, x, hx => by
    unfold addE at hx
    have hy := h y (by simp)
    split at hx
    · rcases List.mem_cons.1 hx with rfl | hx
      · rw [nn_wn]; omega
      · have := h x (by simp [hx]); omega
    · rcases List.mem_cons.1 hx with rfl | hx
      · omega
      · exact addE_bound hm (fun z hz => h z (by simp [hz])) hp x hx
theorem addE_hit : ∀ {L : List F5} {p x : F5} {j : Nat}, Apart L → L[j]? = some x → same x p → addE L p = L.set j (wn x (nn x + nn p))
  | [], p, x, j, _, h, _ => by simp at h
  | y :: l, p, x, 0, _, h, e => by
    simp at h
    subst h
    rw [addE, if_pos e]; rfl
  | y :: l, p, x, j + 1, ha, h, e => by
    obtain ⟨h1, h2⟩ := List.pairwise_cons.1 ha
    simp at h
    have hm : x ∈ l := List.mem_of_getElem? h
    rw [addE, if_neg (fun q => h1 x hm (q.trans e.symm)), addE_hit h2 h e]; rfl
theorem addE_miss : ∀ {L : List F5} {p : F5}, (∀ x ∈ L, ¬ same x p) → addE L p = L ++ [p]
  | [], p, _ => rfl
  | y :: l, p, h => by rw [addE, if_neg (h y (by simp)), addE_miss (fun z hz => h z (by simp [hz]))]; rfl
theorem addE_len : ∀ (L : List F5) (p : F5), (addE L p).length ≤ L.length + 1
  | [], p => by simp [addE]
  | y :: l, p => by
    have := addE_len l p
    unfold addE
    split <;> simp
    omega
theorem addAll_bal : ∀ (b L : List F5) (k : Int), bal (addAll L b) k = bal L k + bal b k
  | [], L, k => by simp [addAll, bal]
  | p :: b, L, k => by
    show bal (addAll (addE L p) b) k = _
    rw [addAll_bal b, addE_bal, bal]; omega
theorem addAll_plok : ∀ {b L : List F5}, (∀ x ∈ L, plok x = true) → (∀ x ∈ b, plok x = true) → ∀ x ∈ addAll L b, plok x = true
  | [], _, h, _ => h
  | p :: b, L, h, hb => addAll_plok (b := b) (L := addE L p) (addE_plok h (hb p (by simp))) (fun y hy => hb y (by simp [hy]))
theorem addAll_apart : ∀ {b L : List F5}, Apart L → Apart (addAll L b)
  | [], _, h => h
  | _ :: b, _, h => addAll_apart (b := b) (addE_apart h)
theorem addAll_snoc (L b : List F5) (p : F5) : addAll L (b ++ [p]) = addE (addAll L b) p := by simp [addAll]
/-- The first k posts of a list, added. -/
def addK (L l : List F5) (k : Nat) : List F5 := addAll L (l.take k)
theorem take_succ5 {l : List F5} {k : Nat} (h : k < l.length) : l.take (k + 1) = l.take k ++ [l.getD k z5] := by
  rw [List.take_succ_eq_append_getElem h, List.getD_eq_getElem?_getD, List.getElem?_eq_getElem h]; rfl
theorem addK_succ (L : List F5) {l : List F5} {k : Nat} (h : k < l.length) : addK L l (k + 1) = addE (addK L l k) (l.getD k z5) := by
  unfold addK
  rw [take_succ5 h, addAll_snoc]
theorem addK_all (L l : List F5) : addK L l l.length = addAll L l := by unfold addK; rw [List.take_length]
theorem addK_zero (L l : List F5) : addK L l 0 = L := by simp [addK, addAll]
theorem addK_bound {L l : List F5} {m : Int} (hm : 0 ≤ m) (h : ∀ x ∈ L, -m ≤ nn x ∧ nn x ≤ m) (hl : ∀ i, i < l.length → -1000000000000000 ≤ nn (l.getD i z5) ∧ nn (l.getD i z5) ≤ 1000000000000000) : ∀ k : Nat, k ≤ l.length → ∀ x ∈ addK L l k, -(m + 1000000000000000 * (k : Int)) ≤ nn x ∧ nn x ≤ m + 1000000000000000 * (k : Int)
  | 0, _, x, hx => by
    rw [addK_zero] at hx
    have := h x hx; omega
  | k + 1, hk, x, hx => by
    rw [addK_succ L (by omega)] at hx
    have := addE_bound (B := 1000000000000000) (by omega) (addK_bound hm h hl k (by omega)) (hl k (by omega)) x hx
    omega
theorem addK_apart {L : List F5} (l : List F5) (h : Apart L) (k : Nat) : Apart (addK L l k) := addAll_apart h
theorem addK_len (L l : List F5) : ∀ k, k ≤ l.length → (addK L l k).length ≤ L.length + k
  | 0, _ => by rw [addK_zero]; omega
  | k + 1, hk => by
    rw [addK_succ L (by omega)]
    have := addE_len (addK L l k) (l.getD k z5)
    have := addK_len L l k (by omega)
    omega

/-- The balance at a place, whatever the place is. -/
def at4 : List F5 → F5 → Int
  | [], _ => 0
  | x :: l, p => if same x p then nn x else at4 l p
theorem at4_hit : ∀ {L : List F5} {p x : F5} {j : Nat}, Apart L → L[j]? = some x → same x p → at4 L p = nn x
  | [], p, x, j, _, h, _ => by simp at h
  | y :: l, p, x, 0, _, h, e => by
    simp at h
    subst h
    rw [at4, if_pos e]
  | y :: l, p, x, j + 1, ha, h, e => by
    obtain ⟨h1, h2⟩ := List.pairwise_cons.1 ha
    simp at h
    have hm : x ∈ l := List.mem_of_getElem? h
    rw [at4, if_neg (fun q => h1 x hm (q.trans e.symm)), at4_hit h2 h e]
theorem at4_miss : ∀ {L : List F5} {p : F5}, (∀ x ∈ L, ¬ same x p) → at4 L p = 0
  | [], p, _ => rfl
  | y :: l, p, h => by rw [at4, if_neg (h y (by simp)), at4_miss (fun z hz => h z (by simp [hz]))]
theorem SS.apart {l : List F5} (h : SS l) : Apart l := List.Pairwise.imp (fun {x y} hk e => by rw [e.K] at hk; omega) h
/-- A ledger's own map holds the ledger. -/
theorem addAll_self : ∀ (l L : List F5), Apart (L ++ l) → addAll L l = L ++ l
  | [], L, _ => by simp [addAll]
  | p :: l, L, h => by
    show addAll (addE L p) l = _
    have h1 : ∀ x ∈ L, ¬ same x p := fun x hx => (List.pairwise_append.1 h).2.2 x hx p (by simp)
    rw [addE_miss h1, addAll_self l (L ++ [p]) (by rw [List.append_assoc]; exact h), List.append_assoc]; rfl
theorem addAll_nil {l : List F5} (h : SS l) : addAll [] l = l := by
  have := addAll_self l [] (by simpa using h.apart)
  simpa using this
/-- What is not 0, sorted, is what posting one by one leaves. -/
theorem sorted_puts {l b r : List F5} (hl : LV l) (hb : BV b) (hp : r.Perm ((addAll l b).filter fun x => decide (nn x ≠ 0))) (hs : r.Pairwise fun x y => ¬ cmpP y x < 0) : r = puts l b := by
  have pl : ∀ x ∈ addAll l b, plok x = true := addAll_plok (fun x hx => (LV_mem hl hx).1) (fun x hx => (BV_mem hb hx).1)
  have mr : ∀ x ∈ r, x ∈ addAll l b ∧ nn x ≠ 0 := fun x hx => by
    have := hp.mem_iff.1 hx
    simpa using this
  have ap : Apart r := by
    have a1 : Apart ((addAll l b).filter fun x => decide (nn x ≠ 0)) := (addAll_apart (LV_SS hl).apart).filter _
    exact (hp.pairwise_iff (fun {x y} (h : ¬ same x y) e => h e.symm)).2 a1
  have ss : SS r := by
    refine List.Pairwise.imp_of_mem (R := fun x y => ¬ cmpP y x < 0 ∧ ¬ same x y) (fun {x y} hx hy hh => ?_) (hs.and ap)
    have ix := plok_in (pl x (mr x hx).1)
    have iy := plok_in (pl y (mr y hy).1)
    rw [cmpP_K iy ix] at hh
    rcases Int.lt_trichotomy (K x) (K y) with c | c | c
    · exact c
    · exact absurd (K_inj ix iy c) hh.2
    · exact absurd c hh.1
  refine uniq ss (puts_SS (LV_SS hl)) (fun x hx => ⟨plok_in (pl x (mr x hx).1), (mr x hx).2⟩) (fun x hx => ?_) (fun k => ?_)
  · have := puts_ok (l := l) (b := b) (fun x hx => ⟨(LV_mem hl hx).1, (LV_mem hl hx).2.1⟩) (fun x hx => (BV_mem hb hx).1) x hx
    exact ⟨plok_in this.1, this.2⟩
  · rw [bal_perm hp, puts_bal, ← addAll_bal]
    generalize addAll l b = L
    induction L with
    | nil => rfl
    | cons x L ih =>
      by_cases h0 : nn x = 0
      · rw [List.filter_cons_of_neg (by simp [h0]), bal, ih, h0]; simp
      · rw [List.filter_cons_of_pos (by simp [h0]), bal, bal, ih]

end Go.Proofs.YtpogfdeioibkdaaGreatDoor.led
