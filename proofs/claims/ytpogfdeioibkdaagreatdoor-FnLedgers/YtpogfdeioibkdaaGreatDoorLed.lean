/-
  Plain mathematics: ledgers as lists of five numbers, what posting answers. Conditions: none.
-/
import Derived.WalkKit
namespace Go.Proofs.YtpogfdeioibkdaaGreatDoor.led
abbrev F5 := Int × Int × Int × Int × Int
def z5 : F5 := (0, 0, 0, 0, 0)
def inR (n a b : Int) : Bool := decide (a ≤ n) && decide (n ≤ b)
theorem inR_iff {n a b : Int} : inR n a b = true ↔ a ≤ n ∧ n ≤ b := by simp [inR]
theorem inR_not {n a b : Int} : inR n a b = false ↔ n < a ∨ b < n := by
  have := @inR_iff n a b
  cases h : inR n a b <;> simp [h] at this ⊢ <;> omega

/-- An account is valid. -/
def acct (a b c : Int) : Bool := if a = 1 ∨ a = 2 then inR b 1 999 && inR c 1 2 else if a = 3 then decide (b = 0) && inR c 1 5 else false
/-- The account and the currency of a post are valid. -/
def plok (x : F5) : Bool := acct x.1 x.2.1 x.2.2.1 && inR x.2.2.2.1 0 5
def nn (x : F5) : Int := x.2.2.2.2
def K (x : F5) : Int := ((x.1 * 1000 + x.2.1) * 10 + x.2.2.1) * 10 + x.2.2.2.1
structure In (x : F5) : Prop where
  a : 1 ≤ x.1 ∧ x.1 ≤ 3
  b : 0 ≤ x.2.1 ∧ x.2.1 ≤ 999
  c : 1 ≤ x.2.2.1 ∧ x.2.2.1 ≤ 5
  d : 0 ≤ x.2.2.2.1 ∧ x.2.2.2.1 ≤ 5
theorem plok_in {x : F5} (h : plok x = true) : In x := by
  unfold plok acct at h
  rw [Bool.and_eq_true, inR_iff] at h
  obtain ⟨h1, h2⟩ := h
  split at h1
  · rw [Bool.and_eq_true, inR_iff, inR_iff] at h1
    exact ⟨by omega, by omega, by omega, h2⟩
  · split at h1
    · rw [Bool.and_eq_true, inR_iff, decide_eq_true_eq] at h1
      exact ⟨by omega, by omega, by omega, h2⟩
    · cases h1
theorem K_inj {x y : F5} (hx : In x) (hy : In y) (h : K x = K y) : x.1 = y.1 ∧ x.2.1 = y.2.1 ∧ x.2.2.1 = y.2.2.1 ∧ x.2.2.2.1 = y.2.2.2.1 := by
  obtain ⟨a1, b1, c1, d1⟩ := hx
  obtain ⟨a2, b2, c2, d2⟩ := hy
  unfold K at h
  omega
theorem ext5 {x y : F5} (h : x.1 = y.1 ∧ x.2.1 = y.2.1 ∧ x.2.2.1 = y.2.2.1 ∧ x.2.2.2.1 = y.2.2.2.1) (hn : nn x = nn y) : x = y := by
  obtain ⟨a, b, c, d, e⟩ := x
  obtain ⟨a', b', c', d', e'⟩ := y
  obtain ⟨h1, h2, h3, h4⟩ := h
  unfold nn at hn
  dsimp only at h1 h2 h3 h4 hn
  subst h1 h2 h3 h4 hn
  rfl
def cmp2 (a b : Int) : Int := if a < b then -1 else if b < a then 1 else 0
def orr (a b : Int) : Int := if a = 0 then b else a
/-- The order of two posts by class, id, sub and currency. -/
def cmpP (x y : F5) : Int := orr (cmp2 x.1 y.1) (orr (cmp2 x.2.1 y.2.1) (orr (cmp2 x.2.2.1 y.2.2.1) (orr (cmp2 x.2.2.2.1 y.2.2.2.1) 0)))
theorem cmpP_K {x y : F5} (hx : In x) (hy : In y) : cmpP x y < 0 ↔ K x < K y := by
  obtain ⟨a1, b1, c1, d1⟩ := hx
  obtain ⟨a2, b2, c2, d2⟩ := hy
  unfold cmpP orr cmp2 K
  repeat' split
  all_goals omega
/-- What the i-th post of a ledger is asked. -/
structure Fine (l : List F5) (i : Nat) : Prop where
  pl : plok (l.getD i z5) = true
  nz : nn (l.getD i z5) ≠ 0
  far : inR (nn (l.getD i z5)) (-1000000000000000) 1000000000000000 = true
  up : 0 < i → K (l.getD (i - 1) z5) < K (l.getD i z5)
def LV (l : List F5) : Prop := l.length ≤ 400 ∧ ∀ i, i < l.length → Fine l i
noncomputable def lv (l : List F5) : Bool := @decide (LV l) (Classical.propDecidable _)
theorem lv_iff {l : List F5} : lv l = true ↔ LV l := by unfold lv; simp
theorem lv_not {l : List F5} : lv l = false ↔ ¬ LV l := by unfold lv; simp
theorem lv_t {l : List F5} (h : LV l) : lv l = true := lv_iff.2 h
theorem lv_f {l : List F5} (h : ¬ LV l) : lv l = false := lv_not.2 h

/-- Strictly increasing. -/
def SS (l : List F5) : Prop := List.Pairwise (fun x y => K x < K y) l
def bal : List F5 → Int → Int
  | [], _ => 0
  | x :: l, k => (if K x = k then nn x else 0) + bal l k
theorem bal_append : ∀ (l m : List F5) (k : Int), bal (l ++ m) k = bal l k + bal m k
  | [], m, k => by simp [bal]
  | x :: l, m, k => by rw [List.cons_append, bal, bal, bal_append l m k]; omega
theorem bal_none : ∀ {l : List F5} {k : Int}, (∀ x ∈ l, K x ≠ k) → bal l k = 0
  | [], _, _ => rfl
  | x :: l, k, h => by rw [bal, if_neg (h x (by simp)), bal_none (fun y hy => h y (by simp [hy]))]; rfl
theorem bal_head {x : F5} {l : List F5} (h : SS (x :: l)) : bal (x :: l) (K x) = nn x := by
  have h1 := (List.pairwise_cons.1 h).1
  rw [bal, if_pos rfl, bal_none (fun y hy => by have := h1 y hy; omega)]; omega
theorem bal_low {x : F5} {l : List F5} (h : SS (x :: l)) {k : Int} (hk : k < K x) : bal (x :: l) k = 0 := by
  have h1 := (List.pairwise_cons.1 h).1
  refine bal_none fun y hy => ?_
  rcases List.mem_cons.1 hy with rfl | hy
  · omega
  · have := h1 y hy; omega
/-- A ledger is determined by its balances. -/
theorem uniq : ∀ {l m : List F5}, SS l → SS m → (∀ x ∈ l, In x ∧ nn x ≠ 0) → (∀ x ∈ m, In x ∧ nn x ≠ 0) → (∀ k, bal l k = bal m k) → l = m
  | [], [], _, _, _, _, _ => rfl
  | [], y :: m, _, s2, _, h2, e => by
    have := e (K y)
    rw [bal_head s2] at this
    exact absurd this.symm (h2 y (by simp)).2
  | x :: l, [], s1, _, h1, _, e => by
    have := e (K x)
    rw [bal_head s1] at this
    exact absurd this (h1 x (by simp)).2
  | x :: l, y :: m, s1, s2, h1, h2, e => by
    have e1 := e (K x)
    have e2 := e (K y)
    rw [bal_head s1] at e1
    rw [bal_head s2] at e2
    have k : K x = K y := by
      rcases Int.lt_trichotomy (K x) (K y) with c | c | c
      · rw [bal_low s2 c] at e1; exact absurd e1 (h1 x (by simp)).2
      · exact c
      · rw [bal_low s1 c] at e2; exact absurd e2.symm (h2 y (by simp)).2
    rw [k, bal_head s2] at e1
    obtain rfl := ext5 (K_inj (h1 x (by simp)).1 (h2 y (by simp)).1 k) e1
    rw [uniq (List.pairwise_cons.1 s1).2 (List.pairwise_cons.1 s2).2 (fun z hz => h1 z (by simp [hz])) (fun z hz => h2 z (by simp [hz])) (fun k => by have := e k; rw [bal, bal] at this; omega)]

def wn (p : F5) (n : Int) : F5 := (p.1, p.2.1, p.2.2.1, p.2.2.2.1, n)
theorem K_wn (p : F5) (n : Int) : K (wn p n) = K p := rfl
theorem nn_wn (p : F5) (n : Int) : nn (wn p n) = n := rfl
/-- Added to a strictly increasing list. -/
def put : List F5 → F5 → List F5
  | [], p => if nn p = 0 then [] else [p]
  | x :: l, p => if K x < K p then x :: put l p else if K x = K p then (if nn p + nn x = 0 then l else wn p (nn p + nn x) :: l) else (if nn p = 0 then x :: l else p :: x :: l)
theorem put_K {k : Int} : ∀ {l : List F5} {p : F5}, (∀ x ∈ l, k < K x) → k < K p → ∀ x ∈ put l p, k < K x
  | [], p, _, hp, x, hx => by
    unfold put at hx; split at hx
    · simp at hx
    · simp at hx; rw [hx]; exact hp
  | y :: l, p, h, hp, x, hx => by
    unfold put at hx
    split at hx
    · rcases List.mem_cons.1 hx with rfl | hx
      · exact h x (by simp)
      · exact put_K (fun z hz => h z (by simp [hz])) hp x hx
    · split at hx
      · split at hx
        · exact h x (by simp [hx])
        · rcases List.mem_cons.1 hx with rfl | hx
          · rw [K_wn]; exact hp
          · exact h x (by simp [hx])
      · split at hx
        · exact h x hx
        · rcases List.mem_cons.1 hx with rfl | hx
          · exact hp
          · exact h x hx
theorem put_SS : ∀ {l : List F5} {p : F5}, SS l → SS (put l p)
  | [], p, _ => by unfold put; split <;> simp [SS]
  | x :: l, p, h => by
    obtain ⟨h1, h2⟩ := List.pairwise_cons.1 h
    unfold put
    split
    · rename_i c
      exact List.pairwise_cons.2 ⟨put_K h1 c, put_SS h2⟩
    · split
      · rename_i c
        split
        · exact h2
        · exact List.pairwise_cons.2 ⟨fun y hy => by rw [K_wn, ← c]; exact h1 y hy, h2⟩
      · rename_i c d
        split
        · exact h
        · exact List.pairwise_cons.2 ⟨fun y hy => by
            rcases List.mem_cons.1 hy with rfl | hy
            · omega
            · have := h1 y hy; omega, h⟩
theorem put_bal : ∀ {l : List F5} {p : F5} (k : Int), bal (put l p) k = bal l k + (if K p = k then nn p else 0)
  | [], p, k => by
    unfold put; split
    · rename_i h; simp [bal, h]
    · simp [bal]
  | x :: l, p, k => by
    unfold put
    split
    · rw [bal, bal, put_bal k]; omega
    · split
      · rename_i c
        split
        · rw [bal, c]; split <;> omega
        · rw [bal, bal, K_wn, nn_wn, c]; split <;> omega
      · split
        · rename_i h; rw [h]; simp
        · rw [bal]; omega
theorem put_ok : ∀ {l : List F5} {p : F5}, (∀ x ∈ l, plok x = true ∧ nn x ≠ 0) → plok p = true → ∀ x ∈ put l p, plok x = true ∧ nn x ≠ 0
  | [], p, _, hp, x, hx => by
    unfold put at hx; split at hx
    · simp at hx
    · simp at hx; rw [hx]; exact ⟨hp, by assumption⟩
  | y :: l, p, h, hp, x, hx => by
    unfold put at hx
    split at hx
    · rcases List.mem_cons.1 hx with rfl | hx
      · exact h x (by simp)
      · exact put_ok (fun z hz => h z (by simp [hz])) hp x hx
    · split at hx
      · split at hx
        · exact h x (by simp [hx])
        · rcases List.mem_cons.1 hx with rfl | hx
          · exact ⟨hp, by rw [nn_wn]; assumption⟩
          · exact h x (by simp [hx])
      · split at hx
        · exact h x hx
        · rcases List.mem_cons.1 hx with rfl | hx
          · exact ⟨hp, by assumption⟩
          · exact h x hx
theorem put_len : ∀ (l : List F5) (p : F5), (put l p).length ≤ l.length + 1
  | [], p => by unfold put; split <;> simp
  | x :: l, p => by
    have := put_len l p
    unfold put
    split
    · simp; omega
    · split
      · split
        · simp; omega
        · simp
      · split <;> simp

theorem getD_mem {l : List F5} {i : Nat} (h : i < l.length) : l.getD i z5 ∈ l := by
  rw [List.getD_eq_getElem?_getD, List.getElem?_eq_getElem h]; exact List.getElem_mem h
theorem mem_getD {l : List F5} {x : F5} (h : x ∈ l) : ∃ i, i < l.length ∧ l.getD i z5 = x := by
  obtain ⟨i, hi, e⟩ := List.mem_iff_getElem.1 h
  exact ⟨i, hi, by rw [List.getD_eq_getElem?_getD, List.getElem?_eq_getElem hi, e]; rfl⟩
theorem SS_of : ∀ {l : List F5}, (∀ i, 0 < i → i < l.length → K (l.getD (i - 1) z5) < K (l.getD i z5)) → SS l
  | [], _ => List.Pairwise.nil
  | [x], _ => by simp [SS]
  | x :: y :: l, h => by
    have h2 : SS (y :: l) := SS_of fun i h0 hi => by
      have := h (i + 1) (by omega) (by simp at hi ⊢; omega)
      rw [show i + 1 - 1 = (i - 1) + 1 from by omega] at this
      exact this
    have h1 : K x < K y := h 1 (by omega) (by simp)
    refine List.pairwise_cons.2 ⟨fun z hz => ?_, h2⟩
    rcases List.mem_cons.1 hz with rfl | hz
    · exact h1
    · have := (List.pairwise_cons.1 h2).1 z hz; omega
theorem SS_get {l : List F5} (h : SS l) {i j : Nat} (hij : i < j) (hj : j < l.length) : K (l.getD i z5) < K (l.getD j z5) := by
  have := List.pairwise_iff_getElem.1 h i j (by omega) hj hij
  rw [List.getD_eq_getElem?_getD, List.getElem?_eq_getElem (by omega), List.getD_eq_getElem?_getD, List.getElem?_eq_getElem hj]
  exact this
theorem LV_SS {l : List F5} (h : LV l) : SS l := SS_of fun i h0 hi => (h.2 i hi).up h0
theorem LV_mem {l : List F5} (h : LV l) {x : F5} (hx : x ∈ l) : plok x = true ∧ nn x ≠ 0 ∧ inR (nn x) (-1000000000000000) 1000000000000000 = true := by
  obtain ⟨i, hi, rfl⟩ := mem_getD hx
  exact ⟨(h.2 i hi).pl, (h.2 i hi).nz, (h.2 i hi).far⟩
theorem LV_of {l : List F5} (h1 : l.length ≤ 400) (h2 : SS l) (h3 : ∀ x ∈ l, plok x = true ∧ nn x ≠ 0 ∧ inR (nn x) (-1000000000000000) 1000000000000000 = true) : LV l :=
  ⟨h1, fun i hi => ⟨(h3 _ (getD_mem hi)).1, (h3 _ (getD_mem hi)).2.1, (h3 _ (getD_mem hi)).2.2, fun h0 => SS_get h2 (by omega) hi⟩⟩

/-- A batch is valid. -/
def BV (b : List F5) : Prop := b.length ≤ 20 ∧ ∀ i, i < b.length → plok (b.getD i z5) = true ∧ inR (nn (b.getD i z5)) (-1000000000000) 1000000000000 = true
theorem BV_mem {b : List F5} (h : BV b) {x : F5} (hx : x ∈ b) : plok x = true ∧ inR (nn x) (-1000000000000) 1000000000000 = true := by
  obtain ⟨i, hi, rfl⟩ := mem_getD hx
  exact h.2 i hi
theorem BV_of {b : List F5} (h1 : b.length ≤ 20) (h : ∀ x ∈ b, plok x = true ∧ inR (nn x) (-1000000000000) 1000000000000 = true) : BV b := ⟨h1, fun _ hi => h _ (getD_mem hi)⟩
def csum : List F5 → Int → Int
  | [], _ => 0
  | x :: l, c => (if x.2.2.2.1 = c then nn x else 0) + csum l c
theorem csum_append : ∀ (l m : List F5) (k : Int), csum (l ++ m) k = csum l k + csum m k
  | [], m, k => by simp [csum]
  | x :: l, m, k => by rw [List.cons_append, csum, csum, csum_append l m k]; omega
theorem csum_bound {B : Int} (hB : 0 ≤ B) : ∀ {l : List F5} (c : Int), (∀ x ∈ l, -B ≤ nn x ∧ nn x ≤ B) → -(B * l.length) ≤ csum l c ∧ csum l c ≤ B * l.length
  | [], c, _ => by simp [csum]
  | x :: l, c, h => by
    have := csum_bound (l := l) hB c (fun y hy => h y (by simp [hy]))
    have hx := h x (by simp)
    rw [csum, List.length_cons, Int.natCast_add, Int.mul_add]
    generalize B * (l.length : Int) = t at *
    split <;> omega
def ZV (b : List F5) : Prop := ∀ c : Int, 0 ≤ c → c < 6 → csum b c = 0
theorem put_csum : ∀ {l : List F5} {p : F5} (c : Int), (∀ x ∈ l, In x) → In p → csum (put l p) c = csum l c + (if p.2.2.2.1 = c then nn p else 0)
  | [], p, k, _, _ => by
    unfold put; split
    · rename_i h; simp [csum, h]
    · simp [csum]
  | x :: l, p, k, hl, hp => by
    unfold put
    split
    · rw [csum, csum, put_csum k (fun y hy => hl y (by simp [hy])) hp]; omega
    · split
      · rename_i c
        have e := (K_inj (hl x (by simp)) hp c).2.2.2
        split
        · rw [csum, e]; split <;> omega
        · rw [csum, csum]
          show (if p.2.2.2.1 = k then nn p + nn x else 0) + _ = _
          rw [e]; split <;> omega
      · split
        · rename_i h; rw [h]; simp
        · rw [csum]; omega
/-- A batch posted one by one. -/
def puts (l b : List F5) : List F5 := b.foldl put l
theorem puts_ok : ∀ {b l : List F5}, (∀ x ∈ l, plok x = true ∧ nn x ≠ 0) → (∀ x ∈ b, plok x = true) → ∀ x ∈ puts l b, plok x = true ∧ nn x ≠ 0
  | [], _, h, _ => h
  | p :: b, l, h, hb => puts_ok (b := b) (l := put l p) (put_ok h (hb p (by simp))) (fun y hy => hb y (by simp [hy]))
theorem puts_SS : ∀ {b l : List F5}, SS l → SS (puts l b)
  | [], _, h => h
  | _ :: b, _, h => puts_SS (b := b) (put_SS h)
theorem puts_bal : ∀ {b l : List F5} (k : Int), bal (puts l b) k = bal l k + bal b k
  | [], l, k => by simp [puts, bal]
  | p :: b, l, k => by
    show bal (puts (put l p) b) k = _
    rw [puts_bal k, put_bal, bal]; omega
theorem puts_csum : ∀ {b l : List F5} (c : Int), (∀ x ∈ l, plok x = true ∧ nn x ≠ 0) → (∀ x ∈ b, plok x = true) → csum (puts l b) c = csum l c + csum b c
  | [], l, k, _, _ => by simp [puts, csum]
  | p :: b, l, k, h, hb => by
    show csum (puts (put l p) b) k = _
    rw [puts_csum k (put_ok h (hb p (by simp))) (fun y hy => hb y (by simp [hy])), put_csum k (fun x hx => plok_in (h x hx).1) (plok_in (hb p (by simp))), csum]; omega
theorem puts_len : ∀ (b l : List F5), (puts l b).length ≤ l.length + b.length
  | [], l => by simp [puts]
  | p :: b, l => by
    have := puts_len b (put l p)
    have := put_len l p
    show (puts (put l p) b).length ≤ _
    rw [List.length_cons]; omega
theorem bal_perm {l m : List F5} (h : l.Perm m) (k : Int) : bal l k = bal m k := by
  induction h with
  | nil => rfl
  | cons x _ ih => rw [bal, bal, ih]
  | swap x y l => rw [bal, bal, bal, bal]; omega
  | trans _ _ i1 i2 => rw [i1, i2]
theorem csum_perm {l m : List F5} (h : l.Perm m) (k : Int) : csum l k = csum m k := by
  induction h with
  | nil => rfl
  | cons x _ ih => rw [csum, csum, ih]
  | swap x y l => rw [csum, csum, csum, csum]; omega
  | trans _ _ i1 i2 => rw [i1, i2]

/-- What posting answers. -/
structure Pst (l b r : List F5) (code : Int) : Prop where
  c1 : ¬ LV l → r = [] ∧ code = 1
  c2 : LV l → ¬ BV b → r = [] ∧ code = 2
  c3 : LV l → BV b → ¬ ZV b → r = [] ∧ code = 3
  c4 : LV l → BV b → ZV b → ¬ LV (puts l b) → r = [] ∧ code = 4
  c0 : LV l → BV b → ZV b → LV (puts l b) → r = puts l b ∧ code = 0
theorem Pst.uniq {l b r r' : List F5} {c c' : Int} (h : Pst l b r c) (h' : Pst l b r' c') : r = r' ∧ c = c' := by
  by_cases q1 : LV l
  · by_cases q2 : BV b
    · by_cases q3 : ZV b
      · by_cases q4 : LV (puts l b)
        · exact ⟨(h.c0 q1 q2 q3 q4).1.trans (h'.c0 q1 q2 q3 q4).1.symm, (h.c0 q1 q2 q3 q4).2.trans (h'.c0 q1 q2 q3 q4).2.symm⟩
        · exact ⟨(h.c4 q1 q2 q3 q4).1.trans (h'.c4 q1 q2 q3 q4).1.symm, (h.c4 q1 q2 q3 q4).2.trans (h'.c4 q1 q2 q3 q4).2.symm⟩
      · exact ⟨(h.c3 q1 q2 q3).1.trans (h'.c3 q1 q2 q3).1.symm, (h.c3 q1 q2 q3).2.trans (h'.c3 q1 q2 q3).2.symm⟩
    · exact ⟨(h.c2 q1 q2).1.trans (h'.c2 q1 q2).1.symm, (h.c2 q1 q2).2.trans (h'.c2 q1 q2).2.symm⟩
  · exact ⟨(h.c1 q1).1.trans (h'.c1 q1).1.symm, (h.c1 q1).2.trans (h'.c1 q1).2.symm⟩
theorem mk1 {l b : List F5} (h : ¬ LV l) : Pst l b [] 1 := ⟨fun _ => ⟨rfl, rfl⟩, fun q => absurd q h, fun q => absurd q h, fun q => absurd q h, fun q => absurd q h⟩
theorem mk2 {l b : List F5} (q : LV l) (h : ¬ BV b) : Pst l b [] 2 := ⟨fun n => absurd q n, fun _ _ => ⟨rfl, rfl⟩, fun _ q => absurd q h, fun _ q => absurd q h, fun _ q => absurd q h⟩
theorem mk3 {l b : List F5} (q : LV l) (r : BV b) (h : ¬ ZV b) : Pst l b [] 3 := ⟨fun n => absurd q n, fun _ n => absurd r n, fun _ _ _ => ⟨rfl, rfl⟩, fun _ _ q => absurd q h, fun _ _ q => absurd q h⟩
theorem mk4 {l b : List F5} (q : LV l) (r : BV b) (s : ZV b) (h : ¬ LV (puts l b)) : Pst l b [] 4 := ⟨fun n => absurd q n, fun _ n => absurd r n, fun _ _ n => absurd s n, fun _ _ _ _ => ⟨rfl, rfl⟩, fun _ _ _ q => absurd q h⟩
theorem mk0 {l b : List F5} (q : LV l) (r : BV b) (s : ZV b) (h : LV (puts l b)) : Pst l b (puts l b) 0 := ⟨fun n => absurd q n, fun _ n => absurd r n, fun _ _ n => absurd s n, fun _ _ _ n => absurd h n, fun _ _ _ _ => ⟨rfl, rfl⟩⟩
/-- With code 0 everything was valid. -/
theorem Pst.zero {l b r : List F5} (h : Pst l b r 0) : LV l ∧ BV b ∧ ZV b ∧ LV r ∧ r = puts l b := by
  by_cases q1 : LV l
  · by_cases q2 : BV b
    · by_cases q3 : ZV b
      · by_cases q4 : LV (puts l b)
        · have e := (h.c0 q1 q2 q3 q4).1
          exact ⟨q1, q2, q3, by rw [e]; exact q4, e⟩
        · exact absurd (h.c4 q1 q2 q3 q4).2 (by decide)
      · exact absurd (h.c3 q1 q2 q3).2 (by decide)
    · exact absurd (h.c2 q1 q2).2 (by decide)
  · exact absurd (h.c1 q1).2 (by decide)
/-- The sum of a class in a currency over the first k posts. -/
def csm (l : List F5) (a c : Int) : Nat → Int
  | 0 => 0
  | k + 1 => csm l a c k + (if (l.getD k z5).1 = a ∧ (l.getD k z5).2.2.2.1 = c then nn (l.getD k z5) else 0)
theorem csm_bound {l : List F5} (h : LV l) (a c : Int) : ∀ k, k ≤ l.length → -(1000000000000000 * (k : Int)) ≤ csm l a c k ∧ csm l a c k ≤ 1000000000000000 * (k : Int)
  | 0, _ => by simp [csm]
  | k + 1, hk => by
    have h1 := csm_bound h a c k (by omega)
    have h2 := inR_iff.1 (h.2 k (by omega)).far
    rw [csm]
    split <;> omega
theorem csm_small {l : List F5} (h : LV l) (a c : Int) {k : Nat} (hk : k ≤ l.length) : -400000000000000000 ≤ csm l a c k ∧ csm l a c k ≤ 400000000000000000 := by
  have h1 := csm_bound h a c k hk
  have h2 := h.1
  omega
noncomputable def clS (l : List F5) (a c : Int) : Int := if lv l = true then csm l a c l.length else 0
theorem clS_t {l : List F5} {a c : Int} (h : lv l = true) : clS l a c = csm l a c l.length := if_pos h
theorem clS_f {l : List F5} {a c : Int} (h : lv l = false) : clS l a c = 0 := if_neg (by rw [h]; decide)

end Go.Proofs.YtpogfdeioibkdaaGreatDoor.led
