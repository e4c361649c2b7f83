/-
  Plain mathematics: the text of a post and of a ledger, and what both sides read in a text. Conditions: none.
-/
import Derived.Test.YtpogfdeioibkdaaGreatDoorLed
import Derived.Test.YtpogfdeioibkdaaGreatDoorDec
import Derived.Lib.ItoaMem
import Derived.Lib.CutLaws
import Derived.Lib.Join
namespace Go.Proofs.YtpogfdeioibkdaaGreatDoor.ptm
open led (F5 z5)

/-! ### numbers in decimal -/
def isD (b : UInt8) : Prop := 48 ≤ b.toNat ∧ b.toNat ≤ 57
instance (b : UInt8) : Decidable (isD b) := inferInstanceAs (Decidable (_ ∧ _))
def num (l : List UInt8) : Nat := l.foldl (fun n b => 10 * n + (b.toNat - 48)) 0
theorem num_snoc (l : List UInt8) (b : UInt8) : num (l ++ [b]) = 10 * num l + (b.toNat - 48) := by simp [num]
theorem chr (k : Nat) (h : k < 10) : (UInt8.ofNat (48 + k)).toNat = 48 + k := by
  rw [UInt8.toNat_ofNat']; omega
theorem dig_all : ∀ a : Nat, ∀ b ∈ Lib.decDigits a, isD b := by
  intro a
  induction a using Nat.strongRecOn with
  | _ a ih =>
    by_cases h : a < 10
    · rw [dec.dig_end a h]
      intro b hb
      rw [List.mem_singleton.1 hb]
      have := chr a h
      exact ⟨by omega, by omega⟩
    · rw [dec.dig_step a h]
      intro b hb
      rcases List.mem_append.1 hb with hb | hb
      · exact ih (a / 10) (by omega) b hb
      · rw [List.mem_singleton.1 hb]
        have := chr (a % 10) (by omega)
        exact ⟨by omega, by omega⟩
theorem dig_num : ∀ a : Nat, num (Lib.decDigits a) = a := by
  intro a
  induction a using Nat.strongRecOn with
  | _ a ih =>
    by_cases h : a < 10
    · rw [dec.dig_end a h]
      have := chr a h
      simp only [num, List.foldl_cons, List.foldl_nil]; omega
    · rw [dec.dig_step a h, num_snoc, ih (a / 10) (by omega), chr (a % 10) (by omega)]
      omega
theorem dig_short : ∀ j a : Nat, a < 10 ^ (j + 1) → (Lib.decDigits a).length ≤ j + 1
  | 0, a, h => by rw [dec.dig_end a (by simpa using h)]; simp
  | j + 1, a, h => by
    by_cases h1 : a < 10
    · rw [dec.dig_end a h1]; simp
    · rw [dec.dig_step a h1, List.length_append, List.length_singleton]
      have := dig_short j (a / 10) (by rw [Nat.pow_succ] at h; omega)
      omega
theorem dig_pos : ∀ a : Nat, 1 ≤ (Lib.decDigits a).length := by
  intro a
  by_cases h : a < 10
  · rw [dec.dig_end a h]; simp
  · rw [dec.dig_step a h]; simp
/-- The first digit of a number that is not 0 is not 0. -/
theorem dig_head : ∀ a : Nat, 1 ≤ a → ∃ b l, Lib.decDigits a = b :: l ∧ b ≠ 48 ∧ isD b := by
  intro a
  induction a using Nat.strongRecOn with
  | _ a ih =>
    intro h0
    by_cases h : a < 10
    · refine ⟨_, [], dec.dig_end a h, ?_, ?_⟩
      · intro q
        have := chr a h
        rw [q] at this
        have : (48 : UInt8).toNat = 48 := rfl
        omega
      · have := chr a h; exact ⟨by omega, by omega⟩
    · obtain ⟨b, l, e, hb, hd⟩ := ih (a / 10) (by omega) (by omega)
      exact ⟨b, l ++ [_], by rw [dec.dig_step a h, e]; rfl, hb, hd⟩
theorem fold_lt : ∀ (l : List UInt8) (n : Nat), (∀ b ∈ l, isD b) → l.foldl (fun n b => 10 * n + (b.toNat - 48)) n < (n + 1) * 10 ^ l.length
  | [], n, _ => by simp
  | b :: l, n, h => by
    have h1 := fold_lt l (10 * n + (b.toNat - 48)) (fun x hx => h x (List.mem_cons_of_mem _ hx))
    have h2 := (h b (by simp)).2
    rw [List.foldl_cons, List.length_cons, Nat.pow_succ, Nat.mul_comm (10 ^ l.length) 10, ← Nat.mul_assoc]
    exact Nat.lt_of_lt_of_le h1 (Nat.mul_le_mul_right _ (by omega))
theorem num_lt (l : List UInt8) (h : ∀ b ∈ l, isD b) : num l < 10 ^ l.length := by
  have := fold_lt l 0 h
  simpa [num] using this
def okV (l : List UInt8) : Bool := decide (1 ≤ l.length ∧ l.length ≤ 16 ∧ ∀ b ∈ l, isD b)
def valV (l : List UInt8) : Nat := if 1 ≤ l.length ∧ l.length ≤ 16 ∧ ∀ b ∈ l, isD b then num l else 0
theorem valV_lt (l : List UInt8) : valV l < 10000000000000000 := by
  unfold valV
  split
  · rename_i h
    exact Nat.lt_of_lt_of_le (num_lt l h.2.2) (Nat.pow_le_pow_right (by omega) h.2.1)
  · omega
theorem val_dig {a : Nat} (h : a < 10000000000000000) : okV (Lib.decDigits a) = true ∧ valV (Lib.decDigits a) = a := by
  have q : 1 ≤ (Lib.decDigits a).length ∧ (Lib.decDigits a).length ≤ 16 ∧ ∀ b ∈ Lib.decDigits a, isD b := ⟨dig_pos a, dig_short 15 a h, dig_all a⟩
  exact ⟨decide_eq_true q, by unfold valV; rw [if_pos q, dig_num]⟩
theorem itoa_cases (z : Int) : (0 ≤ z ∧ Lib.itoa z = Lib.decDigits z.natAbs) ∨ (z < 0 ∧ 1 ≤ z.natAbs ∧ Lib.itoa z = 45 :: Lib.decDigits z.natAbs) := by
  unfold Lib.itoa
  by_cases h : z < 0
  · right; rw [if_pos h]; exact ⟨h, by omega, rfl⟩
  · left; rw [if_neg h]; exact ⟨by omega, by rw [show z.toNat = z.natAbs by omega]⟩
theorem itoa_len {z : Int} (h : z.natAbs < 10000000000000000) : 1 ≤ (Lib.itoa z).length ∧ (Lib.itoa z).length ≤ 17 := by
  have h1 := dig_pos z.natAbs
  have h2 := dig_short 15 z.natAbs h
  rcases itoa_cases z with ⟨_, e⟩ | ⟨_, _, e⟩
  · rw [e]; omega
  · rw [e, List.length_cons]; omega
theorem itoa_free {z : Int} {c : UInt8} (h : ¬ isD c) (h45 : c ≠ 45) : c ∉ Lib.itoa z := by
  rcases itoa_cases z with ⟨_, e⟩ | ⟨_, _, e⟩
  · rw [e]; exact fun q => h (dig_all _ c q)
  · rw [e]
    intro q
    rcases List.mem_cons.1 q with q | q
    · exact h45 q
    · exact h (dig_all _ c q)

/-! ### how the landed code reads a number -/
def dvB (l : List UInt8) : List UInt8 := Lib.trimPrefix l [45]
def dvV (l : List UInt8) : Int := if Lib.hasPrefix l [45] = true then -(valV (dvB l) : Int) else (valV (dvB l) : Int)
def dvO (l : List UInt8) : Bool := okV (dvB l) && (Lib.itoa (dvV l) == l)
def dvN (l : List UInt8) : Int := if dvO l = true then dvV l else 0
theorem not_minus {b : UInt8} (h : isD b) : ¬ b = 45 := fun q => by rw [q] at h; exact absurd h.1 (by decide)
theorem dv_itoa {z : Int} (h : z.natAbs < 10000000000000000) : dvO (Lib.itoa z) = true ∧ dvN (Lib.itoa z) = z := by
  obtain ⟨o, v⟩ := val_dig h
  have key : dvB (Lib.itoa z) = Lib.decDigits z.natAbs ∧ dvV (Lib.itoa z) = z := by
    rcases itoa_cases z with ⟨h0, e⟩ | ⟨h0, h1, e⟩
    · obtain ⟨b, l, hb, hd⟩ : ∃ b l, Lib.decDigits z.natAbs = b :: l ∧ isD b := by
        cases q : Lib.decDigits z.natAbs with
        | nil => have := dig_pos z.natAbs; rw [q] at this; simp at this
        | cons b l => exact ⟨b, l, rfl, dig_all z.natAbs b (by rw [q]; simp)⟩
      have hp : Lib.hasPrefix (Lib.itoa z) [45] = false := by
        rw [e, hb]
        have : ¬ (45 : UInt8) = b := fun q => not_minus hd q.symm
        simp [Lib.hasPrefix, List.isPrefixOf, this]
      have ht : dvB (Lib.itoa z) = Lib.decDigits z.natAbs := by unfold dvB Lib.trimPrefix; rw [hp]; exact e
      refine ⟨ht, ?_⟩
      unfold dvV
      rw [hp, ht, v]
      simp; omega
    · have hp : Lib.hasPrefix (Lib.itoa z) [45] = true := by rw [e]; simp [Lib.hasPrefix]
      have ht : dvB (Lib.itoa z) = Lib.decDigits z.natAbs := by unfold dvB Lib.trimPrefix; rw [if_pos hp, e]; rfl
      refine ⟨ht, ?_⟩
      unfold dvV
      rw [if_pos hp, ht, v]
      omega
  have ok : dvO (Lib.itoa z) = true := by unfold dvO; rw [key.1, key.2, o]; simp
  exact ⟨ok, by unfold dvN; rw [if_pos ok, key.2]⟩
theorem dvV_le (l : List UInt8) : -9999999999999999 ≤ dvV l ∧ dvV l ≤ 9999999999999999 := by
  have := valV_lt (dvB l)
  unfold dvV; split <;> omega
theorem dvN_le (l : List UInt8) : -9999999999999999 ≤ dvN l ∧ dvN l ≤ 9999999999999999 := by
  have := dvV_le l
  unfold dvN; split <;> omega
theorem dvO_nil : dvO [] = false := by decide

/-! ### how the model reads a number -/
/-- Without a sign. -/
def nmU (l : List UInt8) : Int × Bool :=
  if (1 ≤ l.length ∧ l.length ≤ 16 ∧ ∀ b ∈ l, isD b) ∧ ¬ (l[0]? = some 48 ∧ 1 < l.length) then ((num l : Int), true) else (0, false)
def sg (l : List UInt8) : Prop := 1 < l.length ∧ l[0]? = some 45 ∧ l[1]? ≠ some 48 ∧ l[1]? ≠ some 45
instance (l : List UInt8) : Decidable (sg l) := inferInstanceAs (Decidable (_ ∧ _))
def nm (l : List UInt8) : Int × Bool := if sg l then (-(nmU (l.drop 1)).1, (nmU (l.drop 1)).2) else nmU l
theorem nmU_dig {a : Nat} (h : a < 10000000000000000) : nmU (Lib.decDigits a) = ((a : Int), true) := by
  have q : (1 ≤ (Lib.decDigits a).length ∧ (Lib.decDigits a).length ≤ 16 ∧ ∀ b ∈ Lib.decDigits a, isD b) ∧ ¬ ((Lib.decDigits a)[0]? = some 48 ∧ 1 < (Lib.decDigits a).length) := by
    refine ⟨⟨dig_pos a, dig_short 15 a h, dig_all a⟩, ?_⟩
    rintro ⟨q1, q2⟩
    by_cases h10 : a < 10
    · rw [dec.dig_end a h10] at q2; simp at q2
    · obtain ⟨b, l, e, hb, _⟩ := dig_head a (by omega)
      rw [e] at q1
      simp at q1
      exact hb q1
  unfold nmU
  rw [if_pos q, dig_num]
theorem nm_itoa {z : Int} (h : z.natAbs < 10000000000000000) : (nm (Lib.itoa z)).1 = z := by
  have u := nmU_dig h
  rcases itoa_cases z with ⟨h0, e⟩ | ⟨h0, h1, e⟩
  · have ns : ¬ sg (Lib.itoa z) := by
      rintro ⟨_, q, _⟩
      rw [e] at q
      cases r : Lib.decDigits z.natAbs with
      | nil => rw [r] at q; simp at q
      | cons b l =>
        rw [r] at q
        simp at q
        exact not_minus (dig_all z.natAbs b (by rw [r]; simp)) q
    unfold nm
    rw [if_neg ns, e, u]
    show ((z.natAbs : Nat) : Int) = z
    omega
  · obtain ⟨b, l, eb, hb, hd⟩ := dig_head z.natAbs h1
    have ys : sg (Lib.itoa z) := by
      rw [e, eb]
      refine ⟨by simp, rfl, ?_, ?_⟩
      · simpa using hb
      · simpa using not_minus hd
    unfold nm
    rw [if_pos ys, e, List.drop_one, List.tail_cons, u]
    show -((z.natAbs : Nat) : Int) = z
    omega
theorem nmU_le (l : List UInt8) : 0 ≤ (nmU l).1 ∧ (nmU l).1 ≤ 9999999999999999 := by
  unfold nmU
  split
  · rename_i h
    have := Nat.lt_of_lt_of_le (num_lt l h.1.2.2) (Nat.pow_le_pow_right (show 0 < 10 by omega) h.1.2.1)
    show 0 ≤ ((num l : Nat) : Int) ∧ ((num l : Nat) : Int) ≤ _
    omega
  · exact ⟨by show (0 : Int) ≤ 0; omega, by show (0 : Int) ≤ _; omega⟩
theorem nm_le (l : List UInt8) : -9999999999999999 ≤ (nm l).1 ∧ (nm l).1 ≤ 9999999999999999 := by
  unfold nm
  split
  · have := nmU_le (l.drop 1)
    show -9999999999999999 ≤ -(nmU (l.drop 1)).1 ∧ -(nmU (l.drop 1)).1 ≤ _
    omega
  · have := nmU_le l; omega

/-! ### cutting -/
theorem ix_none : ∀ {c : UInt8} {l : List UInt8}, c ∉ l → Lib.indexByte l c = -1
  | _, [], _ => rfl
  | c, b :: l, h => by
    have h1 : ¬ b = c := fun q => h (by rw [q]; simp)
    have h2 := ix_none (c := c) (l := l) (fun q => h (List.mem_cons_of_mem _ q))
    simp [Lib.indexByte, h1, h2]
theorem ix_at : ∀ {c : UInt8} {x : List UInt8} (y : List UInt8), c ∉ x → Lib.indexByte (x ++ c :: y) c = x.length
  | c, [], y, _ => by simp [Lib.indexByte]
  | c, b :: x, y, h => by
    have h1 : ¬ b = c := fun q => h (by rw [q]; simp)
    have h2 := ix_at (c := c) (x := x) y (fun q => h (List.mem_cons_of_mem _ q))
    simp only [List.cons_append, Lib.indexByte, h2, beq_iff_eq, h1, if_false, List.length_cons]
    rw [if_neg (by omega)]
    omega
theorem cut_none {c : UInt8} {l : List UInt8} (h : c ∉ l) : Lib.cut l [c] = (l, [], false) := by
  unfold Lib.cut
  rw [Lib.index_one, ix_none h]
  rfl
theorem cut_at {c : UInt8} {x : List UInt8} (y : List UInt8) (h : c ∉ x) : Lib.cut (x ++ c :: y) [c] = (x, y, true) := by
  unfold Lib.cut
  rw [Lib.index_one, ix_at y h, if_pos (by omega)]
  simp
theorem cut_cases (c : UInt8) : ∀ l : List UInt8, (c ∉ l) ∨ ∃ x y, c ∉ x ∧ l = x ++ c :: y
  | [] => .inl (by simp)
  | b :: l => by
    by_cases h : b = c
    · subst h; exact .inr ⟨[], l, by simp, rfl⟩
    · rcases cut_cases c l with q | ⟨x, y, q, e⟩
      · exact .inl (by intro r; rcases List.mem_cons.1 r with r | r; exact h r.symm; exact q r)
      · exact .inr ⟨b :: x, y, (by intro r; rcases List.mem_cons.1 r with r | r; exact h r.symm; exact q r), by rw [e]; rfl⟩
theorem cut_le (c : UInt8) (l : List UInt8) : (Lib.cut l [c]).1.length ≤ l.length ∧ (Lib.cut l [c]).2.1.length ≤ l.length := by
  unfold Lib.cut; split <;> simp <;> omega

/-- The words between spaces. -/
def sp : List UInt8 → List (List UInt8)
  | [] => [[]]
  | b :: l => if b = 32 then [] :: sp l else match sp l with
    | [] => [[b]]
    | w :: r => (b :: w) :: r
theorem sp_none : ∀ {l : List UInt8}, (32 : UInt8) ∉ l → sp l = [l]
  | [], _ => rfl
  | b :: l, h => by
    have h1 : ¬ b = 32 := fun q => h (by rw [q]; simp)
    have h2 := sp_none (l := l) (fun q => h (List.mem_cons_of_mem _ q))
    simp [sp, h1, h2]
theorem sp_at : ∀ {x : List UInt8} (y : List UInt8), (32 : UInt8) ∉ x → sp (x ++ 32 :: y) = x :: sp y
  | [], y, _ => by simp [sp]
  | b :: x, y, h => by
    have h1 : ¬ b = 32 := fun q => h (by rw [q]; simp)
    have h2 := sp_at (x := x) y (fun q => h (List.mem_cons_of_mem _ q))
    simp [sp, h1, h2]
theorem sp_len (l : List UInt8) : 1 ≤ (sp l).length ∧ (sp l).length ≤ l.length + 1 := by
  induction l with
  | nil => simp [sp]
  | cons b l ih =>
    simp only [sp, List.length_cons]
    split
    · simp; omega
    · cases q : sp l with
      | nil => rw [q] at ih; simp at ih
      | cons w r => rw [q] at ih; simp at ih ⊢; omega
theorem sp_word : ∀ (l : List UInt8) (w : List UInt8), w ∈ sp l → w.length ≤ l.length := by
  intro l
  induction l with
  | nil => intro w h; simp [sp] at h; subst h; simp
  | cons b l ih =>
    intro w h
    simp only [sp] at h
    split at h
    · rcases List.mem_cons.1 h with h | h
      · subst h; simp
      · have := ih w h; simp; omega
    · cases q : sp l with
      | nil => rw [q] at h; simp at h; subst h; simp
      | cons v r =>
        rw [q] at h
        rcases List.mem_cons.1 h with h | h
        · subst h; have := ih v (by rw [q]; simp); simp; omega
        · have := ih w (by rw [q]; exact List.mem_cons_of_mem _ h); simp; omega

/-! ### posts -/
def cod (k : Nat) : List UInt8 := match k with
  | 0 => [69, 85, 82]
  | 1 => [85, 83, 68]
  | 2 => [74, 80, 89]
  | 3 => [71, 66, 80]
  | 4 => [75, 87, 68]
  | _ => [67, 72, 70]
def curIx (s : List UInt8) : Int := if s = cod 0 then 0 else if s = cod 1 then 1 else if s = cod 2 then 2 else if s = cod 3 then 3 else if s = cod 4 then 4 else if s = cod 5 then 5 else -1
theorem ix_eq {s : List UInt8} {k : Nat} (hk : k < 6) (he : s = cod k) : curIx s = k := by
  unfold curIx
  obtain rfl | rfl | rfl | rfl | rfl | rfl : k = 0 ∨ k = 1 ∨ k = 2 ∨ k = 3 ∨ k = 4 ∨ k = 5 := by omega
  all_goals (subst he; decide)
theorem curIx_none {s : List UInt8} (hne : ∀ j, j < 6 → s ≠ cod j) : curIx s = -1 := by
  unfold curIx
  rw [if_neg (hne 0 (by omega)), if_neg (hne 1 (by omega)), if_neg (hne 2 (by omega)), if_neg (hne 3 (by omega)), if_neg (hne 4 (by omega)), if_neg (hne 5 (by omega))]
theorem ne_succ {s : List UInt8} {k : Nat} (hne : ∀ j, j < k → s ≠ cod j) (he : ¬ s = cod k) : ∀ j, j < k + 1 → s ≠ cod j := fun j hj => by
  by_cases e : j = k
  · subst e; exact he
  · exact hne j (by omega)
theorem curIx_le (s : List UInt8) : -1 ≤ curIx s ∧ curIx s ≤ 5 := by
  unfold curIx; repeat' split
  all_goals omega
theorem cod_len (k : Nat) : (cod k).length = 3 := by
  unfold cod; split <;> rfl
theorem cod_free (k : Nat) : (32 : UInt8) ∉ cod k := by
  unfold cod; split <;> decide
def acx (x : F5) : List UInt8 := Lib.itoa x.1 ++ 46 :: (Lib.itoa x.2.1 ++ 46 :: Lib.itoa x.2.2.1)
def ptx (x : F5) : List UInt8 := acx x ++ 32 :: (cod x.2.2.2.1.toNat ++ 32 :: Lib.itoa x.2.2.2.2)
def pok (x : F5) : Bool := led.plok x && led.inR x.2.2.2.2 (-1000000000000000) 1000000000000000
def txt (x : F5) : List UInt8 := if pok x = true then ptx x else []
/-- The numbers of a valid post are small. -/
structure Sm (x : F5) : Prop where
  a : 0 ≤ x.1 ∧ x.1 ≤ 3
  b : 0 ≤ x.2.1 ∧ x.2.1 ≤ 999
  c : 0 ≤ x.2.2.1 ∧ x.2.2.1 ≤ 5
  d : 0 ≤ x.2.2.2.1 ∧ x.2.2.2.1 ≤ 5
  e : -1000000000000000 ≤ x.2.2.2.2 ∧ x.2.2.2.2 ≤ 1000000000000000
theorem pl_sm {x : F5} (h : led.plok x = true) : (0 ≤ x.1 ∧ x.1 ≤ 3) ∧ (0 ≤ x.2.1 ∧ x.2.1 ≤ 999) ∧ (0 ≤ x.2.2.1 ∧ x.2.2.1 ≤ 5) ∧ (0 ≤ x.2.2.2.1 ∧ x.2.2.2.1 ≤ 5) := by
  unfold led.plok at h
  rw [Bool.and_eq_true] at h
  obtain ⟨h1, h2⟩ := h
  have k4 : 0 ≤ x.2.2.2.1 ∧ x.2.2.2.1 ≤ 5 := by unfold led.inR at h2; simpa using h2
  unfold led.acct at h1
  split at h1
  · rename_i q
    unfold led.inR at h1
    simp at h1
    refine ⟨by omega, by omega, by omega, k4⟩
  · split at h1
    · rename_i q
      unfold led.inR at h1
      simp at h1
      refine ⟨by omega, by omega, by omega, k4⟩
    · cases h1
theorem pok_sm {x : F5} (h : pok x = true) : Sm x := by
  unfold pok at h
  rw [Bool.and_eq_true] at h
  obtain ⟨h1, h2⟩ := h
  obtain ⟨a, b, c, d⟩ := pl_sm h1
  exact ⟨a, b, c, d, by unfold led.inR at h2; simpa using h2⟩
theorem acx_free (x : F5) : (32 : UInt8) ∉ acx x := by
  have f := fun z => itoa_free (z := z) (c := 32) (by decide) (by decide)
  unfold acx
  simp only [List.mem_append, List.mem_cons, not_or]
  exact ⟨f _, by decide, f _, by decide, f _⟩
theorem cut_ptx (x : F5) : Lib.cut (ptx x) [32] = (acx x, cod x.2.2.2.1.toNat ++ 32 :: Lib.itoa x.2.2.2.2, true) := cut_at _ (acx_free x)
theorem cut_rest (x : F5) : Lib.cut (cod x.2.2.2.1.toNat ++ 32 :: Lib.itoa x.2.2.2.2) [32] = (cod x.2.2.2.1.toNat, Lib.itoa x.2.2.2.2, true) := cut_at _ (cod_free _)
theorem dot_free (z : Int) : (46 : UInt8) ∉ Lib.itoa z := itoa_free (by decide) (by decide)
theorem cut_acx (x : F5) : Lib.cut (acx x) [46] = (Lib.itoa x.1, Lib.itoa x.2.1 ++ 46 :: Lib.itoa x.2.2.1, true) := cut_at _ (dot_free _)
theorem cut_ids (x : F5) : Lib.cut (Lib.itoa x.2.1 ++ 46 :: Lib.itoa x.2.2.1) [46] = (Lib.itoa x.2.1, Lib.itoa x.2.2.1, true) := cut_at _ (dot_free _)
theorem sp_ptx (x : F5) : sp (ptx x) = [acx x, cod x.2.2.2.1.toNat, Lib.itoa x.2.2.2.2] := by
  unfold ptx
  rw [sp_at _ (acx_free x), sp_at _ (cod_free _), sp_none (itoa_free (by decide) (by decide))]
theorem ptx_len {x : F5} (h : Sm x) : 1 ≤ (ptx x).length ∧ (ptx x).length ≤ 60 := by
  have a := dig_short 0 x.1.natAbs (by have := h.a; omega)
  have b := dig_short 2 x.2.1.natAbs (by have := h.b; omega)
  have c := dig_short 0 x.2.2.1.natAbs (by have := h.c; omega)
  have e := (itoa_len (z := x.2.2.2.2) (by have := h.e; omega)).2
  have ia : Lib.itoa x.1 = Lib.decDigits x.1.natAbs := by rcases itoa_cases x.1 with ⟨_, e⟩ | ⟨q, _⟩; exact e; have := h.a; omega
  have ib : Lib.itoa x.2.1 = Lib.decDigits x.2.1.natAbs := by rcases itoa_cases x.2.1 with ⟨_, e⟩ | ⟨q, _⟩; exact e; have := h.b; omega
  have ic : Lib.itoa x.2.2.1 = Lib.decDigits x.2.2.1.natAbs := by rcases itoa_cases x.2.2.1 with ⟨_, e⟩ | ⟨q, _⟩; exact e; have := h.c; omega
  have k := cod_len x.2.2.2.1.toNat
  unfold ptx acx
  simp only [List.length_append, List.length_cons, ia, ib, ic]
  omega
theorem txt_len (x : F5) : (txt x).length ≤ 60 := by
  unfold txt
  split
  · rename_i h; exact (ptx_len (pok_sm h)).2
  · simp
theorem cur_cod {x : F5} (h : Sm x) : curIx (cod x.2.2.2.1.toNat) = x.2.2.2.1 := by
  have := h.d
  rw [ix_eq (k := x.2.2.2.1.toNat) (by omega) rfl]
  omega

/-! ### what the landed code reads in a text -/
def iA (l : List UInt8) : List UInt8 := (Lib.cut l [32]).1
def iR (l : List UInt8) : List UInt8 := (Lib.cut l [32]).2.1
def iC (l : List UInt8) : List UInt8 := (Lib.cut (iR l) [32]).1
def iN (l : List UInt8) : List UInt8 := (Lib.cut (iR l) [32]).2.1
def iK (l : List UInt8) : List UInt8 := (Lib.cut (iA l) [46]).1
def iQ (l : List UInt8) : List UInt8 := (Lib.cut (iA l) [46]).2.1
def iI (l : List UInt8) : List UInt8 := (Lib.cut (iQ l) [46]).1
def iS (l : List UInt8) : List UInt8 := (Lib.cut (iQ l) [46]).2.1
def ip (l : List UInt8) : F5 := (dvN (iK l), dvN (iI l), dvN (iS l), curIx (iC l), dvN (iN l))
def io (l : List UInt8) : Bool := dvO (iK l) && dvO (iI l) && dvO (iS l) && dvO (iN l)
/-- The post that a text names, if it is the text of one. -/
def rd (l : List UInt8) : F5 × Bool := if io l = true ∧ txt (ip l) = l then (ip l, true) else (z5, false)
/-! ### what the model reads in a text -/
def sW (l : List UInt8) (k : Nat) : List UInt8 := (sp l).getD k []
def sK (l : List UInt8) : List UInt8 := (Lib.cut (sW l 0) [46]).1
def sQ (l : List UInt8) : List UInt8 := (Lib.cut (sW l 0) [46]).2.1
def sI (l : List UInt8) : List UInt8 := (Lib.cut (sQ l) [46]).1
def sS (l : List UInt8) : List UInt8 := (Lib.cut (sQ l) [46]).2.1
def sP (l : List UInt8) : F5 := ((nm (sK l)).1, (nm (sI l)).1, (nm (sS l)).1, curIx (sW l 1), (nm (sW l 2)).1)
def rdS (l : List UInt8) : F5 × Bool := if (l.length ≤ 60 ∧ (sp l).length = 3) ∧ txt (sP l) = l then (sP l, true) else (z5, false)
theorem ip_ptx {x : F5} (h : Sm x) : ip (ptx x) = x ∧ io (ptx x) = true := by
  have a := dv_itoa (z := x.1) (by have := h.a; omega)
  have b := dv_itoa (z := x.2.1) (by have := h.b; omega)
  have c := dv_itoa (z := x.2.2.1) (by have := h.c; omega)
  have e := dv_itoa (z := x.2.2.2.2) (by have := h.e; omega)
  have d := cur_cod h
  unfold ip io iK iI iS iC iN iQ iA iR
  rw [cut_ptx, cut_rest, cut_acx, cut_ids]
  simp only [a, b, c, d, e]
  refine ⟨?_, ?_⟩ <;> first | trivial | rfl
theorem sP_ptx {x : F5} (h : Sm x) : sP (ptx x) = x ∧ (sp (ptx x)).length = 3 := by
  have a := nm_itoa (z := x.1) (by have := h.a; omega)
  have b := nm_itoa (z := x.2.1) (by have := h.b; omega)
  have c := nm_itoa (z := x.2.2.1) (by have := h.c; omega)
  have e := nm_itoa (z := x.2.2.2.2) (by have := h.e; omega)
  have d := cur_cod h
  unfold sP sK sI sS sQ sW
  rw [sp_ptx]
  simp only [List.getD_cons_zero, List.getD_cons_succ, cut_acx, cut_ids, a, b, c, d, e]
  exact ⟨trivial, rfl⟩
theorem txt_some {p : F5} {l : List UInt8} (h : txt p = l) (hl : l ≠ []) : pok p = true ∧ ptx p = l := by
  unfold txt at h
  split at h
  · rename_i q; exact ⟨q, h⟩
  · exact absurd h.symm hl
theorem rd_ptx {x : F5} (h : pok x = true) : rd (ptx x) = (x, true) := by
  have s := pok_sm h
  obtain ⟨a, b⟩ := ip_ptx s
  unfold rd
  rw [a, b, if_pos ⟨rfl, by unfold txt; rw [if_pos h]⟩]
theorem rdS_ptx {x : F5} (h : pok x = true) : rdS (ptx x) = (x, true) := by
  have s := pok_sm h
  obtain ⟨a, b⟩ := sP_ptx s
  unfold rdS
  rw [a, b, if_pos ⟨⟨(ptx_len s).2, rfl⟩, by unfold txt; rw [if_pos h]⟩]
theorem rd_no {l : List UInt8} (h : ¬ ∃ x, pok x = true ∧ ptx x = l) : rd l = (z5, false) := by
  unfold rd
  rw [if_neg]
  rintro ⟨q1, q2⟩
  by_cases e : l = []
  · subst e; exact absurd q1 (by decide)
  · exact h ⟨_, txt_some q2 e⟩
theorem rdS_no {l : List UInt8} (h : ¬ ∃ x, pok x = true ∧ ptx x = l) : rdS l = (z5, false) := by
  unfold rdS
  rw [if_neg]
  rintro ⟨⟨_, q1⟩, q2⟩
  by_cases e : l = []
  · subst e; simp [sp] at q1
  · exact h ⟨_, txt_some q2 e⟩
/-- Both read the same. -/
theorem rd_same (l : List UInt8) : rdS l = rd l := by
  by_cases h : ∃ x, pok x = true ∧ ptx x = l
  · obtain ⟨x, hx, rfl⟩ := h
    rw [rd_ptx hx, rdS_ptx hx]
  · rw [rd_no h, rdS_no h]
theorem rd_yes {l : List UInt8} (h : (rd l).2 = true) : pok (rd l).1 = true ∧ ptx (rd l).1 = l := by
  by_cases q : ∃ x, pok x = true ∧ ptx x = l
  · obtain ⟨x, hx, rfl⟩ := q
    rw [rd_ptx hx]
    exact ⟨hx, rfl⟩
  · rw [rd_no q] at h; cases h
theorem rd_fail {l : List UInt8} (h : (rd l).2 = false) : rd l = (z5, false) := by
  by_cases q : ∃ x, pok x = true ∧ ptx x = l
  · obtain ⟨x, hx, rfl⟩ := q
    rw [rd_ptx hx] at h; cases h
  · exact rd_no q
theorem rd_txt (x : F5) : ((rd (txt x)).2 = true ↔ txt x ≠ []) ∧ ((rd (txt x)).2 = true → (rd (txt x)).1 = x) := by
  by_cases h : pok x = true
  · have e : txt x = ptx x := by unfold txt; rw [if_pos h]
    rw [e, rd_ptx h]
    have := (ptx_len (pok_sm h)).1
    refine ⟨⟨fun _ q => ?_, fun _ => rfl⟩, fun _ => rfl⟩
    rw [q] at this; simp at this
  · have e : txt x = [] := by unfold txt; rw [if_neg h]
    rw [e]
    have : rd [] = (z5, false) := by
      unfold rd; rw [if_neg]; rintro ⟨q, _⟩; exact absurd q (by decide)
    rw [this]
    exact ⟨⟨(fun q => by cases q), fun q => absurd rfl q⟩, (fun q => by cases q)⟩

/-! ### ledgers -/
def ltx (l : List F5) : List UInt8 := (l.map fun x => ptx x ++ [10]).flatten
noncomputable def ltxt (l : List F5) : List UInt8 := if led.lv l = true then ltx l else []
theorem ltx_snoc (l : List F5) (x : F5) : ltx (l ++ [x]) = ltx l ++ (ptx x ++ [10]) := by simp [ltx]
theorem ltx_cons (l : List F5) (x : F5) : ltx (x :: l) = ptx x ++ 10 :: ltx l := by simp [ltx]
/-- The lines, and whether the last one is ended. -/
def ln : List UInt8 → List (List UInt8) × Bool
  | [] => ([], true)
  | b :: l => if b = 10 then ([] :: (ln l).1, (ln l).2) else match (ln l).1 with
    | [] => ([[b]], false)
    | w :: r => ((b :: w) :: r, (ln l).2)
theorem ln_none : ∀ {l : List UInt8}, (10 : UInt8) ∉ l → l ≠ [] → ln l = ([l], false)
  | [], _, h => absurd rfl h
  | b :: l, h, _ => by
    have h1 : ¬ b = 10 := fun q => h (by rw [q]; simp)
    by_cases e : l = []
    · subst e; simp [ln, h1]
    · have h2 := ln_none (l := l) (fun q => h (List.mem_cons_of_mem _ q)) e
      simp [ln, h1, h2]
theorem ln_at : ∀ {x : List UInt8} (y : List UInt8), (10 : UInt8) ∉ x → ln (x ++ 10 :: y) = (x :: (ln y).1, (ln y).2)
  | [], y, _ => by simp [ln]
  | b :: x, y, h => by
    have h1 : ¬ b = 10 := fun q => h (by rw [q]; simp)
    have h2 := ln_at (x := x) y (fun q => h (List.mem_cons_of_mem _ q))
    simp [ln, h1, h2]
theorem nl_free {x : F5} : (10 : UInt8) ∉ ptx x := by
  have f := fun z => itoa_free (z := z) (c := 10) (by decide) (by decide)
  unfold ptx acx
  simp only [List.mem_append, List.mem_cons, not_or]
  refine ⟨⟨f _, by decide, f _, by decide, f _⟩, by decide, ?_, by decide, f _⟩
  unfold cod; split <;> decide
theorem ln_ltx : ∀ l : List F5, ln (ltx l) = (l.map ptx, true)
  | [] => rfl
  | x :: l => by
    rw [ltx_cons, ln_at _ nl_free, ln_ltx l]
    rfl
/-- The lines of a text make the text. -/
theorem ln_join : ∀ s : List UInt8, (ln s).2 = true → ((ln s).1.map (· ++ [10])).flatten = s := by
  intro s
  induction s with
  | nil => intro _; rfl
  | cons b s ih =>
    intro h
    simp only [ln] at h ⊢
    by_cases e : b = 10
    · subst e
      rw [if_pos rfl] at h ⊢
      simp only [List.map_cons, List.flatten_cons, List.nil_append]
      rw [ih h]; rfl
    · rw [if_neg e] at h ⊢
      cases q : (ln s).1 with
      | nil => rw [q] at h; cases h
      | cons w r =>
        rw [q] at h
        have := ih h
        rw [q] at this
        simp only [List.map_cons, List.flatten_cons, List.cons_append] at this ⊢
        rw [this]
end Go.Proofs.YtpogfdeioibkdaaGreatDoor.ptm
