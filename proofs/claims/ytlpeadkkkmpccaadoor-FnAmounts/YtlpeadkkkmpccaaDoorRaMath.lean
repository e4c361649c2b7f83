/-
  Plain helpers: the text of an amount, read again. Conditions: none.
-/
import Derived.Test.YtlpeadkkkmpccaaDoorRa
import Derived.Test.YtlpeadkkkmpccaaDoorRi
namespace Go.Proofs.YtlpeadkkkmpccaaDoor.ram
open Go.ChangeShapes Go.WideShapes Go.ChangeAt Go.RowKit

theorem chr (k : Nat) (h : k < 10) : (UInt8.ofNat (48 + k)).toNat = 48 + k := by
  rw [UInt8.toNat_ofNat']; omega
theorem dig_all : ∀ a : Nat, ∀ b ∈ Lib.decDigits a, digs.isD b := by
  intro a
  induction a using Nat.strongRecOn with
  | _ a ih =>
    by_cases h : a < 10
    · rw [dec.dig_end a h]
      intro b hb
      rw [List.mem_singleton.1 hb]
      have := chr a h
      exact ⟨by omega, by omega⟩
    · rw [dec.dig_step a h]
      intro b hb
      rcases List.mem_append.1 hb with hb | hb
      · exact ih (a / 10) (by omega) b hb
      · rw [List.mem_singleton.1 hb]
        have := chr (a % 10) (by omega)
        exact ⟨by omega, by omega⟩
theorem dig_num : ∀ a : Nat, digs.num (Lib.decDigits a) = a := by
  intro a
  induction a using Nat.strongRecOn with
  | _ a ih =>
    by_cases h : a < 10
    · rw [dec.dig_end a h]
      have := chr a h
      simp only [digs.num, List.foldl_cons, List.foldl_nil]; omega
    · rw [dec.dig_step a h, digs.num_snoc, ih (a / 10) (by omega), chr (a % 10) (by omega)]
      omega
theorem dig_short : ∀ j a : Nat, a < 10 ^ (j + 1) → (Lib.decDigits a).length ≤ j + 1
  | 0, a, h => by rw [dec.dig_end a (by simpa using h)]; simp
  | j + 1, a, h => by
    by_cases h1 : a < 10
    · rw [dec.dig_end a h1]; simp
    · rw [dec.dig_step a h1, List.length_append, List.length_singleton]
      have := dig_short j (a / 10) (by rw [Nat.pow_succ] at h; omega)
      omega
theorem fold_zeros : ∀ z : Nat, (List.replicate z (48 : UInt8)).foldl (fun n b => 10 * n + (b.toNat - 48)) 0 = 0
  | 0 => rfl
  | z + 1 => by
    rw [List.replicate_succ, List.foldl_cons, show 10 * 0 + ((48 : UInt8).toNat - 48) = 0 from rfl]
    exact fold_zeros z
theorem pad_num (a k : Nat) : digs.num (dec.padL a k) = a := by
  unfold dec.padL digs.num
  rw [List.foldl_append, fold_zeros]
  exact dig_num a
theorem pad_all (a k : Nat) : ∀ b ∈ dec.padL a k, digs.isD b := by
  intro b hb
  rcases List.mem_append.1 hb with hb | hb
  · rw [(List.mem_replicate.1 hb).2]; exact ⟨by decide, by decide⟩
  · exact dig_all a b hb
theorem pad_short (a k : Nat) (ha : a ≤ 1000000000000) (hk : k ≤ 4) : (dec.padL a k).length ≤ 13 := by
  have := dig_short 12 a (by omega)
  unfold dec.padL
  simp
  omega

theorem no_dot {l : List UInt8} (h : ∀ b ∈ l, digs.isD b) : (46 : UInt8) ∉ l := fun q => by
  have := (h 46 q).1
  exact absurd this (by decide)
theorem ix_none : ∀ {l : List UInt8}, (46 : UInt8) ∉ l → Lib.indexByte l 46 = -1
  | [], _ => rfl
  | b :: l, h => by
    have h1 : ¬ b = 46 := fun q => h (by rw [q]; simp)
    have h2 := ix_none (l := l) (fun q => h (List.mem_cons_of_mem _ q))
    simp [Lib.indexByte, h1, h2]
theorem ix_at : ∀ {x : List UInt8} (y : List UInt8), (46 : UInt8) ∉ x → Lib.indexByte (x ++ 46 :: y) 46 = x.length
  | [], y, _ => by simp [Lib.indexByte]
  | b :: x, y, h => by
    have h1 : ¬ b = 46 := fun q => h (by rw [q]; simp)
    have h2 := ix_at (x := x) y (fun q => h (List.mem_cons_of_mem _ q))
    simp only [List.cons_append, Lib.indexByte, h2, beq_iff_eq, h1, if_false, List.length_cons]
    rw [if_neg (by omega)]
    omega
theorem cut_none {l : List UInt8} (h : (46 : UInt8) ∉ l) : Lib.cut l [46] = (l, [], false) := by
  unfold Lib.cut
  rw [Lib.index_one, ix_none h]
  rfl
theorem cut_at {x : List UInt8} (y : List UInt8) (h : (46 : UInt8) ∉ x) : Lib.cut (x ++ 46 :: y) [46] = (x, y, true) := by
  unfold Lib.cut
  rw [Lib.index_one, ix_at y h, if_pos (by omega)]
  simp

/-- The text without its sign: how both read it. -/
theorem body_cut (p a : Nat) : (Lib.cut (amt.body p a) [46]).1 ++ (Lib.cut (amt.body p a) [46]).2.1 = dec.padL a (p + 1) := by
  unfold amt.body
  have hd := pad_all a (p + 1)
  by_cases h : p = 0
  · subst h
    rw [if_pos rfl, cut_none (no_dot (pad_all a 1))]; simp
  · rw [if_neg h, List.append_assoc, List.singleton_append, cut_at _ (no_dot (fun b hb => hd b (List.mem_of_mem_take hb)))]
    exact List.take_append_drop _ _
theorem numD_of : ∀ (l : List UInt8) (n : Nat), (∀ b ∈ l, digs.isD b) → l.foldl ra.stepD n = l.foldl (fun n b => 10 * n + (b.toNat - 48)) n
  | [], _, _ => rfl
  | b :: l, n, h => by
    rw [List.foldl_cons, List.foldl_cons, show ra.stepD n b = 10 * n + (b.toNat - 48) from if_pos (h b (by simp))]
    exact numD_of l _ (fun x hx => h x (List.mem_cons_of_mem _ hx))
theorem body_numD (p a : Nat) : (amt.body p a).foldl ra.stepD 0 = a := by
  have hd := pad_all a (p + 1)
  have hn := pad_num a (p + 1)
  unfold amt.body
  by_cases h : p = 0
  · subst h
    rw [if_pos rfl, numD_of _ _ hd]; exact hn
  · rw [if_neg h, List.foldl_append, List.foldl_append, List.foldl_cons, List.foldl_nil, show ∀ n, ra.stepD n 46 = n from fun n => if_neg (fun q => absurd q.1 (by decide)), ← List.foldl_append, List.take_append_drop, numD_of _ _ hd]
    exact hn
theorem body_head (p a : Nat) : ∃ b l, amt.body p a = b :: l ∧ digs.isD b := by
  have hd := pad_all a (p + 1)
  have hl := (amt.len_pad a (p + 1)).1
  obtain ⟨b, l, e⟩ : ∃ b l, dec.padL a (p + 1) = b :: l := by
    cases q : dec.padL a (p + 1) with
    | nil => rw [q] at hl; simp at hl
    | cons b l => exact ⟨b, l, rfl⟩
  have hb : digs.isD b := hd b (by rw [e]; simp)
  unfold amt.body
  by_cases h : p = 0
  · subst h
    rw [if_pos rfl]; exact ⟨b, l, e, hb⟩
  · rw [if_neg h, e]
    rw [e] at hl
    obtain ⟨j, hj⟩ : ∃ j, (b :: l).length - p = j + 1 := ⟨(b :: l).length - p - 1, by omega⟩
    rw [hj]
    exact ⟨b, _, by rw [List.take_succ_cons, List.cons_append, List.cons_append], hb⟩
theorem body_short (p a : Nat) (hp : p ≤ 3) (ha : a ≤ 1000000000000) : (amt.body p a).length ≤ 14 := by
  have h1 := pad_short a (p + 1) ha (by omega)
  have h2 := pad_short a 1 ha (by omega)
  unfold amt.body
  split
  · omega
  · simp; omega

theorem pad_ok (p a : Nat) (hp : p ≤ 3) (ha : a ≤ 1000000000000) : ri.okV (dec.padL a (p + 1)) = true ∧ ri.valV (dec.padL a (p + 1)) = a := by
  have h : 1 ≤ (dec.padL a (p + 1)).length ∧ (dec.padL a (p + 1)).length ≤ 16 ∧ ∀ b ∈ dec.padL a (p + 1), digs.isD b :=
    ⟨by have := (amt.len_pad a (p + 1)).1; omega, by have := pad_short a (p + 1) ha (by omega); omega, pad_all a (p + 1)⟩
  exact ⟨decide_eq_true h, (if_pos h).trans (pad_num a (p + 1))⟩
theorem not_minus {b : UInt8} (h : digs.isD b) : ¬ b = 45 := fun q => by rw [q] at h; exact absurd h.1 (by decide)

/-- What the landed function makes of the text of an amount. -/
theorem impl_sgn {k n : Int} (h : amt.okA k n) : ri.okV (ri.body (amt.atx k n)) = true ∧ ri.sgn (amt.atx k n) = n := by
  obtain ⟨h1, h2, h3, h4⟩ := id h
  obtain ⟨o1, o2⟩ := pad_ok (amt.plc k) n.natAbs (amt.plc_3 k) (by omega)
  obtain ⟨b, l, e, hb⟩ := body_head (amt.plc k) n.natAbs
  have hc := body_cut (amt.plc k) n.natAbs
  by_cases hn : n < 0
  · have ex : amt.atx k n = 45 :: amt.body (amt.plc k) n.natAbs := by unfold amt.atx; rw [if_pos h, if_pos hn]
    have hp : Lib.hasPrefix (45 :: amt.body (amt.plc k) n.natAbs) [45] = true := by simp [Lib.hasPrefix]
    have ht : Lib.trimPrefix (45 :: amt.body (amt.plc k) n.natAbs) [45] = amt.body (amt.plc k) n.natAbs := by unfold Lib.trimPrefix; rw [if_pos hp]; rfl
    have hb2 : ri.body (45 :: amt.body (amt.plc k) n.natAbs) = dec.padL n.natAbs (amt.plc k + 1) := by rw [ri.body_eq, ht, hc]
    rw [ex]
    refine ⟨by rw [hb2, o1], ?_⟩
    rw [ri.sgn_n hp, hb2, o2]
    omega
  · have ex : amt.atx k n = amt.body (amt.plc k) n.natAbs := by unfold amt.atx; rw [if_pos h, if_neg hn]
    have hp : Lib.hasPrefix (amt.body (amt.plc k) n.natAbs) [45] = false := by
      rw [e]
      have : ¬ (45 : UInt8) = b := fun q => not_minus hb q.symm
      simp [Lib.hasPrefix, List.isPrefixOf, this]
    have ht : Lib.trimPrefix (amt.body (amt.plc k) n.natAbs) [45] = amt.body (amt.plc k) n.natAbs := by unfold Lib.trimPrefix; rw [hp]; rfl
    have hb2 : ri.body (amt.body (amt.plc k) n.natAbs) = dec.padL n.natAbs (amt.plc k + 1) := by rw [ri.body_eq, ht, hc]
    rw [ex]
    refine ⟨by rw [hb2, o1], ?_⟩
    rw [ri.sgn_p hp, hb2, o2]
    omega
/-- What the model's function makes of it. -/
theorem spec_sgn {k n : Int} (h : amt.okA k n) : amt.atx k n ≠ [] ∧ ra.sgn (amt.atx k n) = n ∧ (amt.atx k n).length ≤ 30 := by
  obtain ⟨h1, h2, h3, h4⟩ := id h
  obtain ⟨b, l, e, hb⟩ := body_head (amt.plc k) n.natAbs
  have hc := body_numD (amt.plc k) n.natAbs
  have hs := body_short (amt.plc k) n.natAbs (amt.plc_3 k) (by omega)
  by_cases hn : n < 0
  · have ex : amt.atx k n = 45 :: amt.body (amt.plc k) n.natAbs := by unfold amt.atx; rw [if_pos h, if_pos hn]
    rw [ex]
    refine ⟨by simp, ?_, by simp; omega⟩
    have hd : ra.numD (45 :: amt.body (amt.plc k) n.natAbs) = n.natAbs := by
      unfold ra.numD
      rw [List.foldl_cons, show ra.stepD 0 45 = 0 from if_neg (fun q => absurd q.1 (by decide)), hc]
    unfold ra.sgn
    rw [if_pos (by rfl), hd]
    unfold ra.cap
    omega
  · have ex : amt.atx k n = amt.body (amt.plc k) n.natAbs := by unfold amt.atx; rw [if_pos h, if_neg hn]
    rw [ex]
    refine ⟨by rw [e]; simp, ?_, by omega⟩
    have hd : ra.numD (amt.body (amt.plc k) n.natAbs) = n.natAbs := hc
    have h0 : ¬ (amt.body (amt.plc k) n.natAbs)[0]? = some 45 := by
      rw [e]; simpa using not_minus hb
    unfold ra.sgn
    rw [if_neg h0, hd]
    unfold ra.cap
    omega

/-- The answer of both. -/
theorem okA_of {k n : Int} {l : List UInt8} (hl : l ≠ []) (h : amt.atx k n = l) : amt.okA k n := by
  by_cases q : amt.okA k n
  · exact q
  · exact absurd (h.symm.trans (if_neg q)) hl
theorem agree (k : Int) (l : List UInt8) : (∃ n, (amt.okA k n ∧ l.length ≤ 30 ∧ ri.ansI k l = .tuple #[.int .i64 n, .bool true] ∧ ra.ansS k l = .tuple #[.int .i64 n, .bool true])) ∨
    (ri.ansI k l = .tuple #[.int .i64 0, .bool false] ∧ ra.ansS k l = .tuple #[.int .i64 0, .bool false]) := by
  by_cases h : ∃ n, amt.okA k n ∧ amt.atx k n = l
  · obtain ⟨n, ho, rfl⟩ := h
    obtain ⟨a1, a2⟩ := impl_sgn ho
    obtain ⟨b1, b2, b3⟩ := spec_sgn ho
    refine .inl ⟨n, ho, b3, ?_, ?_⟩
    · unfold ri.ansI; rw [a2, if_pos ⟨a1, rfl⟩]
    · unfold ra.ansS; rw [b2, if_pos ⟨b1, rfl⟩]
  · refine .inr ⟨?_, ?_⟩
    · unfold ri.ansI
      rw [if_neg]
      rintro ⟨q1, q2⟩
      refine h ⟨_, okA_of ?_ q2, q2⟩
      rintro rfl
      exact absurd q1 (by decide)
    · unfold ra.ansS
      rw [if_neg]
      rintro ⟨q1, q2⟩
      exact h ⟨_, okA_of q1 q2, q2⟩
end Go.Proofs.YtlpeadkkkmpccaaDoor.ram
