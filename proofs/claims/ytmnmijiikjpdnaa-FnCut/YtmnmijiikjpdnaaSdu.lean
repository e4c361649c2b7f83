/-
  Plain helpers of this seat's proofs: the contract of the model's DueDays. Conditions: none.
-/
import Derived.Test.YtmnmijiikjpdnaaSdt
namespace Go.Proofs.Ytmnmijiikjpdnaa.due
open Go.ChangeShapes Go.WideShapes Go.ChangeAt Go.RowKit
theorem info2 : (Try.prog.info? 2).map (fun i => (i.zero, i.size, i.bytes)) = some (some (.int .i64 0), 1, 8) := by kernel_rfl
def MonS (t : Int) (f : Int → Int) : Prop := ∀ n w, base.Mon w → Calls Try.prog 77 #[.int .i64 t, .int .i64 n] w fun e w' => e = .returned (.int .i64 (f n)) ∧ Below w.heap.size w w'
/-- The first so many due days. -/
def pre (f : Int → Int) (m : Nat) : List Int := (List.range m).map fun (i : Nat) => f ((i : Int) + 1)
theorem pre_succ (f : Int → Int) (m : Nat) : pre f (m + 1) = pre f m ++ [f ((m : Int) + 1)] := by unfold pre; rw [List.range_succ, List.map_append]; rfl
theorem pre_len (f : Int → Int) (m : Nat) : (pre f m).length = m := by simp [pre]
/-- What DueDays answers. -/
def Zs (f : Int → Int) (n : Int) (zs : List Int) : Prop :=
  ((n < 1 ∨ 24 < n ∨ ∃ i : Nat, (i : Int) < n ∧ f ((i : Int) + 1) = -1) ∧ zs = []) ∨ (1 ≤ n ∧ n ≤ 24 ∧ (∀ i : Nat, (i : Int) < n → f ((i : Int) + 1) ≠ -1) ∧ zs = pre f n.toNat)
theorem zs_fun {f : Int → Int} {n : Int} {a b : List Int} (ha : Zs f n a) (hb : Zs f n b) : a = b := by
  rcases ha with ⟨ha, rfl⟩ | ⟨h1, h2, h3, rfl⟩ <;> rcases hb with ⟨hb, rfl⟩ | ⟨g1, g2, g3, rfl⟩
  · rfl
  · exfalso
    rcases ha with h | h | ⟨i, hi, h⟩
    · omega
    · omega
    · exact g3 i hi h
  · exfalso
    rcases hb with h | h | ⟨i, hi, h⟩
    · omega
    · omega
    · exact h3 i hi h
  · rfl
/-- A list of numbers, in memory of its own. -/
def GotL (w : World) (f : Int → Int) (n : Int) (e : Ending) (w' : World) : Prop :=
  ∃ v zs, e = .returned v ∧ Zs f n zs ∧ w'.ownsRow w.heap.size 2 1 v zs.length (zs.map (Value.int .i64)) ∧ Below w.heap.size w w'
theorem owns_below {w w' : World} {B : Nat} {e : TypeId} {size : Nat} {v : Value} {n : Nat} {xs : List Value} (h : w.ownsRow B e size v n xs) (hb : Below w.heap.size w w') : w'.ownsRow B e size v n xs := by
  obtain ⟨h1, h2⟩ := h
  refine ⟨h1, ?_⟩
  rcases h2 with h2 | ⟨g, cap, cur, hv, hg, hh, r⟩
  · exact Or.inl h2
  · exact Or.inr ⟨g, cap, cur, hv, hg, by rw [hb.block g (Array.getElem?_eq_some_iff.1 hh).1]; exact hh, r⟩
/-- One more. -/
theorem owns_more {w : World} {B : Nat} {v : Value} {f : Int → Int} {m : Nat} (h : w.ownsRow B 2 1 v (m + 1) ((pre f m).map (Value.int .i64) ++ [.int .i64 (f ((m : Int) + 1))])) : w.ownsRow B 2 1 v (m + 1) ((pre f (m + 1)).map (Value.int .i64)) := by
  rw [pre_succ, List.map_append]; exact h
theorem owns_empty (w : World) : (w.alloc (.cells #[] 2)).ownsRow w.heap.size 2 1 (.slice (some ⟨w.heap.size, 0, none⟩) 0 0) 0 [] := by
  refine ⟨rfl, .inr ⟨w.heap.size, 0, #[], rfl, Nat.le_refl _, ?_, Nat.le_refl _, Nat.zero_le _, rfl, rfl⟩⟩
  show (w.heap.push _)[w.heap.size]? = _
  simp
set_option maxHeartbeats 1000000 in
theorem spec (t n : Int) (f : Int → Int) (w : World) (hf : MonS t f) (hlo : ∀ n, -1 ≤ f n) (c : base.Mon w) : Calls Try.prog 73 #[.int .i64 t, .int .i64 n] w (GotL w f n) := by
  have F := Lib.hid hf
  have C := Lib.hid c
  have lt0 := c.lt
  have HLO := Lib.hid hlo
  clear hf c hlo
  by_cases h : n < 1 ∨ 24 < n
  · have H := Lib.hid h
    clear h
    go_enter Try.func73, Try.ntmps73
    go_wp2_with fail
    refine (dayOf.inF n 1 24 w H.out).mono ?_
    rintro e w' ⟨rfl, rfl⟩
    go_wp2
    go_ret
    exact ⟨_, [], rfl, .inl ⟨H.out.elim .inl (fun h => .inr (.inl h)), rfl⟩, World.ownsRow_nil _ _ _ _, Below.refl _ _⟩
  · obtain ⟨N, rfl⟩ := Int.eq_ofNat_of_zero_le (show 0 ≤ n by omega)
    have N1 : 1 ≤ N := by omega
    have N2 : N ≤ 24 := by omega
    have t1 : decide ((N : Int) < 1) = false := by simp; omega
    have t2 : decide ((24 : Int) < (N : Int)) = false := by simp; omega
    clear h
    obtain ⟨i0, hi, hz0, hz1, hz2⟩ := info_parts info2
    go_enter Try.func73, Try.ntmps73
    go_wp2_with fail
    refine (dayOf.inT N 1 24 w (by omega) (by omega)).mono ?_
    rintro e w' ⟨rfl, rfl⟩
    have B0 := Lib.hid ((Below.refl w.heap.size w).alloc (Nat.le_refl _) (.cells #[] 2))
    have OWN0 := Lib.hid (owns_empty w)
    go_wp2
    go_loopw [5, 6] (fun v i wr => Below w.heap.size w wr ∧ ∃ m : Nat, m ≤ N ∧ i = .int .i64 ((m : Int) + 1) ∧ (∀ j : Nat, j < m → f ((j : Int) + 1) ≠ -1) ∧ wr.ownsRow w.heap.size 2 1 v m ((pre f m).map (Value.int .i64))) (fun _ i _ => (N + 1 - (intOf i).toNat))
    case atStart => exact ⟨B0.out, 0, by omega, by go_num, fun j h => by omega, OWN0.out⟩
    case round =>
      obtain ⟨hB, m, hm, rfl, hne, hown⟩ := hrel
      have BB := Lib.hid hB
      have NE := Lib.hid hne
      have OWN := Lib.hid hown
      have CR := Lib.hid (C.out.below hB lt0)
      have hsz := hB.size
      clear hB hne hown
      by_cases hlt : m < N
      · have u1 : decide ((m : Int) + 1 ≤ (N : Int)) = true := by simp; omega
        go_wp2_with fail
        refine (F.out ((m : Int) + 1) _ CR.out).mono ?_
        rintro e w1 ⟨rfl, b1⟩
        have OWN := Lib.hid (owns_below OWN.out b1)
        have BB := Lib.hid (BB.out.trans (b1.mono hsz))
        have hsz := BB.out.size
        clear b1
        have lo := HLO.out ((m : Int) + 1)
        by_cases hq : f ((m : Int) + 1) = -1
        · have q1 : decide (f ((m : Int) + 1) < 0) = true := by simp; omega
          have HQ := Lib.hid hq
          clear hq
          go_wp2
          go_ret
          exact ⟨_, [], rfl, .inl ⟨.inr (.inr ⟨m, by omega, HQ.out⟩), rfl⟩, World.ownsRow_nil _ _ _ _, BB.out⟩
        · have q1 : decide (f ((m : Int) + 1) < 0) = false := by simp; omega
          have HQ := Lib.hid hq
          clear hq
          go_wp2_with (at_builtin; refine wpList_append_own _ rfl _ _ 85 rfl w.heap.size 2 i0 (.int .i64 0) 1 8 Try.underlying85 hi hz0 hz1 hz2 rfl (by decide) _ _ _ rfl (OWN.out.alloc _) ⟨w1.heap.size, 0, none⟩ 1 1 [.int .i64 (f ((m : Int) + 1))] rfl rfl ?c1 ?c2 ?c3 ?c4 ?c5 ?_)
          case c1 =>
            intro j u hj
            match j, hj with
            | 0, hj => simp at hj; subst hj; simp [Addr.add]
          case c2 => intro u hu; simp at hu; subst hu; rfl
          case c3 => unfold maxLen; omega
          case c4 => omega
          case c5 => simp; omega
          · intro v' w2 hown' hgrow _
            have OWN2 := Lib.hid (owns_more hown')
            have B2 := Lib.hid ((BB.out.alloc hsz _).grown hgrow (by simp; omega) (fun k hk => by
              rcases OWN.out.2 with ⟨rfl, _⟩ | ⟨g, cap, cur, rfl, hg, _⟩
              · cases hk
              · cases hk; exact hg))
            have NE2 : Hid (∀ j : Nat, j < m + 1 → f ((j : Int) + 1) ≠ -1) := Lib.hid fun j hj => by
              by_cases e : j = m
              · subst e; exact HQ.out
              · exact NE.out j (by omega)
            clear hown' hgrow
            go_wp2
            go_roundw
            case rel => exact ⟨B2.out, m + 1, by omega, by go_num, NE2.out, OWN2.out⟩
            case measure => simp [intOf]; omega
      · have u1 : decide ((m : Int) + 1 ≤ (N : Int)) = false := by simp; omega
        obtain rfl : m = N := by omega
        go_wp2
        go_ret
        exact ⟨_, pre f m, rfl, .inr ⟨by omega, by omega, fun i hi => NE.out i (by omega), by rw [Int.toNat_natCast]⟩, by rw [pre_len]; exact OWN.out, BB.out⟩
end Go.Proofs.Ytmnmijiikjpdnaa.due
