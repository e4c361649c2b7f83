/-
  Plain helpers of this seat's proofs: the contract of the program's own DueDays. Conditions: none.
-/
import Derived.Test.YtchpjojndkkmeaaDoorIDt
namespace Go.Proofs.YtchpjojndkkmeaaDoor.idue
open Go.ChangeShapes Go.WideShapes Go.ChangeAt Go.RowKit
open due (info2 pre pre_succ pre_len Zs zs_fun GotL owns_below owns_more owns_empty)
/-- MonthsOn answers f n, by both texts. -/
def MonI (t : Int) (f : Int → Int) : Prop := ∀ n w, ibase.Mon w → Calls Tryd.prog 37 #[.int .i64 t, .int .i64 n] w fun e w' => e = .returned (.int .i64 (f n)) ∧ w = w'
set_option maxHeartbeats 1000000 in
theorem impl (t n : Int) (f : Int → Int) (w : World) (hf : MonI t f) (hlo : ∀ n, -1 ≤ f n) (c : ibase.Mon w) : Calls Tryd.prog 16 #[.int .i64 t, .int .i64 n] w (GotL w f n) := by
  have F := Lib.hid hf
  have C := Lib.hid c
  have lt0 := c.lt
  have HLO := Lib.hid hlo
  clear hf c hlo
  by_cases h : n < 1 ∨ 24 < n
  · by_cases h1 : n < 1
    · have t1 : decide (n < 1) = true := by simp; omega
      clear h
      go_enter Tryd.func16, Tryd.ntmps16
      go_wp2
      go_ret
      exact ⟨_, [], rfl, .inl ⟨.inl h1, rfl⟩, World.ownsRow_nil _ _ _ _, Below.refl _ _⟩
    · have t1 : decide (n < 1) = false := by simp; omega
      have h2 : 24 < n := by omega
      have t2 : decide (24 < n) = true := by simp; omega
      clear h
      go_enter Tryd.func16, Tryd.ntmps16
      go_wp2
      go_ret
      exact ⟨_, [], rfl, .inl ⟨.inr (.inl h2), rfl⟩, World.ownsRow_nil _ _ _ _, Below.refl _ _⟩
  · obtain ⟨N, rfl⟩ := Int.eq_ofNat_of_zero_le (show 0 ≤ n by omega)
    have N1 : 1 ≤ N := by omega
    have N2 : N ≤ 24 := by omega
    have t1 : decide ((N : Int) < 1) = false := by simp; omega
    have t2 : decide ((24 : Int) < (N : Int)) = false := by simp; omega
    clear h
    obtain ⟨i0, hi, hz0, hz1, hz2⟩ := info_parts info2
    go_enter Tryd.func16, Tryd.ntmps16
    go_wp2_with (at_make; refine wpList_make_own _ rfl _ _ 37 rfl w.heap.size 2 i0 (.int .i64 0) 1 Tryd.underlying37 hi hz0 hz1 _ _ _ N rfl rfl rfl ?b2 ?b3 (Nat.le_refl _) ?_)
    case b2 => (try rw [hz2]); omega
    case b3 => unfold maxLen; omega
    intro w0 hown0 hgrow0
    have OWN0 := Lib.hid hown0
    have B0 := Lib.hid ((Below.refl w.heap.size w).grown hgrow0 (Nat.le_refl _) (fun k h => by cases h))
    clear hown0 hgrow0
    go_wp2
    go_loopw [5, 6] (fun v i wr => Below w.heap.size w wr ∧ ∃ m : Nat, m ≤ N ∧ i = .int .i64 ((m : Int) + 1) ∧ (∀ j : Nat, j < m → f ((j : Int) + 1) ≠ -1) ∧ wr.ownsRow w.heap.size 2 1 v m ((pre f m).map (Value.int .i64))) (fun _ i _ => (N + 1 - (intOf i).toNat))
    case atStart => exact ⟨B0.out, 0, by omega, by go_num, fun j h => by omega, OWN0.out⟩
    case round =>
      obtain ⟨hB, m, hm, rfl, hne, hown⟩ := hrel
      have BB := Lib.hid hB
      have NE := Lib.hid hne
      have OWN := Lib.hid hown
      have CR := Lib.hid (C.out.below hB lt0)
      have hsz := hB.size
      clear hB hne hown
      by_cases hlt : m < N
      · have u1 : decide ((m : Int) + 1 ≤ (N : Int)) = true := by simp; omega
        go_wp2_with fail
        refine (F.out ((m : Int) + 1) _ CR.out).mono ?_
        rintro e w' ⟨rfl, rfl⟩
        by_cases hq : f ((m : Int) + 1) = -1
        · have q1 : (f ((m : Int) + 1) == -1) = true := by simp [hq]
          have HQ := Lib.hid hq
          clear hq
          go_wp2
          go_ret
          exact ⟨_, [], rfl, .inl ⟨.inr (.inr ⟨m, by omega, HQ.out⟩), rfl⟩, World.ownsRow_nil _ _ _ _, BB.out⟩
        · have q1 : (f ((m : Int) + 1) == -1) = false := by simp [hq]
          have HQ := Lib.hid hq
          clear hq
          go_wp2_with (at_builtin; refine wpList_append_own _ rfl _ _ 37 rfl w.heap.size 2 i0 (.int .i64 0) 1 8 Tryd.underlying37 hi hz0 hz1 hz2 rfl (by decide) _ _ _ rfl (OWN.out.alloc _) ⟨wr.heap.size, 0, none⟩ 1 1 [.int .i64 (f ((m : Int) + 1))] rfl rfl ?c1 ?c2 ?c3 ?c4 ?c5 ?_)
          case c1 =>
            intro j u hj
            match j, hj with
            | 0, hj => simp at hj; subst hj; simp [Addr.add]
          case c2 => intro u hu; simp at hu; subst hu; rfl
          case c3 => unfold maxLen; omega
          case c4 => omega
          case c5 => simp; omega
          · intro v' w2 hown' hgrow _
            have OWN2 := Lib.hid (owns_more hown')
            have B2 := Lib.hid ((BB.out.alloc hsz _).grown hgrow (by simp; omega) (fun k hk => by
              rcases OWN.out.2 with ⟨rfl, _⟩ | ⟨g, cap, cur, rfl, hg, _⟩
              · cases hk
              · cases hk; exact hg))
            have NE2 : Hid (∀ j : Nat, j < m + 1 → f ((j : Int) + 1) ≠ -1) := Lib.hid fun j hj => by
              by_cases e : j = m
              · subst e; exact HQ.out
              · exact NE.out j (by omega)
            clear hown' hgrow
            go_wp2
            go_roundw
            case rel => exact ⟨B2.out, m + 1, by omega, by go_num, NE2.out, OWN2.out⟩
            case measure => simp [intOf]; omega
      · have u1 : decide ((m : Int) + 1 ≤ (N : Int)) = false := by simp; omega
        obtain rfl : m = N := by omega
        go_wp2
        go_ret
        exact ⟨_, pre f m, rfl, .inr ⟨by omega, by omega, fun i hi => NE.out i (by omega), by rw [Int.toNat_natCast]⟩, by rw [pre_len]; exact OWN.out, BB.out⟩
theorem monI (t : Int) : MonI t (mf.mf t) := fun n w c => by
  by_cases h : t < 0 ∨ 100000 < t ∨ n < 0 ∨ 600 < n
  · rw [mf.mf_no h]; exact imonthsOn.impl_no t n w h
  · rw [mf.mf_yes h]; exact imonthsOn.impl_yes t n _ _ _ w c (mf.dt_is (by omega) (by omega)) (by omega) (by omega)
theorem dueI (d n : Int) (w : World) (c : ibase.Mon w) : Calls Tryd.prog 16 #[.int .i64 d, .int .i64 n] w (mf.GotD w (mf.dz d n)) := by
  refine (impl d n (mf.mf d) w (monI d) (fun n => (mf.mf_bd d n).1) c).mono ?_
  rintro e w' ⟨v, zs, rfl, hz, ho, hb⟩
  obtain rfl := due.zs_fun hz (mf.dz_zs d n)
  obtain ⟨a, cap, g, rfl, hr, hg⟩ := rows.of_owns ho
  exact ⟨a, cap, g, rfl, hr, hg, hb⟩
end Go.Proofs.YtchpjojndkkmeaaDoor.idue
