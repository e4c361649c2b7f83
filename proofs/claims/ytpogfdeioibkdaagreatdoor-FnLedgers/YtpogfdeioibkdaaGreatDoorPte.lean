/-
  Plain helpers of this seat's proofs: the text of any post, on both sides. Conditions: none.
-/
import Derived.Test.YtpogfdeioibkdaaGreatDoorPtt
namespace Go.Proofs.YtpogfdeioibkdaaGreatDoor.ptm
open Go.ChangeShapes Go.WideShapes Go.ChangeAt Go.RowKit
open led (F5 z5)
theorem txt_no {x : F5} (h : pok x = false) : txt x = [] := by unfold txt; rw [h]; rfl
theorem txt_yes {x : F5} (h : pok x = true) : txt x = ptx x := by unfold txt; rw [if_pos h]
theorem pok_of {a b c d f : Int} : pok (a, b, c, d, f) = (led.acct a b c && led.inR d 0 5 && led.inR f (-1000000000000000) 1000000000000000) := rfl
set_option maxRecDepth 20000 in
set_option maxHeartbeats 4000000 in
theorem textS (x : F5) (w : World) : Calls Tryz.prog 59 #[.agg #[.int .i64 x.1, .int .i64 x.2.1, .int .i64 x.2.2.1, .int .i64 x.2.2.2.1, .int .i64 x.2.2.2.2]] w fun e w' => e = .returned (.string ⟨(txt x).toArray⟩) ∧ Below w.heap.size w w' := by
  have NO := Lib.hid (fun h => txt_no (x := x) h)
  have YE := Lib.hid (fun h => txt_yes (x := x) h)
  have PS := Lib.hid (fun h W => postS x (pok_sm h) W)
  obtain ⟨a, b, c, d, f⟩ := x
  rw [pok_of] at NO YE PS
  dsimp only at PS ⊢
  have c1 := base.acctS a b c
  have c2 := base.curS d
  have c3 := base.farS f
  have m1 := fun W h => PB.new w (a, b, c, d, f) 36 (W := W) h
  have B0 := Lib.hid (show Below w.heap.size w (w.alloc (.cells #[.int .i64 a, .int .i64 b, .int .i64 c, .int .i64 d, .int .i64 f] 36)) from five.bAl (Below.refl _ _) (Nat.le_refl _) _)
  have K0 := Lib.hid (five.box_refl w (.cells #[.int .i64 a, .int .i64 b, .int .i64 c, .int .i64 d, .int .i64 f] 36))
  generalize led.acct a b c = p at c1 NO YE PS
  generalize led.inR d 0 5 = q at c2 NO YE PS
  generalize led.inR f (-1000000000000000) 1000000000000000 = r at c3 NO YE PS
  cases p
  · have N := Lib.hid (NO.out rfl)
    go_enter Tryz.func59, Tryz.ntmps59
    go_wp2_with fail
    refine (c1 _).mono ?_
    rintro e w1 ⟨rfl, g1⟩
    have B1 := Lib.hid (five.Grew.step B0.out (Nat.le_refl _) g1)
    clear g1 NO YE PS
    go_wp2
    go_ret
    exact ⟨by rw [N.out]; rfl, B1.out⟩
  · go_enter Tryz.func59, Tryz.ntmps59
    go_wp2_with fail
    refine (c1 _).mono ?_
    rintro e w1 ⟨rfl, g1⟩
    have B1 := Lib.hid (five.Grew.step B0.out (Nat.le_refl _) g1)
    have mm := m1 w1 (five.box_step K0.out g1.below)
    obtain ⟨m0, m1', m2, m3, m4⟩ := mm
    dsimp only at m0 m1' m2 m3 m4
    clear g1 m1
    cases q
    · have N := Lib.hid (NO.out rfl)
      go_wp2_with fail
      refine (c2 _).mono ?_
      rintro e w' ⟨rfl, rfl⟩
      go_wp2
      go_ret
      exact ⟨by rw [N.out]; rfl, B1.out⟩
    · go_wp2_with fail
      refine (c2 _).mono ?_
      rintro e w' ⟨rfl, rfl⟩
      go_wp2_with fail
      refine (c3 _).mono ?_
      rintro e w' ⟨rfl, rfl⟩
      cases r
      · have N := Lib.hid (NO.out rfl)
        go_wp2
        go_ret
        exact ⟨by rw [N.out]; rfl, B1.out⟩
      · have Y := Lib.hid (YE.out rfl)
        have P := Lib.hid (PS.out rfl)
        clear NO YE PS
        go_wp2_with fail
        refine (P.out _).mono ?_
        rintro e w2 ⟨rfl, b2⟩
        have B2 := Lib.hid (B1.out.trans (b2.mono B1.out.size))
        clear b2
        go_wp2
        go_ret
        exact ⟨by rw [Y.out]; rfl, B2.out⟩
/-- The text of a post out of its parts, by strings.Join. -/
theorem join_acct (a b c : List UInt8) : Lib.join [a, b, c] [46] = a ++ 46 :: (b ++ 46 :: c) := by
  rw [Lib.join_cons]; simp [Lib.joinTail]
theorem join_post (a b c : List UInt8) : Lib.join [a, b, c] [32] = a ++ 32 :: (b ++ 32 :: c) := by
  rw [Lib.join_cons]; simp [Lib.joinTail]
/-- Joining three texts that lie in a block of their own. -/
theorem joinC (sp : UInt8) (a b c : List UInt8) (w : World) (la : a.length ≤ 100) (lb : b.length ≤ 100) (lc : c.length ≤ 100) :
    Calls Tryz.prog 37 #[.slice (some ⟨w.heap.size, 0, none⟩) 3 3, .string ⟨#[sp]⟩] (w.alloc (.cells #[.string ⟨a.toArray⟩, .string ⟨b.toArray⟩, .string ⟨c.toArray⟩] 9)) fun e w' => e = .returned (.string ⟨(a ++ sp :: (b ++ sp :: c)).toArray⟩) ∧ Below w.heap.size w w' := by
  have J : Lib.join [a, b, c] [sp] = a ++ sp :: (b ++ sp :: c) := by rw [Lib.join_cons]; simp [Lib.joinTail]
  refine (Tryz.strings_Join w.heap.size 0 3 [⟨a.toArray⟩, ⟨b.toArray⟩, ⟨c.toArray⟩] ⟨#[sp]⟩ _ ?_ (by rw [World.size_alloc]; omega) (by simp) (by simp) ?_).mono ?_
  · intro j x hj
    rw [Nat.zero_add]
    match j, hj with
    | 0, hj => simp at hj; subst hj; exact five.box_cell (five.box_refl w _) 0 rfl
    | 1, hj => simp at hj; subst hj; exact five.box_cell (five.box_refl w _) 1 rfl
    | 2, hj => simp at hj; subst hj; exact five.box_cell (five.box_refl w _) 2 rfl
  · show (Lib.join [a, b, c] [sp]).length ≤ _
    rw [J]; simp; omega
  · rintro e w' ⟨rfl, hw⟩
    refine ⟨?_, ?_⟩
    · show Ending.returned (.string ⟨(Lib.join [a, b, c] [sp]).toArray⟩) = _
      rw [J]
    · exact (five.bAl (Below.refl _ _) (Nat.le_refl _) _).trans (hw.mono (by rw [World.size_alloc]; omega))
/-- .. and by the function that makes a sentence of words. -/
theorem sentC (a b c : List UInt8) (w : World) (la : a.length ≤ 100) (lb : b.length ≤ 100) (lc : c.length ≤ 100) :
    Calls Tryz.prog 39 #[.slice (some ⟨w.heap.size, 0, none⟩) 3 3] (w.alloc (.cells #[.string ⟨a.toArray⟩, .string ⟨b.toArray⟩, .string ⟨c.toArray⟩] 9)) fun e w' => e = .returned (.string ⟨(a ++ 32 :: (b ++ 32 :: c)).toArray⟩) ∧ Below w.heap.size w w' := by
  have J := joinC 32 a b c w la lb lc
  go_enter Tryz.func39, Tryz.ntmps39
  go_wp2_with fail
  refine J.mono ?_
  rintro e w' ⟨rfl, hb⟩
  go_wp2
  go_ret
  exact ⟨rfl, hb⟩
end Go.Proofs.YtpogfdeioibkdaaGreatDoor.ptm
