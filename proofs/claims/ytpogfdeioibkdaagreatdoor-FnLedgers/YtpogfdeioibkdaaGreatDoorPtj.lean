/-
  Plain helpers of this seat's proofs: the landed text of any post. Conditions: none.
-/
import Derived.Test.YtpogfdeioibkdaaGreatDoorPti
namespace Go.Proofs.YtpogfdeioibkdaaGreatDoor.ptm
open Go.ChangeShapes Go.WideShapes Go.ChangeAt Go.RowKit
open led (F5 z5)
theorem pok_pl {x : F5} : pok x = (led.plok x && led.inR x.2.2.2.2 (-1000000000000000) 1000000000000000) := rfl
set_option maxRecDepth 20000 in
set_option maxHeartbeats 4000000 in
theorem textI (x : F5) (w : World) (cu : cur.Cur w) (po : Pow w) (hw : 2 < w.heap.size) : Calls Tryz.prog 16 #[.agg #[.int .i64 x.1, .int .i64 x.2.1, .int .i64 x.2.2.1, .int .i64 x.2.2.2.1, .int .i64 x.2.2.2.2]] w fun e w' => e = .returned (.string ⟨(txt x).toArray⟩) ∧ Below w.heap.size w w' := by
  cases hk : pok x with
  | true =>
    have sm := pok_sm hk
    rw [txt_yes hk]
    rw [pok_pl, Bool.and_eq_true] at hk
    exact bodyI x sm hk.1 hk.2 w cu po hw
  | false =>
    rw [txt_no hk]
    rw [pok_pl] at hk
    have m1 := fun W h => PB.new w x 36 (W := W) h
    have c1 := base.placeI x
    have c2 := base.balI x.2.2.2.2
    obtain ⟨a, b, c, d, f⟩ := x
    dsimp only at m1 c1 c2 hk ⊢
    have B0 := Lib.hid (show Below w.heap.size w (w.alloc (.cells #[.int .i64 a, .int .i64 b, .int .i64 c, .int .i64 d, .int .i64 f] 36)) from five.bAl (Below.refl _ _) (Nat.le_refl _) _)
    have K0 := Lib.hid (five.box_refl w (.cells #[.int .i64 a, .int .i64 b, .int .i64 c, .int .i64 d, .int .i64 f] 36))
    generalize led.plok (a, b, c, d, f) = p at c1 hk
    generalize led.inR f (-1000000000000000) 1000000000000000 = r at c2 hk
    clear cu po hw
    cases p
    · go_enter Tryz.func16, Tryz.ntmps16
      go_wp2_with fail
      refine (c1 _).mono ?_
      rintro e w1 ⟨rfl, g1⟩
      have B1 := Lib.hid (five.Grew.step B0.out (Nat.le_refl _) g1)
      clear g1
      go_wp2
      go_ret
      exact ⟨rfl, B1.out⟩
    · cases r
      · go_enter Tryz.func16, Tryz.ntmps16
        go_wp2_with fail
        refine (c1 _).mono ?_
        rintro e w1 ⟨rfl, g1⟩
        have B1 := Lib.hid (five.Grew.step B0.out (Nat.le_refl _) g1)
        have mm := m1 w1 (five.box_step K0.out g1.below)
        obtain ⟨m0, m1', m2, m3, m4⟩ := mm
        dsimp only at m0 m1' m2 m3 m4
        clear g1 m1
        go_wp2_with fail
        refine (c2 _).mono ?_
        rintro e w' ⟨rfl, rfl⟩
        go_wp2
        go_ret
        exact ⟨rfl, B1.out⟩
      · cases hk
end Go.Proofs.YtpogfdeioibkdaaGreatDoor.ptm
