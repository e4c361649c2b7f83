/-
  Proved: for every pair of codes, the law of the currencies' codes holds of what is drawn; the law laws.FnCodes returns true and its arguments read as before. Conditions: none beyond the given row (the table of currencies is the listed one).
-/
import Derived.Test.YtlpeadkkkmpccaaDoorHurt
import Derived.Test.YtlpeadkkkmpccaaDoorDrawC
import Derived.Test.YtlpeadkkkmpccaaDoorCodes
namespace Go.Proofs.YtlpeadkkkmpccaaDoor.fnCodes
open Go.ChangeShapes Go.WideShapes Go.ChangeAt Go.RowKit
open Go.ChangeMaps (open_string shut_string)

theorem walk_big (a1 a2 : Option Addr) (len1 cap1 len2 cap2 : Nat) (w : World) (hl1 : len1 ≤ maxLen) (hl2 : len2 ≤ maxLen) (hb : 1048576 < len1 ∨ 1048576 < len2) : Calls Tryd.prog 3 #[.slice a1 len1 cap1, .slice a2 len2 cap2] w fun e w' => e = .returned (.bool true) ∧ Below w.heap.size w w' := by
  by_cases h1 : 1048576 < len1
  · clear hb
    go_enter Tryd.func3, Tryd.ntmps3
    go_wp2_with fail
    refine (draw.bigT a1 len1 cap1 w h1 hl1).mono ?_
    rintro e w' ⟨rfl, rfl⟩
    go_wp2
    go_ret
    exact ⟨rfl, Below.refl _ _⟩
  · go_enter Tryd.func3, Tryd.ntmps3
    go_wp2_with fail
    refine (draw.bigF a1 len1 cap1 w (by omega)).mono ?_
    rintro e w' ⟨rfl, rfl⟩
    go_wp2_with fail
    refine (draw.bigT a2 len2 cap2 w (by omega) hl2).mono ?_
    rintro e w' ⟨rfl, rfl⟩
    go_wp2
    go_ret
    exact ⟨rfl, Below.refl _ _⟩

set_option maxRecDepth 100000 in
set_option maxHeartbeats 4000000 in
theorem walk_small (hurt : draw.HurtC) (a1 a2 : Option Addr) (len1 cap1 len2 cap2 : Nat) (w : World) (hb1 : len1 ≤ 1048576) (hb2 : len2 ≤ 1048576) (hB1 : draw.Bytes w a1 len1) (hB2 : draw.Bytes w a2 len2) (hc : base.Cur w) : Calls Tryd.prog 3 #[.slice a1 len1 cap1, .slice a2 len2 cap2] w fun e w' => e = .returned (.bool true) ∧ Below w.heap.size w w' := by
  have HB1 := Lib.hid hB1
  have HB2 := Lib.hid hB2
  have C := Lib.hid hc
  have HU := Lib.hid hurt
  have lt := hc.lt
  clear hB1 hB2 hc hurt
  go_enter Tryd.func3, Tryd.ntmps3
  go_wp2_with fail
  refine (draw.bigF a1 len1 cap1 w hb1).mono ?_
  rintro e w' ⟨rfl, rfl⟩
  go_wp2_with fail
  refine (draw.bigF a2 len2 cap2 w hb2).mono ?_
  rintro e w' ⟨rfl, rfl⟩
  go_wp2_with fail
  refine (draw.drawCodeOf a1 len1 cap1 w HB1.out hb1).mono ?_
  rintro e w1 ⟨c, wf, rfl, b1⟩
  have B1 := Lib.hid b1
  have HB3 := Lib.hid (HB2.out.below b1)
  have HB4 := Lib.hid (HB1.out.below b1)
  clear b1 wf
  go_wp2_with fail
  refine (draw.drawCodeOf a2 len2 cap2 w1 HB3.out hb2).mono ?_
  rintro e w2 ⟨d, wf, rfl, b2⟩
  have B2 := Lib.hid (B1.out.trans (b2.mono B1.out.size))
  have HB5 := Lib.hid (HB4.out.below b2)
  clear b2 wf
  go_wp2_with fail
  refine (draw.drawCurOf HU.out a1 len1 cap1 w2 HB5.out hb1).mono ?_
  rintro e w3 ⟨l, l1, rfl, b3⟩
  have B3 := Lib.hid (B2.out.trans (b3.mono B2.out.size))
  have C3 := Lib.hid (C.out.below B3.out lt)
  clear b3

  have CI := Lib.hid (fun (w : World) (c : base.Cur w) => curOf.impl ⟨l.toArray⟩ w c)
  have CS := Lib.hid (fun (w : World) (c : base.Cur w) => curOf.spec ⟨l.toArray⟩ w c)
  have hix := codes.cd_ix l
  have KC := Lib.hid (fun (w : World) (c : base.Cur w) => codes.code_impl (curOf.curIx l) w c)
  have el : (⟨l.toArray⟩ : ByteArray).toList = l := by simp
  rw [el] at CI CS
  clear el
  have CA := Lib.hid (fun (w : World) (cc : base.Cur w) => curOf.impl ⟨(codes.cdL c).toArray⟩ w cc)
  have el : (⟨(codes.cdL c).toArray⟩ : ByteArray).toList = codes.cdL c := by simp
  rw [el] at CA
  clear el
  have K1 := Lib.hid (fun (w : World) (cc : base.Cur w) => codes.code_impl c w cc)
  have K2 := Lib.hid (fun (w : World) => codes.code_spec c w)
  have P1 := Lib.hid (fun (w : World) (cc : base.Cur w) => codes.pls_impl c w cc)
  have P2 := Lib.hid (fun (w : World) => codes.pls_spec c w)
  have D1 := Lib.hid (fun (w : World) (cc : base.Cur w) => codes.code_impl d w cc)
  have FO := Lib.hid (fun h => codes.cd_out (k := c) h)
  have FI := Lib.hid (fun h => codes.cd_in (k := c) h)
  have FN := Lib.hid (fun h k => codes.cd_ne (c := c) (d := d) h k)
  generalize codes.cdL d = D at D1 FN
  generalize codes.cdL c = A at K1 K2 CA FO FI FN
  generalize codes.pls c = p at P1 P2 FI
  generalize curOf.curIx l = x at CI CS hix KC
  rcases hix with hx | ⟨x0, x5, hx⟩
  · subst hx
    by_cases ho : c < 0 ∨ 5 < c
    · have hA := FO.out ho
      subst hA
      by_cases h1 : c < 0
      · have q1 : decide (c < 0) = true := by simp; omega
        clear ho
        go_wp2_with fail
        refine (K1.out w3 C3.out).mono ?_
        rintro e w' ⟨rfl, rfl⟩
        go_wp2_with fail
        refine (CI.out w3 C3.out).mono ?_
        rintro e w' ⟨rfl, rfl⟩
        go_wp2_with fail
        refine (K2.out w3).mono ?_
        rintro e w4 ⟨rfl, b4⟩
        have B4 := Lib.hid (B3.out.trans (b4.mono B3.out.size))
        have C4 := Lib.hid (C.out.below B4.out lt)
        clear b4
        go_wp2_with fail
        refine (CS.out w4 C4.out).mono ?_
        rintro e w5 ⟨rfl, b5⟩
        have B5 := Lib.hid (B4.out.trans (b5.mono B4.out.size))
        have C5 := Lib.hid (C.out.below B5.out lt)
        clear b5
        go_wp2_with fail
        refine (P1.out w5 C5.out).mono ?_
        rintro e w' ⟨rfl, rfl⟩
        go_wp2_with fail
        refine (P2.out w5).mono ?_
        rintro e w6 ⟨rfl, b6⟩
        have B6 := Lib.hid (B5.out.trans (b6.mono B5.out.size))
        have C6 := Lib.hid (C.out.below B6.out lt)
        clear b6
        go_wp2
        go_ret
        exact ⟨rfl, B6.out⟩
      · have q1 : decide (c < 0) = false := by simp; omega
        have q2 : decide (5 < c) = true := by simp; omega
        clear ho
        go_wp2_with fail
        refine (K1.out w3 C3.out).mono ?_
        rintro e w' ⟨rfl, rfl⟩
        go_wp2_with fail
        refine (CI.out w3 C3.out).mono ?_
        rintro e w' ⟨rfl, rfl⟩
        go_wp2_with fail
        refine (K2.out w3).mono ?_
        rintro e w4 ⟨rfl, b4⟩
        have B4 := Lib.hid (B3.out.trans (b4.mono B3.out.size))
        have C4 := Lib.hid (C.out.below B4.out lt)
        clear b4
        go_wp2_with fail
        refine (CS.out w4 C4.out).mono ?_
        rintro e w5 ⟨rfl, b5⟩
        have B5 := Lib.hid (B4.out.trans (b5.mono B4.out.size))
        have C5 := Lib.hid (C.out.below B5.out lt)
        clear b5
        go_wp2_with fail
        refine (P1.out w5 C5.out).mono ?_
        rintro e w' ⟨rfl, rfl⟩
        go_wp2_with fail
        refine (P2.out w5).mono ?_
        rintro e w6 ⟨rfl, b6⟩
        have B6 := Lib.hid (B5.out.trans (b6.mono B5.out.size))
        have C6 := Lib.hid (C.out.below B6.out lt)
        clear b6
        go_wp2
        go_ret
        exact ⟨rfl, B6.out⟩
    · have q1 : decide (c < 0) = false := by simp; omega
      have q2 : decide (5 < c) = false := by simp; omega
      obtain ⟨n1, n2, n3⟩ := FI.out (by omega)
      have p0 : decide (0 ≤ p) = true := by simp; omega
      rw [n2] at CA
      clear n2
      by_cases hd : c = d
      · subst hd
        clear ho
        go_wp2_with fail
        refine (K1.out w3 C3.out).mono ?_
        rintro e w' ⟨rfl, rfl⟩
        go_wp2_with fail
        refine (CI.out w3 C3.out).mono ?_
        rintro e w' ⟨rfl, rfl⟩
        go_wp2_with fail
        refine (K2.out w3).mono ?_
        rintro e w4 ⟨rfl, b4⟩
        have B4 := Lib.hid (B3.out.trans (b4.mono B3.out.size))
        have C4 := Lib.hid (C.out.below B4.out lt)
        clear b4
        go_wp2_with fail
        refine (CS.out w4 C4.out).mono ?_
        rintro e w5 ⟨rfl, b5⟩
        have B5 := Lib.hid (B4.out.trans (b5.mono B4.out.size))
        have C5 := Lib.hid (C.out.below B5.out lt)
        clear b5
        go_wp2_with fail
        refine (P1.out w5 C5.out).mono ?_
        rintro e w' ⟨rfl, rfl⟩
        go_wp2_with fail
        refine (P2.out w5).mono ?_
        rintro e w6 ⟨rfl, b6⟩
        have B6 := Lib.hid (B5.out.trans (b6.mono B5.out.size))
        have C6 := Lib.hid (C.out.below B6.out lt)
        clear b6
        go_wp2_with fail
        refine (CA.out w6 C6.out).mono ?_
        rintro e w' ⟨rfl, rfl⟩
        go_wp2_with fail
        refine (P1.out w6 C6.out).mono ?_
        rintro e w' ⟨rfl, rfl⟩
        go_wp2
        go_ret
        exact ⟨rfl, B6.out⟩
      · have n4 := FN.out (by omega) hd
        have n5 : (c == d) = false := by simp; omega
        clear ho hd
        go_wp2_with fail
        refine (K1.out w3 C3.out).mono ?_
        rintro e w' ⟨rfl, rfl⟩
        go_wp2_with fail
        refine (CI.out w3 C3.out).mono ?_
        rintro e w' ⟨rfl, rfl⟩
        go_wp2_with fail
        refine (K2.out w3).mono ?_
        rintro e w4 ⟨rfl, b4⟩
        have B4 := Lib.hid (B3.out.trans (b4.mono B3.out.size))
        have C4 := Lib.hid (C.out.below B4.out lt)
        clear b4
        go_wp2_with fail
        refine (CS.out w4 C4.out).mono ?_
        rintro e w5 ⟨rfl, b5⟩
        have B5 := Lib.hid (B4.out.trans (b5.mono B4.out.size))
        have C5 := Lib.hid (C.out.below B5.out lt)
        clear b5
        go_wp2_with fail
        refine (P1.out w5 C5.out).mono ?_
        rintro e w' ⟨rfl, rfl⟩
        go_wp2_with fail
        refine (P2.out w5).mono ?_
        rintro e w6 ⟨rfl, b6⟩
        have B6 := Lib.hid (B5.out.trans (b6.mono B5.out.size))
        have C6 := Lib.hid (C.out.below B6.out lt)
        clear b6
        go_wp2_with fail
        refine (CA.out w6 C6.out).mono ?_
        rintro e w' ⟨rfl, rfl⟩
        go_wp2_with fail
        refine (D1.out w6 C6.out).mono ?_
        rintro e w' ⟨rfl, rfl⟩
        go_wp2_with fail
        refine (P1.out w6 C6.out).mono ?_
        rintro e w' ⟨rfl, rfl⟩
        go_wp2
        go_ret
        exact ⟨rfl, B6.out⟩
  · rw [hx] at KC
    have x1 : decide (0 ≤ x) = true := by simp; omega
    clear hx
    by_cases ho : c < 0 ∨ 5 < c
    · have hA := FO.out ho
      subst hA
      by_cases h1 : c < 0
      · have q1 : decide (c < 0) = true := by simp; omega
        clear ho
        go_wp2_with fail
        refine (K1.out w3 C3.out).mono ?_
        rintro e w' ⟨rfl, rfl⟩
        go_wp2_with fail
        refine (CI.out w3 C3.out).mono ?_
        rintro e w' ⟨rfl, rfl⟩
        go_wp2_with fail
        refine (K2.out w3).mono ?_
        rintro e w4 ⟨rfl, b4⟩
        have B4 := Lib.hid (B3.out.trans (b4.mono B3.out.size))
        have C4 := Lib.hid (C.out.below B4.out lt)
        clear b4
        go_wp2_with fail
        refine (CS.out w4 C4.out).mono ?_
        rintro e w5 ⟨rfl, b5⟩
        have B5 := Lib.hid (B4.out.trans (b5.mono B4.out.size))
        have C5 := Lib.hid (C.out.below B5.out lt)
        clear b5
        go_wp2_with fail
        refine (P1.out w5 C5.out).mono ?_
        rintro e w' ⟨rfl, rfl⟩
        go_wp2_with fail
        refine (P2.out w5).mono ?_
        rintro e w6 ⟨rfl, b6⟩
        have B6 := Lib.hid (B5.out.trans (b6.mono B5.out.size))
        have C6 := Lib.hid (C.out.below B6.out lt)
        clear b6
        go_wp2_with fail
        refine (KC.out w6 C6.out).mono ?_
        rintro e w' ⟨rfl, rfl⟩
        go_wp2
        go_ret
        exact ⟨rfl, B6.out⟩
      · have q1 : decide (c < 0) = false := by simp; omega
        have q2 : decide (5 < c) = true := by simp; omega
        clear ho
        go_wp2_with fail
        refine (K1.out w3 C3.out).mono ?_
        rintro e w' ⟨rfl, rfl⟩
        go_wp2_with fail
        refine (CI.out w3 C3.out).mono ?_
        rintro e w' ⟨rfl, rfl⟩
        go_wp2_with fail
        refine (K2.out w3).mono ?_
        rintro e w4 ⟨rfl, b4⟩
        have B4 := Lib.hid (B3.out.trans (b4.mono B3.out.size))
        have C4 := Lib.hid (C.out.below B4.out lt)
        clear b4
        go_wp2_with fail
        refine (CS.out w4 C4.out).mono ?_
        rintro e w5 ⟨rfl, b5⟩
        have B5 := Lib.hid (B4.out.trans (b5.mono B4.out.size))
        have C5 := Lib.hid (C.out.below B5.out lt)
        clear b5
        go_wp2_with fail
        refine (P1.out w5 C5.out).mono ?_
        rintro e w' ⟨rfl, rfl⟩
        go_wp2_with fail
        refine (P2.out w5).mono ?_
        rintro e w6 ⟨rfl, b6⟩
        have B6 := Lib.hid (B5.out.trans (b6.mono B5.out.size))
        have C6 := Lib.hid (C.out.below B6.out lt)
        clear b6
        go_wp2_with fail
        refine (KC.out w6 C6.out).mono ?_
        rintro e w' ⟨rfl, rfl⟩
        go_wp2
        go_ret
        exact ⟨rfl, B6.out⟩
    · have q1 : decide (c < 0) = false := by simp; omega
      have q2 : decide (5 < c) = false := by simp; omega
      obtain ⟨n1, n2, n3⟩ := FI.out (by omega)
      have p0 : decide (0 ≤ p) = true := by simp; omega
      rw [n2] at CA
      clear n2
      by_cases hd : c = d
      · subst hd
        clear ho
        go_wp2_with fail
        refine (K1.out w3 C3.out).mono ?_
        rintro e w' ⟨rfl, rfl⟩
        go_wp2_with fail
        refine (CI.out w3 C3.out).mono ?_
        rintro e w' ⟨rfl, rfl⟩
        go_wp2_with fail
        refine (K2.out w3).mono ?_
        rintro e w4 ⟨rfl, b4⟩
        have B4 := Lib.hid (B3.out.trans (b4.mono B3.out.size))
        have C4 := Lib.hid (C.out.below B4.out lt)
        clear b4
        go_wp2_with fail
        refine (CS.out w4 C4.out).mono ?_
        rintro e w5 ⟨rfl, b5⟩
        have B5 := Lib.hid (B4.out.trans (b5.mono B4.out.size))
        have C5 := Lib.hid (C.out.below B5.out lt)
        clear b5
        go_wp2_with fail
        refine (P1.out w5 C5.out).mono ?_
        rintro e w' ⟨rfl, rfl⟩
        go_wp2_with fail
        refine (P2.out w5).mono ?_
        rintro e w6 ⟨rfl, b6⟩
        have B6 := Lib.hid (B5.out.trans (b6.mono B5.out.size))
        have C6 := Lib.hid (C.out.below B6.out lt)
        clear b6
        go_wp2_with fail
        refine (KC.out w6 C6.out).mono ?_
        rintro e w' ⟨rfl, rfl⟩
        go_wp2_with fail
        refine (CA.out w6 C6.out).mono ?_
        rintro e w' ⟨rfl, rfl⟩
        go_wp2_with fail
        refine (P1.out w6 C6.out).mono ?_
        rintro e w' ⟨rfl, rfl⟩
        go_wp2
        go_ret
        exact ⟨rfl, B6.out⟩
      · have n4 := FN.out (by omega) hd
        have n5 : (c == d) = false := by simp; omega
        clear ho hd
        go_wp2_with fail
        refine (K1.out w3 C3.out).mono ?_
        rintro e w' ⟨rfl, rfl⟩
        go_wp2_with fail
        refine (CI.out w3 C3.out).mono ?_
        rintro e w' ⟨rfl, rfl⟩
        go_wp2_with fail
        refine (K2.out w3).mono ?_
        rintro e w4 ⟨rfl, b4⟩
        have B4 := Lib.hid (B3.out.trans (b4.mono B3.out.size))
        have C4 := Lib.hid (C.out.below B4.out lt)
        clear b4
        go_wp2_with fail
        refine (CS.out w4 C4.out).mono ?_
        rintro e w5 ⟨rfl, b5⟩
        have B5 := Lib.hid (B4.out.trans (b5.mono B4.out.size))
        have C5 := Lib.hid (C.out.below B5.out lt)
        clear b5
        go_wp2_with fail
        refine (P1.out w5 C5.out).mono ?_
        rintro e w' ⟨rfl, rfl⟩
        go_wp2_with fail
        refine (P2.out w5).mono ?_
        rintro e w6 ⟨rfl, b6⟩
        have B6 := Lib.hid (B5.out.trans (b6.mono B5.out.size))
        have C6 := Lib.hid (C.out.below B6.out lt)
        clear b6
        go_wp2_with fail
        refine (KC.out w6 C6.out).mono ?_
        rintro e w' ⟨rfl, rfl⟩
        go_wp2_with fail
        refine (CA.out w6 C6.out).mono ?_
        rintro e w' ⟨rfl, rfl⟩
        go_wp2_with fail
        refine (D1.out w6 C6.out).mono ?_
        rintro e w' ⟨rfl, rfl⟩
        go_wp2_with fail
        refine (P1.out w6 C6.out).mono ?_
        rintro e w' ⟨rfl, rfl⟩
        go_wp2
        go_ret
        exact ⟨rfl, B6.out⟩

theorem walk (a1 a2 : Option Addr) (len1 cap1 len2 cap2 : Nat) (w : World) (hl1 : len1 ≤ maxLen) (hl2 : len2 ≤ maxLen) (hB1 : draw.Bytes w a1 len1) (hB2 : draw.Bytes w a2 len2) (c : base.Cur w) : Calls Tryd.prog 3 #[.slice a1 len1 cap1, .slice a2 len2 cap2] w fun e w' => e = .returned (.bool true) ∧ Below w.heap.size w w' := by
  by_cases hb : 1048576 < len1 ∨ 1048576 < len2
  · exact walk_big a1 a2 len1 cap1 len2 cap2 w hl1 hl2 hb
  · exact walk_small draw.hurt a1 a2 len1 cap1 len2 cap2 w (by omega) (by omega) hB1 hB2 c

theorem isLaw : lift.IsLaw Rows.fnCodesSpec 2 1 := fun _ ds gs h1 h2 => match ds, h1 with | [_, _], _ => match gs, h2 with | [_], _ => rfl

theorem laid_met (os : Os) : laidMetH Tryd.prog Rows.fnCodesRow.laid ((World.doorLaid Tryd.prog 400 os).forCall (fun _ _ => 0) ⟨#[], #[.slice none 0 0, .slice none 0 0], []⟩).memory :=
  laidMetH_of_parts3 (fuel := 8) (laidMet_of_run' 8 (by kernel_rfl) (by kernel_rfl)) (by kernel_rfl) (by kernel_rfl)

theorem reads (os : Os) {H : Type} (enc : TypeId × Value → H) : ∃ gs places, DataW.whole enc Tryd.prog ((World.doorLaid Tryd.prog 400 os).forCall (fun _ _ => 0) ⟨#[], #[.slice none 0 0, .slice none 0 0], []⟩).memory Tryd.f3.params.toList Rows.fnCodesSpec.vars false (#[.slice none 0 0, .slice none 0 0] : Array Value).toList 8 = some ([.nil, .nil], gs, places) :=
  ⟨[Rows.laid_loop_example_g00714_impl_currencies], MemPlace.row ⟨0, 0, none⟩ 12, by kernel_rfl⟩

set_option maxRecDepth 100000 in
theorem lifted (os : Os) (started : os.Started) (H : Type) (enc : TypeId × Value → H) (F : Stop.Interp) :
    ReturnsInHanded {} Tryd.checked os 3 .any ((OpenSpec.ofChange Rows.fnCodesSpec).preRow enc Tryd.prog Tryd.f3 [] false Rows.fnCodesRow.laid) (((OpenSpec.ofChange Rows.fnCodesSpec).at F).post enc Tryd.prog Tryd.f3 false true false false) := by
  obtain ⟨gs, places, hx⟩ := reads os enc
  refine lift.law_lift (C := Tryd.checked) (tb := 4) base.own started (by kernel_rfl) Tryd.func3 base.laidOut (by kernel_rfl) (by kernel_rfl) (by kernel_rfl) Tryd.underlying4 (by rw [Tryd.params3]; exact isLaw)
    (witness_row_at (enc := enc) (C := Tryd.checked) false (World.doorLaid Tryd.prog 400 os) #[.slice none 0 0, .slice none 0 0] rfl (by kernel_rfl) (by kernel_rfl) (by kernel_rfl)
      (OpenSpec.preRow_of_cond 8 hx (by kernel_rfl) (fun k hk => by cases hk) (by kernel_rfl) (laid_met os))) ?_
  intro W b0 args ds p hval hA hL
  rw [Tryd.params3] at hA hval
  obtain ⟨v0, v1, d0, d1, p0, p1, rfl, rfl, rfl, h0, h1⟩ := trodAll_two hA
  obtain ⟨a, len, cap, rfl, hlen, hB⟩ := draw.open_code Tryd.underlying22 Tryd.underlying5 (by kernel_rfl) (hval 0 22 v0 rfl rfl) h0
  obtain ⟨a2, len2, cap2, rfl, hlen2, hB2⟩ := draw.open_code Tryd.underlying22 Tryd.underlying5 (by kernel_rfl) (hval 1 22 v1 rfl rfl) h1
  exact walk a a2 len cap len2 cap2 W hlen hlen2 hB hB2 (base.cur_one hL)

theorem said : Rows.FnCodesSaid :=
  OpenClaim.holds_of_cond 3 Tryd.f3 rfl rfl rfl rfl rfl rfl rfl ⟨rfl, rfl, rfl, rfl, rfl⟩ rfl rfl rfl rfl rfl (by kernel_rfl) Tryd.func3 (by kernel_rfl)
    (of_decide_eq_true (by kernel_rfl)) (by unfold Func.isWrapper; first | (rw [if_pos (by decide +kernel)]; kernel_rfl) | (rw [if_neg (by decide +kernel)]; exact ⟨rfl, rfl⟩))
    (fun os started H enc _ F => by rw [OpenClaim.pre_eq_preRow]; exact lifted os started H enc F)

theorem plain (f : FuncId) (fn : Func) (hf : Tryd.pinned.checked.prog.funcNamed "loop.example/g00714/laws.FnCodes" = some f) (hfn : Tryd.pinned.checked.prog.funcs[f]? = some fn) :
    false = Tryd.pinned.checked.prog.looks [] ∧ ∀ (j : Nat) t, fn.params[j]? = some t → Tryd.pinned.checked.prog.wantsStandIn t = false := by
  obtain rfl : f = 3 := Option.some.inj ((show Tryd.prog.funcNamed "loop.example/g00714/laws.FnCodes" = some 3 by kernel_rfl).symm.trans hf) |>.symm
  obtain rfl : fn = Tryd.f3 := (Option.some.inj (Tryd.func3.symm.trans hfn)).symm
  refine ⟨by kernel_rfl, fun j t ht => ?_⟩
  rw [Tryd.params3] at ht
  have hm : t ∈ [22, 22] := by simpa using Array.mem_of_getElem? ht
  have hall : ([22, 22].all fun u => !Tryd.prog.wantsStandIn u) = true := by kernel_rfl
  exact (show Tryd.prog.wantsStandIn t = false by simpa using List.all_eq_true.1 hall t hm)

theorem card : Rows.FnCodesCardSaid :=
  Claim7.holds_tied_plain_at .later [] _ _ _ _ said (fun _ h => by cases h) (by kernel_rfl) (fun _ h => by cases h) fnCodes_row_tie rfl ⟨rfl, rfl⟩ (by kernel_rfl) rfl plain (by kernel_rfl)
#print axioms card
end Go.Proofs.YtlpeadkkkmpccaaDoor.fnCodes
