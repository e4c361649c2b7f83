/-
  Plain helpers of this seat's proofs: the contracts of the two functions that sum a class. Conditions: none.
-/
import Derived.Test.YtnkdjnfbllkgiaaLgS
import Derived.Test.YtnkdjnfbllkgiaaLgI
namespace Go.Proofs.Ytnkdjnfbllkgiaa.base
open Go.ChangeShapes Go.WideShapes Go.ChangeAt Go.RowKit
open led (F5 z5)
open five (Row At)

set_option maxRecDepth 40000 in
set_option maxHeartbeats 4000000 in
theorem clsS (w : World) (a : Option Addr) (cap g : Nat) (l : List F5) (cl cu : Int) (r : Row w a cap g l) (hn : l.length ≤ 1048577) : Calls Try.prog 21 #[.slice a l.length cap, .int .i64 cl, .int .i64 cu] w (fun e w' => e = .returned (.int .i64 (led.clS l cl cu)) ∧ Below w.heap.size w w') := by
  have R := Lib.hid r
  have e1 := r.addr
  have m1 := r.room
  clear r
  obtain ⟨n, hnz⟩ : ∃ n, n = l.length := ⟨_, rfl⟩
  rw [← hnz] at hn e1 m1 ⊢
  have HNZ := Lib.hid hnz
  clear hnz
  have CL : ∀ w', Below w.heap.size w w' → Calls Try.prog 17 #[.slice a n cap] w' (fun e w'' => e = .returned (.bool (led.lv l)) ∧ Below w'.heap.size w' w'') := fun w' hb => by rw [HNZ.out]; exact lgS w' a cap g l (R.out.keep fun h => hb.block g (R.out.lt h)) (by rw [← HNZ.out]; exact hn)
  cases hv : led.lv l with
  | false =>
    rw [hv] at CL
    have E := Lib.hid (led.clS_f (a := cl) (c := cu) hv)
    have CLh := Lib.hid CL
    have hp : 0 < n := by
      rcases Nat.eq_zero_or_pos n with h | h
      · exact absurd hv (by rw [led.lv_t (l := l) ⟨by rw [← HNZ.out]; omega, fun i hi => absurd hi (by rw [← HNZ.out]; omega)⟩]; decide)
      · exact h
    clear e1 hv CL
    go_enter Try.func21, Try.ntmps21
    go_wp2
    go_loopw [7, 8] (fun sv i wr => wr = w ∧ i = .int .i64 0 ∧ sv = .int .i64 0) (fun _ _ _ => 0)
    case atStart => exact ⟨rfl, rfl, rfl⟩
    case round =>
      obtain ⟨rfl, rfl, rfl⟩ := hrel
      have z1 : (0 : Int) < (n : Int) := by omega
      have u1 : decide (0 < n) = true := by simp; omega
      go_wp2_with fail
      refine (CLh.out _ (Below.refl _ _)).mono ?_
      rintro e w1 ⟨rfl, b1⟩
      have B1 := Lib.hid b1
      clear b1
      go_wp2
      go_ret
      exact ⟨by rw [E.out]; rfl, B1.out⟩
  | true =>
    rw [hv] at CL
    have LVT := Lib.hid hv
    have E := Lib.hid (led.clS_t (a := cl) (c := cu) hv)
    have CLh := Lib.hid CL
    clear hv CL
    go_enter Try.func21, Try.ntmps21
    go_wp2
    go_loopw [7, 8] (fun sv i wr => Below w.heap.size w wr ∧ ∃ k : Nat, k ≤ n ∧ i = .int .i64 k ∧ sv = .int .i64 (led.csm l cl cu k)) (fun _ i _ => n - (intOf i).toNat)
    case atStart => exact ⟨Below.refl _ _, 0, by omega, rfl, rfl⟩
    case round =>
      obtain ⟨hB, k, hk, rfl, rfl⟩ := hrel
      have BB := Lib.hid hB
      by_cases hlt : k < n
      · have HLT := Lib.hid (show k < l.length from by rw [← HNZ.out]; exact hlt)
        obtain rfl := e1 (by omega)
        have GL := Lib.hid (R.out.lt (by rw [← HNZ.out]; omega))
        have q1 := R.out.cells k HLT.out
        obtain ⟨x, hx⟩ : ∃ x, x = l.getD k z5 := ⟨_, rfl⟩
        have HX := Lib.hid hx
        have hfar := led.inR_iff.1 ((led.lv_iff.1 LVT.out).2 k HLT.out).far
        rw [← hx] at q1 hfar
        have f1 : -1000000000000000 ≤ x.2.2.2.2 := hfar.1
        have f2 : x.2.2.2.2 ≤ 1000000000000000 := hfar.2
        clear hx hfar
        have sb := led.csm_small (led.lv_iff.1 LVT.out) cl cu (k := k) (Nat.le_of_lt HLT.out)
        have SS1 : led.csm l cl cu (k + 1) = led.csm l cl cu k + (if x.1 = cl ∧ x.2.2.2.1 = cu then x.2.2.2.2 else 0) := by rw [HX.out]; rfl
        have S1 := Lib.hid SS1
        clear SS1
        obtain ⟨s, hs⟩ : ∃ s, s = led.csm l cl cu k := ⟨_, rfl⟩
        rw [← hs] at sb
        have s1 := sb.1
        have s2 := sb.2
        have HS := Lib.hid hs
        clear sb hs
        rw [← HS.out]
        have Q1 := Lib.hid q1
        have z1 : (k : Int) < (n : Int) := by omega
        have u1 : decide (k < n) = true := by simp; omega
        clear hB e1 q1
        by_cases h1 : x.1 = cl
        · by_cases h2 : x.2.2.2.1 = cu
          · have S2 := Lib.hid (show led.csm l cl cu (k + 1) = s + x.2.2.2.2 from by rw [S1.out, ← HS.out, if_pos ⟨h1, h2⟩])
            have t1 : (x.1 == cl) = true := by simp [h1]
            have t2 : (x.2.2.2.1 == cu) = true := by simp [h2]
            clear h1 h2
            go_wp2_with fail
            refine (CLh.out wr BB.out).mono ?_
            rintro e w1 ⟨rfl, b1⟩
            have B1 := Lib.hid (BB.out.trans (b1.mono BB.out.size))
            obtain ⟨x1, x2, x3, x4, x5⟩ := Q1.out.keep (B1.out.block g GL.out)
            clear b1
            go_wp2
            go_roundw
            case rel => exact ⟨B1.out, k + 1, by omega, by go_num, by rw [S2.out]⟩
            case measure => simp [intOf]; omega
          · have S2 := Lib.hid (show led.csm l cl cu (k + 1) = s from by rw [S1.out, ← HS.out, if_neg (fun h => h2 h.2)]; omega)
            have t1 : (x.1 == cl) = true := by simp [h1]
            have t2 : (x.2.2.2.1 == cu) = false := by simp [h2]
            clear h1 h2
            go_wp2_with fail
            refine (CLh.out wr BB.out).mono ?_
            rintro e w1 ⟨rfl, b1⟩
            have B1 := Lib.hid (BB.out.trans (b1.mono BB.out.size))
            obtain ⟨x1, x2, x3, x4, x5⟩ := Q1.out.keep (B1.out.block g GL.out)
            clear b1
            go_wp2
            go_roundw
            case rel => exact ⟨B1.out, k + 1, by omega, by go_num, by rw [S2.out]⟩
            case measure => simp [intOf]; omega
        · have S2 := Lib.hid (show led.csm l cl cu (k + 1) = s from by rw [S1.out, ← HS.out, if_neg (fun h => h1 h.1)]; omega)
          have t1 : (x.1 == cl) = false := by simp [h1]
          clear h1
          go_wp2_with fail
          refine (CLh.out wr BB.out).mono ?_
          rintro e w1 ⟨rfl, b1⟩
          have B1 := Lib.hid (BB.out.trans (b1.mono BB.out.size))
          obtain ⟨x1, x2, x3, x4, x5⟩ := Q1.out.keep (B1.out.block g GL.out)
          clear b1
          go_wp2
          go_roundw
          case rel => exact ⟨B1.out, k + 1, by omega, by go_num, by rw [S2.out]⟩
          case measure => simp [intOf]; omega
      · have u1 : decide (k < n) = false := by simp; omega
        obtain rfl : k = n := by omega
        clear hB e1
        go_wp2
        go_ret
        exact ⟨by rw [E.out, ← HNZ.out]; rfl, BB.out⟩

set_option maxRecDepth 40000 in
set_option maxHeartbeats 4000000 in
theorem clsI (w : World) (a : Option Addr) (cap g : Nat) (l : List F5) (cl cu : Int) (r : Row w a cap g l) (hn : l.length ≤ 1048577) : Calls Try.prog 22 #[.slice a l.length cap, .int .i64 cl, .int .i64 cu] w (fun e w' => e = .returned (.int .i64 (led.clS l cl cu)) ∧ Below w.heap.size w w') := by
  have R := Lib.hid r
  have e1 := r.addr
  have m1 := r.room
  clear r
  obtain ⟨n, hnz⟩ : ∃ n, n = l.length := ⟨_, rfl⟩
  rw [← hnz] at hn e1 m1 ⊢
  have HNZ := Lib.hid hnz
  clear hnz
  have CL : ∀ w', Below w.heap.size w w' → Calls Try.prog 19 #[.slice a n cap] w' (fun e w'' => e = .returned (.bool (led.lv l)) ∧ Below w'.heap.size w' w'') := fun w' hb => by rw [HNZ.out]; exact lgI w' a cap g l (R.out.keep fun h => hb.block g (R.out.lt h)) (by rw [← HNZ.out]; exact hn)
  cases hv : led.lv l with
  | false =>
    rw [hv] at CL
    have E := Lib.hid (led.clS_f (a := cl) (c := cu) hv)
    have CLh := Lib.hid CL
    clear e1 hv CL
    go_enter Try.func22, Try.ntmps22
    go_wp2_with fail
    refine (CLh.out w (Below.refl _ _)).mono ?_
    rintro e w1 ⟨rfl, b1⟩
    have B1 := Lib.hid b1
    clear b1
    go_wp2
    go_ret
    exact ⟨by rw [E.out]; rfl, B1.out⟩
  | true =>
    rw [hv] at CL
    have LVT := Lib.hid hv
    have E := Lib.hid (led.clS_t (a := cl) (c := cu) hv)
    have CLh := Lib.hid CL
    clear hv CL
    go_enter Try.func22, Try.ntmps22
    go_wp2_with fail
    refine (CLh.out w (Below.refl _ _)).mono ?_
    rintro e w1 ⟨rfl, b1⟩
    have B1 := Lib.hid b1
    clear b1
    go_wp2
    go_loopw [7, 15] (fun sv i wr => Below w.heap.size w wr ∧ ∃ k : Nat, k ≤ n ∧ i = .int .i64 k ∧ sv = .int .i64 (led.csm l cl cu k)) (fun _ i _ => n - (intOf i).toNat)
    case atStart => exact ⟨B1.out, 0, by omega, rfl, rfl⟩
    case round =>
      obtain ⟨hB, k, hk, rfl, rfl⟩ := hrel
      have BB := Lib.hid hB
      by_cases hlt : k < n
      · have HLT := Lib.hid (show k < l.length from by rw [← HNZ.out]; exact hlt)
        obtain rfl := e1 (by omega)
        have gl := R.out.lt (by rw [← HNZ.out]; omega)
        have q1 := (R.out.cells k HLT.out).keep (hB.block g gl)
        obtain ⟨x, hx⟩ : ∃ x, x = l.getD k z5 := ⟨_, rfl⟩
        have HX := Lib.hid hx
        have hfar := led.inR_iff.1 ((led.lv_iff.1 LVT.out).2 k HLT.out).far
        rw [← hx] at q1 hfar
        have f1 : -1000000000000000 ≤ x.2.2.2.2 := hfar.1
        have f2 : x.2.2.2.2 ≤ 1000000000000000 := hfar.2
        clear hx hfar
        have sb := led.csm_small (led.lv_iff.1 LVT.out) cl cu (k := k) (Nat.le_of_lt HLT.out)
        have SS1 : led.csm l cl cu (k + 1) = led.csm l cl cu k + (if x.1 = cl ∧ x.2.2.2.1 = cu then x.2.2.2.2 else 0) := by rw [HX.out]; rfl
        have S1 := Lib.hid SS1
        clear SS1
        obtain ⟨s, hs⟩ : ∃ s, s = led.csm l cl cu k := ⟨_, rfl⟩
        rw [← hs] at sb
        have s1 := sb.1
        have s2 := sb.2
        have HS := Lib.hid hs
        clear sb hs
        rw [← HS.out]
        obtain ⟨x1, x2, x3, x4, x5⟩ := q1
        have z1 : (k : Int) < (n : Int) := by omega
        have u1 : decide (k < n) = true := by simp; omega
        clear hB gl e1
        by_cases h1 : x.1 = cl
        · by_cases h2 : x.2.2.2.1 = cu
          · have S2 := Lib.hid (show led.csm l cl cu (k + 1) = s + x.2.2.2.2 from by rw [S1.out, ← HS.out, if_pos ⟨h1, h2⟩])
            have t1 : (x.1 == cl) = true := by simp [h1]
            have t2 : (x.2.2.2.1 == cu) = true := by simp [h2]
            clear h1 h2
            go_wp2
            go_roundw
            case rel => exact ⟨five.Grew.step BB.out (Nat.le_refl _) (five.Grew.alloc wr _), k + 1, by omega, by go_num, by rw [S2.out]⟩
            case measure => simp [intOf]; omega
          · have S2 := Lib.hid (show led.csm l cl cu (k + 1) = s from by rw [S1.out, ← HS.out, if_neg (fun h => h2 h.2)]; omega)
            have t1 : (x.1 == cl) = true := by simp [h1]
            have t2 : (x.2.2.2.1 == cu) = false := by simp [h2]
            clear h1 h2
            go_wp2
            go_roundw
            case rel => exact ⟨five.Grew.step BB.out (Nat.le_refl _) (five.Grew.alloc wr _), k + 1, by omega, by go_num, by rw [S2.out]⟩
            case measure => simp [intOf]; omega
        · have S2 := Lib.hid (show led.csm l cl cu (k + 1) = s from by rw [S1.out, ← HS.out, if_neg (fun h => h1 h.1)]; omega)
          have t1 : (x.1 == cl) = false := by simp [h1]
          clear h1
          go_wp2
          go_roundw
          case rel => exact ⟨five.Grew.step BB.out (Nat.le_refl _) (five.Grew.alloc wr _), k + 1, by omega, by go_num, by rw [S2.out]⟩
          case measure => simp [intOf]; omega
      · have u1 : decide (k < n) = false := by simp; omega
        obtain rfl : k = n := by omega
        clear hB e1
        go_wp2
        go_ret
        exact ⟨by rw [E.out, ← HNZ.out]; rfl, BB.out⟩
end Go.Proofs.Ytnkdjnfbllkgiaa.base
