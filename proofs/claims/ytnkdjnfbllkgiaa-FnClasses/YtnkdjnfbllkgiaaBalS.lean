/-
  Plain helpers of this seat's proofs: the contract of the model's BalanceOf. Conditions: none.
-/
import Derived.Test.YtnkdjnfbllkgiaaBalI
import Derived.Test.YtnkdjnfbllkgiaaLgS
import Derived.WalkSmall
namespace Go.Proofs.Ytnkdjnfbllkgiaa.mp
open Go.ChangeShapes Go.WideShapes Go.ChangeAt Go.RowKit
open led (F5 z5 nn wn same at4 addE Apart addK addAll)
open five (Row At)
set_option maxRecDepth 40000 in
set_option maxHeartbeats 4000000 in
theorem blS (w : World) (a : Option Addr) (cap g : Nat) (l : List F5) (p : F5) (r : Row w a cap g l) (hn : l.length ≤ 1048577) :
    Calls Try.prog 29 #[.slice a l.length cap, .agg #[.int .i64 p.1, .int .i64 p.2.1, .int .i64 p.2.2.1], .int .i64 p.2.2.2.1] w fun e w' => e = .returned (.int .i64 (blv l p)) ∧ Below w.heap.size w w' := by
  have R := Lib.hid r
  have e1 := r.addr
  have m1 := r.room
  obtain ⟨n, hnz⟩ : ∃ n, n = l.length := ⟨_, rfl⟩
  have HNZ := Lib.hid hnz
  obtain ⟨W0, hW0⟩ : ∃ W0, W0 = w.alloc (.cells #[.int .i64 p.1, .int .i64 p.2.1, .int .i64 p.2.2.1] 25) := ⟨_, rfl⟩
  have K0 := Lib.hid (show Below (w.heap.size + 1) (w.alloc (.cells #[.int .i64 p.1, .int .i64 p.2.1, .int .i64 p.2.2.1] 25)) W0 from by rw [hW0]; exact five.box_refl w _)
  have KEEP := Lib.hid (show ∀ w', Below (w.heap.size + 1) (w.alloc (.cells #[.int .i64 p.1, .int .i64 p.2.1, .int .i64 p.2.2.1] 25)) w' → Row w' a cap g l from fun w' hb => R.out.keep fun h => (five.below_box hb).block g (R.out.lt h))
  have CL := Lib.hid (show ∀ w', Below (w.heap.size + 1) (w.alloc (.cells #[.int .i64 p.1, .int .i64 p.2.1, .int .i64 p.2.2.1] 25)) w' → Calls Try.prog 17 #[.slice a n cap] w' (fun e w'' => e = .returned (.bool (led.lv l)) ∧ Below w'.heap.size w' w'') from fun w' hb => by rw [HNZ.out]; exact base.lgS w' a cap g l (KEEP.out w' hb) hn)
  rw [← hnz] at hn e1 m1 ⊢
  clear hnz r
  cases hv : led.lv l with
  | false =>
    rw [hv] at CL
    have E := Lib.hid (blv_f (p := p) hv)
    have hp : 0 < n := by
      rcases Nat.eq_zero_or_pos n with h | h
      · exact absurd hv (by rw [led.lv_t (l := l) ⟨by rw [← HNZ.out]; omega, fun i hi => absurd hi (by rw [← HNZ.out]; omega)⟩]; decide)
      · exact h
    clear e1 hv
    go_enter Try.func29, Try.ntmps29
    go_wp2
    rw [← hW0]
    clear hW0
    go_loopw [7] (fun i wr => wr = W0 ∧ i = .int .i64 0) (fun _ _ => 0)
    case atStart => exact ⟨rfl, rfl⟩
    case round =>
      obtain ⟨rfl, rfl⟩ := hrel
      have z1 : (0 : Int) < (n : Int) := by omega
      have u1 : decide (0 < n) = true := by simp; omega
      go_wp2_with fail
      refine (CL.out _ K0.out).mono ?_
      rintro e w1 ⟨rfl, b1⟩
      have K1 := Lib.hid (five.box_step K0.out b1)
      clear b1
      go_wp2
      go_ret
      exact ⟨by rw [E.out]; rfl, five.below_box K1.out⟩
  | true =>
    rw [hv] at CL
    have LVT := Lib.hid (led.lv_iff.1 hv)
    have E := Lib.hid (blv_t (p := p) hv)
    clear hv
    go_enter Try.func29, Try.ntmps29
    go_wp2
    rw [← hW0]
    clear hW0
    go_loopw [7] (fun i wr => Hid (Below (w.heap.size + 1) (w.alloc (.cells #[.int .i64 p.1, .int .i64 p.2.1, .int .i64 p.2.2.1] 25)) wr) ∧ ∃ k : Nat, k ≤ n ∧ i = .int .i64 k ∧ Hid (∀ i, i < k → ¬ same (l.getD i z5) p)) (fun i _ => n - (intOf i).toNat)
    case atStart => exact ⟨K0, 0, by omega, rfl, Lib.hid fun i hi => absurd hi (by omega)⟩
    case round =>
      obtain ⟨KK, k, hk, rfl, NO⟩ := hrel
      by_cases hlt : k < n
      · have HLT := Lib.hid (show k < l.length from by rw [← HNZ.out]; exact hlt)
        obtain rfl := e1 (by omega)
        have z1 : (k : Int) < (n : Int) := by omega
        have u1 : decide (k < n) = true := by simp; omega
        clear e1
        go_wp2_with fail
        refine (CL.out _ KK.out).mono ?_
        rintro e w1 ⟨rfl, b1⟩
        have K1 := Lib.hid (five.box_step KK.out b1)
        clear b1 KK
        have q1 := (KEEP.out w1 K1.out).cells k HLT.out
        obtain ⟨x, hx⟩ : ∃ x, x = l.getD k z5 := ⟨_, rfl⟩
        rw [← hx] at q1
        have HX := Lib.hid hx
        clear hx
        obtain ⟨x1, x2, x3, x4, x5⟩ := q1
        have b0 := five.box_cell K1.out 0 rfl
        have b1 := five.box_cell K1.out 1 rfl
        have b2 := five.box_cell K1.out 2 rfl
        by_cases hs : same x p
        · have RES := Lib.hid (show at4 l p = x.2.2.2.2 from led.at4_hit (led.LV_SS LVT.out).apart (by rw [HX.out, List.getD_eq_getElem?_getD, List.getElem?_eq_getElem HLT.out]; rfl) hs)
          have t0 : (x.1 == p.1) = true := by simp [hs.1]
          have t1 : (x.2.1 == p.2.1) = true := by simp [hs.2.1]
          have t2 : (x.2.2.1 == p.2.2.1) = true := by simp [hs.2.2.1]
          have t3 : (x.2.2.2.1 == p.2.2.2.1) = true := by simp [hs.2.2.2]
          clear hs
          go_wp2_with fail
          go_quiet (fail)
          go_wp2
          go_ret
          exact ⟨by rw [E.out, RES.out]; rfl, five.below_box (below_drewN K1.out _)⟩
        · have NX := Lib.hid (show ∀ i, i < k + 1 → ¬ same (l.getD i z5) p from fun i hi => by
            rcases Nat.lt_succ_iff_lt_or_eq.1 hi with h | rfl
            · exact NO.out i h
            · rw [← HX.out]; exact hs)
          cases t0 : (x.1 == p.1) with
          | false =>
            clear hs
            go_wp2_with fail
            go_quiet (fail)
            go_wp2
            go_roundw
            case rel => exact ⟨Lib.hid (below_drewN K1.out _), k + 1, by omega, by go_num, NX⟩
            case measure => simp [intOf]; omega
          | true =>
            cases t1 : (x.2.1 == p.2.1) with
            | false =>
              clear hs
              go_wp2_with fail
              go_quiet (fail)
              go_wp2
              go_roundw
              case rel => exact ⟨Lib.hid (below_drewN K1.out _), k + 1, by omega, by go_num, NX⟩
              case measure => simp [intOf]; omega
            | true =>
              cases t2 : (x.2.2.1 == p.2.2.1) with
              | false =>
                clear hs
                go_wp2_with fail
                go_quiet (fail)
                go_wp2
                go_roundw
                case rel => exact ⟨Lib.hid (below_drewN K1.out _), k + 1, by omega, by go_num, NX⟩
                case measure => simp [intOf]; omega
              | true =>
                have t3 : (x.2.2.2.1 == p.2.2.2.1) = false := by
                  cases t3 : (x.2.2.2.1 == p.2.2.2.1) with
                  | false => rfl
                  | true => exact absurd ⟨by simpa using t0, by simpa using t1, by simpa using t2, by simpa using t3⟩ hs
                clear hs
                go_wp2_with fail
                go_quiet (fail)
                go_wp2
                go_roundw
                case rel => exact ⟨Lib.hid (below_drewN K1.out _), k + 1, by omega, by go_num, NX⟩
                case measure => simp [intOf]; omega
      · have u1 : decide (k < n) = false := by simp; omega
        obtain rfl : k = n := by omega
        have RES := Lib.hid (show at4 l p = 0 from led.at4_miss fun x hx => by
          obtain ⟨i, hi, rfl⟩ := led.mem_getD hx
          exact NO.out i (by rw [HNZ.out]; exact hi))
        clear e1
        go_wp2
        go_ret
        exact ⟨by rw [E.out, RES.out]; rfl, five.below_box KK.out⟩
end Go.Proofs.Ytnkdjnfbllkgiaa.mp
