/-
  Plain helpers of this seat's proofs: the contract of the model's code of a batch. Conditions: none.
-/
import Derived.Test.YtnkdjnfbllkgiaaPsI
namespace Go.Proofs.Ytnkdjnfbllkgiaa.base
open Go.ChangeShapes Go.WideShapes Go.ChangeAt Go.RowKit
open led (F5 z5 nn)
open five (Row At)
theorem csk_bk {b : List F5} (c : Nat) : ∀ {k : Nat}, Bk b k → -(1000000000000 * (k : Int)) ≤ led.csk b c k ∧ led.csk b c k ≤ 1000000000000 * (k : Int)
  | 0, _ => by simp [led.csk]
  | k + 1, h => by
    have h1 := csk_bk c (k := k) fun i hi => h i (by omega)
    have h2 := led.inR_iff.1 (h k (by omega)).2
    rw [led.csk]
    split <;> omega
/-- The code of a batch. -/
structure Bco (b : List F5) (c : Int) : Prop where
  c2 : ¬ led.BV b → c = 2
  c3 : led.BV b → ¬ led.ZV b → c = 3
  c0 : led.BV b → led.ZV b → c = 0
theorem bco2 {b : List F5} (h : ¬ led.BV b) : Bco b 2 := ⟨fun _ => rfl, fun q => absurd q h, fun q => absurd q h⟩
theorem bco3 {b : List F5} (q : led.BV b) (h : ¬ led.ZV b) : Bco b 3 := ⟨fun n => absurd q n, fun _ _ => rfl, fun _ q => absurd q h⟩
theorem bco0 {b : List F5} (q : led.BV b) (h : led.ZV b) : Bco b 0 := ⟨fun n => absurd q n, fun _ n => absurd h n, fun _ _ => rfl⟩
def Coded (w : World) (b : List F5) (e : Ending) (w' : World) : Prop := ∃ c, e = .returned (.int .i64 c) ∧ Bco b c ∧ Below w.heap.size w w'
set_option maxRecDepth 40000 in
set_option maxHeartbeats 4000000 in
theorem bvS (w : World) (a : Option Addr) (cap g : Nat) (l : List F5) (r : Row w a cap g l) (hn : l.length ≤ 1048577) : Calls Try.prog 52 #[.slice a l.length cap] w (Coded w l) := by
  have R := Lib.hid r
  have e1 := r.addr
  have m1 := r.room
  clear r
  obtain ⟨n, hnz⟩ : ∃ n, n = l.length := ⟨_, rfl⟩
  rw [← hnz] at hn e1 m1 ⊢
  have HNZ := Lib.hid hnz
  clear hnz
  by_cases h20 : 20 < n
  · have t1 : decide ((20 : Int) < (n : Int)) = true := by simp; omega
    have E := Lib.hid (show ¬ led.BV l from fun h => by have := h.1; rw [← HNZ.out] at this; omega)
    clear e1
    go_enter Try.func52, Try.ntmps52
    go_wp2
    go_ret
    exact ⟨2, rfl, bco2 E.out, Below.refl _ _⟩
  · have t1 : decide ((20 : Int) < (n : Int)) = false := by simp; omega
    obtain ⟨i0, hi, hz0, hz1, hz2⟩ := info_parts infoI
    go_enter Try.func52, Try.ntmps52
    go_wp2_with (at_make; refine wpList_make_full _ rfl _ _ 37 rfl w.heap.size 2 i0 (.int .i64 0) 1 Try.underlying37 hi hz0 hz1 _ _ _ _ 6 rfl rfl rfl rfl ?b2 ?b3 (Nat.le_refl _) ?_)
    case b2 => (try rw [hz2]); omega
    case b3 => unfold maxLen; omega
    intro w0 hown0 hgrow0
    obtain ⟨⟨A0, hA0, hv0⟩, hg0, _⟩ := five.Blk.of_owns hown0
    have BL0 := Lib.hid hA0
    have Z0 := Lib.hid (show ∀ j, j < 6 → A0 j = .int .i64 (led.csk l j 0) from fun j hj => by
      have := hv0 j (by omega)
      rw [toList_madeCells_one, List.getElem?_replicate, if_pos (by omega)] at this
      exact (Option.some.inj this).symm)
    have B0 := Lib.hid ((Below.refl w.heap.size w).grown hgrow0 (Nat.le_refl _) (fun k h => by cases h))
    clear hown0 hgrow0 hA0 hg0 hi hz0 hz1 hz2 hv0
    go_wp2
    go_loopw [4] (fun iv wr => Hid (Below w.heap.size w wr) ∧ ∃ (k : Nat) (A : Nat → Value), k ≤ n ∧ iv = .int .i64 k ∧ Hid (five.Blk wr w.heap.size 6 A) ∧ Hid (∀ j, j < 6 → A j = .int .i64 (led.csk l j k)) ∧ Hid (Bk l k)) (fun iv _ => n - (intOf iv).toNat)
    case atStart => exact ⟨B0, 0, A0, by omega, rfl, BL0, Z0, Lib.hid fun i hi => absurd hi (by omega)⟩
    case round =>
      obtain ⟨BB, k, A, hk, rfl, AA, DD, OK⟩ := hrel
      by_cases hlt : k < n
      · have HLT := Lib.hid (show k < l.length from by rw [← HNZ.out]; exact hlt)
        obtain rfl := e1 (by omega)
        have gl := R.out.lt (by rw [← HNZ.out]; omega)
        have GL := Lib.hid gl
        have Q1 := Lib.hid ((R.out.cells k HLT.out).keep (BB.out.block g gl))
        obtain ⟨x, hx⟩ : ∃ x, x = l.getD k z5 := ⟨_, rfl⟩
        rw [← hx] at Q1
        have HX := Lib.hid hx
        clear hx gl e1
        obtain ⟨x1, x2, x3, x4, x5⟩ := Q1.out
        have z1 : (k : Int) < (n : Int) := by omega
        have u1 : decide (k < n) = true := by simp; omega
        have CA := Lib.hid (acctS x.1 x.2.1 x.2.2.1 wr)
        cases ha : led.acct x.1 x.2.1 x.2.2.1 with
        | false =>
          have E := Lib.hid (show ¬ led.BV l from fun h => by have := (h.2 k HLT.out).1; rw [← HX.out] at this; unfold led.plok at this; rw [ha] at this; cases this)
          rw [ha] at CA
          clear ha
          go_wp2_with fail
          refine CA.out.mono ?_
          rintro e w2 ⟨rfl, b2⟩
          have B2 := Lib.hid (five.Grew.step BB.out (Nat.le_refl _) b2)
          clear b2
          go_wp2
          go_ret
          exact ⟨2, rfl, bco2 E.out, B2.out⟩
        | true =>
          have HA := Lib.hid ha
          rw [ha] at CA
          clear ha
          go_wp2_with fail
          refine CA.out.mono ?_
          rintro e w2 ⟨rfl, b2⟩
          have B2 := Lib.hid (five.Grew.step BB.out (Nat.le_refl _) b2)
          have A2 := Lib.hid (AA.out.below b2.below AA.out.lt)
          have Q2 := Lib.hid (Q1.out.keep (w' := w2) (b2.below.block g Q1.out.lt))
          clear b2 x1 x2 x3 x4 x5
          obtain ⟨x1, x2, x3, x4, x5⟩ := Q2.out
          have CC := fun W => curS x.2.2.2.1 W
          cases hc : led.inR x.2.2.2.1 0 5 with
          | false =>
            have E := Lib.hid (show ¬ led.BV l from fun h => by have := (h.2 k HLT.out).1; rw [← HX.out] at this; unfold led.plok at this; rw [hc, Bool.and_false] at this; cases this)
            rw [hc] at CC
            clear hc
            go_wp2_with fail
            refine (CC _).mono ?_
            rintro e w3 ⟨rfl, rfl⟩
            clear CC
            go_wp2
            go_ret
            exact ⟨2, rfl, bco2 E.out, B2.out⟩
          | true =>
            have HC0 := Lib.hid hc
            have cur := led.inR_iff.1 hc
            rw [hc] at CC
            clear hc
            go_wp2_with fail
            refine (CC _).mono ?_
            rintro e w3 ⟨rfl, rfl⟩
            clear CC
            have CM := fun W => amtS x.2.2.2.2 W
            cases hm : led.inR x.2.2.2.2 (-1000000000000) 1000000000000 with
            | false =>
              have E := Lib.hid (show ¬ led.BV l from fun h => by have := (h.2 k HLT.out).2; rw [← HX.out] at this; unfold nn at this; rw [hm] at this; cases this)
              rw [hm] at CM
              clear hm cur
              go_wp2_with fail
              refine (CM _).mono ?_
              rintro e w3 ⟨rfl, rfl⟩
              clear CM
              go_wp2
              go_ret
              exact ⟨2, rfl, bco2 E.out, B2.out⟩
            | true =>
              have OK1 := Lib.hid (show Bk l (k + 1) from fun i hi => by
                rcases Nat.lt_succ_iff_lt_or_eq.1 hi with h | rfl
                · exact OK.out i h
                · rw [← HX.out]; exact ⟨by unfold led.plok; rw [HA.out, HC0.out]; rfl, hm⟩)
              have f0 := led.inR_iff.1 hm
              have f1 := f0.1
              have f2 := f0.2
              rw [hm] at CM
              clear hm f0
              go_wp2_with fail
              refine (CM _).mono ?_
              rintro e w3 ⟨rfl, rfl⟩
              clear CM
              obtain ⟨c, hc⟩ : ∃ c : Nat, x.2.2.2.1 = (c : Int) := Int.eq_ofNat_of_zero_le cur.1
              have c5 : c < 6 := by omega
              have sb := csk_bk (b := l) c OK.out
              obtain ⟨s, hs⟩ : ∃ s, s = led.csk l c k := ⟨_, rfl⟩
              rw [← hs] at sb
              have s1 : -20000000000000 ≤ s := by omega
              have s2 : s ≤ 20000000000000 := by omega
              have HS := Lib.hid hs
              clear sb hs cur
              rw [hc] at x4
              have HC := Lib.hid hc
              clear hc
              have o1 := (A2.out.cell c c5).trans (congrArg some (DD.out c c5))
              rw [← HS.out] at o1
              have o2 := A2.out.free c
              have c6 : (c : Int) < 6 := by omega
              have NXT := Lib.hid (show ∀ j, j < 6 → five.upd A c (.int .i64 (s + x.2.2.2.2)) j = .int .i64 (led.csk l j (k + 1)) from fun j hj => by
                unfold five.upd
                rw [led.csk, ← HX.out, HC.out]
                by_cases e : j = c
                · subst e; rw [if_pos rfl, if_pos rfl, HS.out]; rfl
                · rw [if_neg e, if_neg (by omega), DD.out j hj, Int.add_zero])
              have mixed : Try.prog.follows .mixedOrders = true := Try.checked.mixed
              go_wp2_with fail
              go_still_tail 21, mixed
              change wpList _ _ _ _ _ w2.drew
              have A3 := Lib.hid (A2.out.keep (w' := w2.drew) rfl (Nat.le_refl _))
              have B3 := Lib.hid B2.out.drew
              have o1 := (A3.out.cell c c5).trans (congrArg some (DD.out c c5))
              have o2 := A3.out.free c
              clear x1 x2 x3 x4 x5
              generalize w2.drew = w4 at A3 B3 o1 o2 ⊢
              go_wp2
              go_roundw
              case rel => exact ⟨Lib.hid (B3.out.setCell (p := ⟨w.heap.size, c, none⟩) (Nat.le_refl _) _), k + 1, _, by omega, by go_num, Lib.hid (A3.out.set c5 _), NXT, OK1⟩
              case measure => simp [intOf]; omega
      · have u1 : decide (k < n) = false := by simp; omega
        obtain rfl : k = n := by omega
        have BVT := Lib.hid (show led.BV l from ⟨by rw [← HNZ.out]; omega, fun i hi => OK.out i (by rw [HNZ.out]; exact hi)⟩)
        clear e1
        go_wp2
        go_loopw [5] (fun iv wx => wx = wr ∧ ∃ j : Nat, j ≤ 6 ∧ iv = .int .i64 j ∧ Hid (∀ i, i < j → led.csk l i l.length = 0)) (fun iv _ => 6 - (intOf iv).toNat)
        case atStart => exact ⟨rfl, 0, by omega, rfl, Lib.hid fun i hi => absurd hi (by omega)⟩
        case round =>
          obtain ⟨rfl, j, hj, rfl, ZZ⟩ := hrel
          by_cases hl6 : j < 6
          · have o1 := (AA.out.cell j hl6).trans (congrArg some (DD.out j hl6))
            obtain ⟨s, hs⟩ : ∃ s, s = led.csk l j k := ⟨_, rfl⟩
            rw [← hs] at o1
            have HS := Lib.hid (show s = led.csk l j l.length from by rw [hs, HNZ.out])
            clear hs
            have u2 : decide ((j : Int) < 6) = true := by simp; omega
            have z2 : (j : Int) < 6 := by omega
            by_cases h0 : s = 0
            · have NX := Lib.hid (show ∀ i, i < j + 1 → led.csk l i l.length = 0 from fun i hi => by
                rcases Nat.lt_succ_iff_lt_or_eq.1 hi with h | rfl
                · exact ZZ.out i h
                · rw [← HS.out]; exact h0)
              have t0 : (s != 0) = false := by simp [h0]
              clear h0
              go_wp2
              go_roundw
              case rel => exact ⟨trivial, j + 1, by omega, by go_num, NX⟩
              case measure => simp [intOf]; omega
            · have NZ := Lib.hid (mp.zv_not hl6 (by rw [← HS.out]; exact h0))
              have t0 : (s != 0) = true := by simp [h0]
              clear h0
              go_wp2
              go_ret
              exact ⟨3, rfl, bco3 BVT.out NZ.out, BB.out⟩
          · obtain rfl : j = 6 := by omega
            have ZT := Lib.hid (mp.zv_of ZZ.out)
            go_wp2
            go_ret
            exact ⟨0, rfl, bco0 BVT.out ZT.out, BB.out⟩
end Go.Proofs.Ytnkdjnfbllkgiaa.base
