/-
  Plain helpers of this seat's proofs: the contracts of the two functions that sum the currencies. Conditions: none.
-/
import Derived.Test.YtnkdjnfbllkgiaaLgS
import Derived.Test.YtnkdjnfbllkgiaaLgI
import Derived.Test.YtnkdjnfbllkgiaaLed2
import Derived.Test.YtnkdjnfbllkgiaaInts
import Derived.StillTailTactics
namespace Go.Proofs.Ytnkdjnfbllkgiaa.base
open Go.ChangeShapes Go.WideShapes Go.ChangeAt Go.RowKit
open led (F5 z5)
open five (Row At)

theorem infoI : (Try.prog.info? 2).map (fun i => (i.zero, i.size, i.bytes)) = some (some (.int .i64 0), 1, 8) := by kernel_rfl
/-- A slice of numbers in a block of its own. -/
def Made (w : World) (zs : List Int) (e : Ending) (w' : World) : Prop := ∃ a c g, e = .returned (.slice a zs.length c) ∧ rows.Row w' a c g zs ∧ (0 < zs.length → w.heap.size ≤ g ∧ g < w'.heap.size) ∧ Below w.heap.size w w'
theorem made_row {w : World} {g : Nat} {A : Nat → Value} {l : List F5} (h : five.Blk w g 6 A) (e : ∀ j, j < 6 → A j = .int .i64 (led.csk l j l.length)) : rows.Row w (some ⟨g, 0, none⟩) 6 g (led.six l) :=
  ⟨fun _ => rfl, by rw [led.six_len]; exact Nat.le_refl _, fun i hi => by rw [led.six_len] at hi; rw [h.cell i hi, e i hi, led.six_get l hi], fun _ i => h.free i⟩
set_option maxRecDepth 40000 in
set_option maxHeartbeats 4000000 in
theorem trS (w : World) (a : Option Addr) (cap g : Nat) (l : List F5) (r : Row w a cap g l) (hn : l.length ≤ 1048577) : Calls Try.prog 23 #[.slice a l.length cap] w (Made w (led.trl l)) := by
  have R := Lib.hid r
  have e1 := r.addr
  have m1 := r.room
  clear r
  obtain ⟨n, hnz⟩ : ∃ n, n = l.length := ⟨_, rfl⟩
  rw [← hnz] at hn e1 m1 ⊢
  have HNZ := Lib.hid hnz
  clear hnz
  have CL : Calls Try.prog 17 #[.slice a n cap] w (fun e w'' => e = .returned (.bool (led.lv l)) ∧ Below w.heap.size w w'') := by rw [HNZ.out]; exact lgS w a cap g l R.out (by rw [← HNZ.out]; exact hn)
  cases hv : led.lv l with
  | false =>
    rw [hv] at CL
    have E := Lib.hid (led.trl_f hv)
    have CLh := Lib.hid CL
    clear e1 hv CL
    go_enter Try.func23, Try.ntmps23
    go_wp2_with fail
    refine CLh.out.mono ?_
    rintro e w1 ⟨rfl, b1⟩
    have B1 := Lib.hid b1
    clear b1
    go_wp2
    go_ret
    exact ⟨none, 0, 0, by rw [E.out]; rfl, by rw [E.out]; exact ⟨fun h => absurd h (by simp), Nat.le_refl _, fun i h => absurd h (by simp), fun h => absurd h (by simp)⟩, fun h => absurd h (by rw [E.out]; simp), B1.out⟩
  | true =>
    rw [hv] at CL
    have SN := Lib.hid (led.LV.sane (led.lv_iff.1 hv))
    have E := Lib.hid (led.trl_t hv)
    have CLh := Lib.hid CL
    clear hv CL
    obtain ⟨i0, hi, hz0, hz1, hz2⟩ := info_parts infoI
    go_enter Try.func23, Try.ntmps23
    go_wp2_with fail
    refine CLh.out.mono ?_
    rintro e w1 ⟨rfl, b1⟩
    have B1 := Lib.hid b1
    clear b1
    go_wp2_with (at_make; refine wpList_make_full _ rfl _ _ 37 rfl w1.heap.size 2 i0 (.int .i64 0) 1 Try.underlying37 hi hz0 hz1 _ _ _ _ 6 rfl rfl rfl rfl ?b2 ?b3 (Nat.le_refl _) ?_)
    case b2 => (try rw [hz2]); omega
    case b3 => unfold maxLen; omega
    intro w0 hown0 hgrow0
    obtain ⟨⟨A0, hA0, hv0⟩, hg0, _⟩ := five.Blk.of_owns hown0
    have BL0 := Lib.hid hA0
    have Z0 := Lib.hid (show ∀ j, j < 6 → A0 j = .int .i64 (led.csk l j 0) from fun j hj => by
      have := hv0 j (by omega)
      rw [toList_madeCells_one, List.getElem?_replicate, if_pos (by omega)] at this
      exact (Option.some.inj this).symm)
    have B0 := Lib.hid (B1.out.grown hgrow0 B1.out.size (fun k h => by cases h))
    obtain ⟨gO, hgO⟩ : ∃ gO, gO = w1.heap.size := ⟨_, rfl⟩
    rw [← hgO] at BL0 ⊢
    have GO := Lib.hid (show w.heap.size ≤ gO from by rw [hgO]; exact B1.out.size)
    clear hown0 hgrow0 hA0 hg0 hi hz0 hz1 hz2 hv0 hgO
    go_wp2
    go_loopw [4] (fun iv wr => Below w.heap.size w wr ∧ ∃ (k : Nat) (A : Nat → Value), k ≤ n ∧ iv = .int .i64 k ∧ five.Blk wr gO 6 A ∧ ∀ j, j < 6 → A j = .int .i64 (led.csk l j k)) (fun iv _ => n - (intOf iv).toNat)
    case atStart => exact ⟨B0.out, 0, A0, by omega, rfl, BL0.out, Z0.out⟩
    case round =>
      obtain ⟨hB, k, A, hk, rfl, hA, hd⟩ := hrel
      have BB := Lib.hid hB
      have AA := Lib.hid hA
      have DD := Lib.hid hd
      by_cases hlt : k < n
      · have HLT := Lib.hid (show k < l.length from by rw [← HNZ.out]; exact hlt)
        obtain rfl := e1 (by omega)
        have gl := R.out.lt (by rw [← HNZ.out]; omega)
        have q1 := (R.out.cells k HLT.out).keep (hB.block g gl)
        obtain ⟨x, hx⟩ : ∃ x, x = l.getD k z5 := ⟨_, rfl⟩
        have HX := Lib.hid hx
        have hfar := SN.out.num k HLT.out
        have hcur := SN.out.cur k HLT.out
        rw [← hx] at q1 hfar hcur
        have f1 : -1000000000000000 ≤ x.2.2.2.2 := hfar.1
        have f2 : x.2.2.2.2 ≤ 1000000000000000 := hfar.2
        obtain ⟨c, hc⟩ : ∃ c : Nat, x.2.2.2.1 = (c : Int) := Int.eq_ofNat_of_zero_le hcur.1
        have c5 : c < 6 := by omega
        clear hx hfar hcur
        have sb := SN.out.small c (k := k) (Nat.le_of_lt HLT.out)
        obtain ⟨s, hs⟩ : ∃ s, s = led.csk l c k := ⟨_, rfl⟩
        rw [← hs] at sb
        have s1 := sb.1
        have s2 := sb.2
        have HS := Lib.hid hs
        clear sb hs
        obtain ⟨x1, x2, x3, x4, x5⟩ := q1
        rw [hc] at x4
        have HC := Lib.hid hc
        clear hc
        have o1 := (AA.out.cell c c5).trans (congrArg some (DD.out c c5))
        rw [← HS.out] at o1
        have o2 := AA.out.free c
        have c6 : (c : Int) < 6 := by omega
        have z1 : (k : Int) < (n : Int) := by omega
        have u1 : decide (k < n) = true := by simp; omega
        have NXT := Lib.hid (show ∀ j, j < 6 → five.upd A c (.int .i64 (s + x.2.2.2.2)) j = .int .i64 (led.csk l j (k + 1)) from fun j hj => by
          unfold five.upd
          rw [led.csk, ← HX.out, HC.out]
          by_cases e : j = c
          · subst e; rw [if_pos rfl, if_pos rfl, HS.out]; rfl
          · rw [if_neg e, if_neg (by omega), DD.out j hj, Int.add_zero])
        clear hB hA hd gl e1
        have mixed : Try.prog.follows .mixedOrders = true := Try.checked.mixed
        go_wp2_with fail
        go_still_tail 21, mixed
        change wpList _ _ _ _ _ wr.drew
        have A1 := Lib.hid (AA.out.keep (w' := wr.drew) rfl (Nat.le_refl _))
        have B2 := Lib.hid BB.out.drew
        have o1 := (A1.out.cell c c5).trans (congrArg some (DD.out c c5))
        have o2 := A1.out.free c
        clear x1 x2 x3 x4 x5
        generalize wr.drew = w2 at A1 B2 o1 o2 ⊢
        go_wp2
        go_roundw
        case rel => exact ⟨B2.out.setCell (p := ⟨gO, c, none⟩) GO.out _, k + 1, _, by omega, by go_num, A1.out.set c5 _, NXT.out⟩
        case measure => simp [intOf]; omega
      · have u1 : decide (k < n) = false := by simp; omega
        obtain rfl : k = n := by omega
        clear hB hA hd e1
        go_wp2
        go_ret
        exact ⟨some ⟨gO, 0, none⟩, 6, gO, by rw [E.out, led.six_len]; rfl, by rw [E.out]; exact made_row AA.out (by rw [← HNZ.out]; exact DD.out), fun _ => ⟨GO.out, AA.out.lt⟩, BB.out⟩
end Go.Proofs.Ytnkdjnfbllkgiaa.base
