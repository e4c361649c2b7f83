/-
  Plain helpers of this seat's proofs: the contracts of the landed functions that sum the currencies. Conditions: none.
-/
import Derived.Test.YtnkdjnfbllkgiaaTrS
namespace Go.Proofs.Ytnkdjnfbllkgiaa.base
open Go.ChangeShapes Go.WideShapes Go.ChangeAt Go.RowKit
open led (F5 z5)
open five (Row At)

set_option maxRecDepth 40000 in
set_option maxHeartbeats 4000000 in
theorem csI (w : World) (a : Option Addr) (cap g : Nat) (l : List F5) (r : Row w a cap g l) (sn : led.Sane l) : Calls Try.prog 50 #[.slice a l.length cap] w (fun e w' => e = .returned (.agg #[.int .i64 (led.csk l 0 l.length), .int .i64 (led.csk l 1 l.length), .int .i64 (led.csk l 2 l.length), .int .i64 (led.csk l 3 l.length), .int .i64 (led.csk l 4 l.length), .int .i64 (led.csk l 5 l.length)]) ∧ Below w.heap.size w w') := by
  have SN := Lib.hid sn
  have hn : l.length ≤ 1048577 := by have := sn.len; omega
  clear sn
  have R := Lib.hid r
  have e1 := r.addr
  have m1 := r.room
  clear r
  obtain ⟨n, hnz⟩ : ∃ n, n = l.length := ⟨_, rfl⟩
  rw [← hnz] at hn e1 m1 ⊢
  have HNZ := Lib.hid hnz
  clear hnz
  have z6 : five.Blk ((w.alloc (.cells #[.int .i64 0, .int .i64 0, .int .i64 0, .int .i64 0, .int .i64 0, .int .i64 0] 66)).alloc (.cells #[.int .i64 0, .int .i64 0, .int .i64 0, .int .i64 0, .int .i64 0, .int .i64 0] 66)) (w.heap.size + 1) 6 (fun _ => .int .i64 0) := by
    refine ⟨by simp, fun k hk => ?_, fun k => ?_⟩
    · have h := five.box_cell (five.box_refl (w.alloc (.cells #[.int .i64 0, .int .i64 0, .int .i64 0, .int .i64 0, .int .i64 0, .int .i64 0] 66)) (.cells #[.int .i64 0, .int .i64 0, .int .i64 0, .int .i64 0, .int .i64 0, .int .i64 0] 66)) k (v := .int .i64 0) (by match k, hk with | 0, _ => rfl | 1, _ => rfl | 2, _ => rfl | 3, _ => rfl | 4, _ => rfl | 5, _ => rfl)
      rw [World.size_alloc] at h
      exact h
    · have h := World.frozen?_alloc_new (w.alloc (.cells #[.int .i64 0, .int .i64 0, .int .i64 0, .int .i64 0, .int .i64 0, .int .i64 0] 66)) #[.int .i64 0, .int .i64 0, .int .i64 0, .int .i64 0, .int .i64 0, .int .i64 0] 66 k
      rw [World.size_alloc] at h
      exact h
  have y6 : five.Blk ((w.alloc (.cells #[.int .i64 0, .int .i64 0, .int .i64 0, .int .i64 0, .int .i64 0, .int .i64 0] 66)).alloc (.cells #[.int .i64 0, .int .i64 0, .int .i64 0, .int .i64 0, .int .i64 0, .int .i64 0] 66)) w.heap.size 6 (fun _ => .int .i64 0) := by
    refine ⟨by simp; omega, fun k hk => ?_, fun k => ?_⟩
    · exact five.box_cell (five.box_al (five.box_refl w _) _) k (v := .int .i64 0) (by match k, hk with | 0, _ => rfl | 1, _ => rfl | 2, _ => rfl | 3, _ => rfl | 4, _ => rfl | 5, _ => rfl)
    · rw [World.frozen?_alloc_old (w.alloc (.cells #[.int .i64 0, .int .i64 0, .int .i64 0, .int .i64 0, .int .i64 0, .int .i64 0] 66)) _ ⟨w.heap.size, k, none⟩ (by simp)]
      exact World.frozen?_alloc_new w _ _ k
  have Z6 := Lib.hid z6
  have Y6 := Lib.hid y6
  have B0 := Lib.hid (show Below w.heap.size w ((w.alloc (.cells #[.int .i64 0, .int .i64 0, .int .i64 0, .int .i64 0, .int .i64 0, .int .i64 0] 66)).alloc (.cells #[.int .i64 0, .int .i64 0, .int .i64 0, .int .i64 0, .int .i64 0, .int .i64 0] 66)) from ((five.Grew.alloc _ _).trans (five.Grew.alloc _ _)).below)
  clear z6 y6
  go_enter Try.func50, Try.ntmps50
  go_wp2
  go_loopw [8] (fun iv wr => Below w.heap.size w wr ∧ ∃ (k : Nat) (A : Nat → Value), k ≤ n ∧ iv = .int .i64 k ∧ five.Blk wr (w.heap.size + 1) 6 A ∧ five.Blk wr w.heap.size 6 (fun _ => .int .i64 0) ∧ ∀ j, j < 6 → A j = .int .i64 (led.csk l j k)) (fun iv _ => n - (intOf iv).toNat)
  case atStart => exact ⟨B0.out, 0, _, by omega, rfl, Z6.out, Y6.out, fun j hj => rfl⟩
  case round =>
    obtain ⟨hB, k, A, hk, rfl, hA, hY, hd⟩ := hrel
    have BB := Lib.hid hB
    have AA := Lib.hid hA
    have YY := Lib.hid hY
    have DD := Lib.hid hd
    by_cases hlt : k < n
    · have HLT := Lib.hid (show k < l.length from by rw [← HNZ.out]; exact hlt)
      obtain rfl := e1 (by omega)
      have gl := R.out.lt (by rw [← HNZ.out]; omega)
      have q1 := (R.out.cells k HLT.out).keep (hB.block g gl)
      obtain ⟨x, hx⟩ : ∃ x, x = l.getD k z5 := ⟨_, rfl⟩
      have HX := Lib.hid hx
      have hfar := SN.out.num k HLT.out
      have hcur := SN.out.cur k HLT.out
      rw [← hx] at q1 hfar hcur
      have f1 : -1000000000000000 ≤ x.2.2.2.2 := hfar.1
      have f2 : x.2.2.2.2 ≤ 1000000000000000 := hfar.2
      obtain ⟨c, hc⟩ : ∃ c : Nat, x.2.2.2.1 = (c : Int) := Int.eq_ofNat_of_zero_le hcur.1
      have c5 : c < 6 := by omega
      clear hx hfar hcur
      have sb := SN.out.small c (k := k) (Nat.le_of_lt HLT.out)
      obtain ⟨s, hs⟩ : ∃ s, s = led.csk l c k := ⟨_, rfl⟩
      rw [← hs] at sb
      have s1 := sb.1
      have s2 := sb.2
      have HS := Lib.hid hs
      clear sb hs
      obtain ⟨x1, x2, x3, x4, x5⟩ := q1
      rw [hc] at x4
      have HC := Lib.hid hc
      clear hc
      have o1 := (AA.out.cell c c5).trans (congrArg some (DD.out c c5))
      rw [← HS.out] at o1
      have o2 := AA.out.free c
      have c6 : (c : Int) < 6 := by omega
      have z1 : (k : Int) < (n : Int) := by omega
      have u1 : decide (k < n) = true := by simp; omega
      have NXT := Lib.hid (show ∀ j, j < 6 → five.upd A c (.int .i64 (s + x.2.2.2.2)) j = .int .i64 (led.csk l j (k + 1)) from fun j hj => by
        unfold five.upd
        rw [led.csk, ← HX.out, HC.out]
        by_cases e : j = c
        · subst e; rw [if_pos rfl, if_pos rfl, HS.out]; rfl
        · rw [if_neg e, if_neg (by omega), DD.out j hj, Int.add_zero])
      clear hB hA hd gl e1 hY
      have mixed : Try.prog.follows .mixedOrders = true := Try.checked.mixed
      obtain ⟨W1, hW1⟩ : ∃ W1, W1 = wr.alloc (.cells #[.int .i64 x.1, .int .i64 x.2.1, .int .i64 x.2.2.1, .int .i64 (c : Int), .int .i64 x.2.2.2.2] 52) := ⟨_, rfl⟩
      have G1 := Lib.hid (show five.Grew wr W1 from by rw [hW1]; exact five.Grew.alloc _ _)
      have b3 : W1.cell? ⟨wr.heap.size, 3, none⟩ = some (.int .i64 (c : Int)) := by rw [hW1]; exact five.box_cell (five.box_refl wr _) 3 rfl
      have b4 : W1.cell? ⟨wr.heap.size, 4, none⟩ = some (.int .i64 x.2.2.2.2) := by rw [hW1]; exact five.box_cell (five.box_refl wr _) 4 rfl
      have A1 := Lib.hid (AA.out.keep (w' := W1) (G1.out.below.block _ AA.out.lt) G1.out.below.size)
      have Y1 := Lib.hid (YY.out.keep (w' := W1) (G1.out.below.block _ YY.out.lt) G1.out.below.size)
      have B1 := Lib.hid (five.Grew.step BB.out (Nat.le_refl _) G1.out)
      clear o1 o2
      go_wp2_with fail
      rw [← hW1]
      clear hW1 x1 x2 x3 x4 x5
      have o1 := (A1.out.cell c c5).trans (congrArg some (DD.out c c5))
      rw [← HS.out] at o1
      go_still_tail 8, mixed
      change wpList _ _ _ _ _ W1.drew
      have A2 := Lib.hid (A1.out.keep (w' := W1.drew) rfl (Nat.le_refl _))
      have Y2 := Lib.hid (Y1.out.keep (w' := W1.drew) rfl (Nat.le_refl _))
      have B2 := Lib.hid B1.out.drew
      have o3 := (A2.out.cell c c5).trans (congrArg some (DD.out c c5))
      have o4 := A2.out.free c
      clear b3 b4 o1
      generalize W1.drew = w2 at A2 Y2 B2 o3 o4 ⊢
      go_wp2
      go_roundw
      case rel => exact ⟨B2.out.setCell (p := ⟨w.heap.size + 1, c, none⟩) (Nat.le_succ _) _, k + 1, _, by omega, by go_num, A2.out.set c5 _, Y2.out.other (by omega) _, NXT.out⟩
      case measure => simp [intOf]; omega
    · have u1 : decide (k < n) = false := by simp; omega
      obtain rfl : k = n := by omega
      clear hB hA hd e1 hY
      have v0 := (AA.out.cell 0 (by omega)).trans (congrArg some (DD.out 0 (by omega)))
      have v1 := (AA.out.cell 1 (by omega)).trans (congrArg some (DD.out 1 (by omega)))
      have v2 := (AA.out.cell 2 (by omega)).trans (congrArg some (DD.out 2 (by omega)))
      have v3 := (AA.out.cell 3 (by omega)).trans (congrArg some (DD.out 3 (by omega)))
      have v4 := (AA.out.cell 4 (by omega)).trans (congrArg some (DD.out 4 (by omega)))
      have v5 := (AA.out.cell 5 (by omega)).trans (congrArg some (DD.out 5 (by omega)))
      have p0 := YY.out.cell 0 (by omega)
      have p1 := YY.out.cell 1 (by omega)
      have p2 := YY.out.cell 2 (by omega)
      have p3 := YY.out.cell 3 (by omega)
      have p4 := YY.out.cell 4 (by omega)
      have p5 := YY.out.cell 5 (by omega)
      have r0 := YY.out.free 0
      have r1 := YY.out.free 1
      have r2 := YY.out.free 2
      have r3 := YY.out.free 3
      have r4 := YY.out.free 4
      have r5 := YY.out.free 5
      go_wp2
      have YF := ((((((YY.out.set (k := 0) (by omega) (.int .i64 (led.csk l 0 k))).set (k := 1) (by omega) (.int .i64 (led.csk l 1 k))).set (k := 2) (by omega) (.int .i64 (led.csk l 2 k))).set (k := 3) (by omega) (.int .i64 (led.csk l 3 k))).set (k := 4) (by omega) (.int .i64 (led.csk l 4 k))).set (k := 5) (by omega) (.int .i64 (led.csk l 5 k)))
      have BF := ((((((BB.out.setCell (p := ⟨w.heap.size, 0, none⟩) (Nat.le_refl _) (.int .i64 (led.csk l 0 k))).setCell (p := ⟨w.heap.size, 1, none⟩) (Nat.le_refl _) (.int .i64 (led.csk l 1 k))).setCell (p := ⟨w.heap.size, 2, none⟩) (Nat.le_refl _) (.int .i64 (led.csk l 2 k))).setCell (p := ⟨w.heap.size, 3, none⟩) (Nat.le_refl _) (.int .i64 (led.csk l 3 k))).setCell (p := ⟨w.heap.size, 4, none⟩) (Nat.le_refl _) (.int .i64 (led.csk l 4 k))).setCell (p := ⟨w.heap.size, 5, none⟩) (Nat.le_refl _) (.int .i64 (led.csk l 5 k)))
      generalize ((((((wr.setCell ⟨w.heap.size, 0, none⟩ (.int .i64 (led.csk l 0 k))).setCell ⟨w.heap.size, 1, none⟩ (.int .i64 (led.csk l 1 k))).setCell ⟨w.heap.size, 2, none⟩ (.int .i64 (led.csk l 2 k))).setCell ⟨w.heap.size, 3, none⟩ (.int .i64 (led.csk l 3 k))).setCell ⟨w.heap.size, 4, none⟩ (.int .i64 (led.csk l 4 k))).setCell ⟨w.heap.size, 5, none⟩ (.int .i64 (led.csk l 5 k))) = W6 at YF BF ⊢
      have c0 : W6.cell? ⟨w.heap.size, 0, none⟩ = some (.int .i64 (led.csk l 0 k)) := YF.cell 0 (by omega)
      have c1 : W6.cell? ⟨w.heap.size, 1, none⟩ = some (.int .i64 (led.csk l 1 k)) := YF.cell 1 (by omega)
      have c2 : W6.cell? ⟨w.heap.size, 2, none⟩ = some (.int .i64 (led.csk l 2 k)) := YF.cell 2 (by omega)
      have c3 : W6.cell? ⟨w.heap.size, 3, none⟩ = some (.int .i64 (led.csk l 3 k)) := YF.cell 3 (by omega)
      have c4 : W6.cell? ⟨w.heap.size, 4, none⟩ = some (.int .i64 (led.csk l 4 k)) := YF.cell 4 (by omega)
      have c5 : W6.cell? ⟨w.heap.size, 5, none⟩ = some (.int .i64 (led.csk l 5 k)) := YF.cell 5 (by omega)
      have BFh := Lib.hid BF
      clear YF BF v0 v1 v2 v3 v4 v5 p0 p1 p2 p3 p4 p5 r0 r1 r2 r3 r4 r5
      refine bodyPost_ret (v := .agg #[.int .i64 (led.csk l 0 k), .int .i64 (led.csk l 1 k), .int .i64 (led.csk l 2 k), .int .i64 (led.csk l 3 k), .int .i64 (led.csk l 4 k), .int .i64 (led.csk l 5 k)]) (by simp [results, Try.results50, go_sem, c0, c1, c2, c3, c4, c5]) rfl ⟨rfl, BFh.out⟩
set_option maxRecDepth 40000 in
set_option maxHeartbeats 4000000 in
theorem trI (w : World) (a : Option Addr) (cap g : Nat) (l : List F5) (r : Row w a cap g l) (hn : l.length ≤ 1048577) : Calls Try.prog 24 #[.slice a l.length cap] w (Made w (led.trl l)) := by
  have R := Lib.hid r
  have e1 := r.addr
  have m1 := r.room
  clear r
  obtain ⟨n, hnz⟩ : ∃ n, n = l.length := ⟨_, rfl⟩
  rw [← hnz] at hn e1 m1 ⊢
  have HNZ := Lib.hid hnz
  clear hnz
  have CL : Calls Try.prog 19 #[.slice a n cap] w (fun e w'' => e = .returned (.bool (led.lv l)) ∧ Below w.heap.size w w'') := by rw [HNZ.out]; exact lgI w a cap g l R.out (by rw [← HNZ.out]; exact hn)
  cases hv : led.lv l with
  | false =>
    rw [hv] at CL
    have E := Lib.hid (led.trl_f hv)
    have CLh := Lib.hid CL
    clear e1 hv CL
    go_enter Try.func24, Try.ntmps24
    go_wp2_with fail
    refine CLh.out.mono ?_
    rintro e w1 ⟨rfl, b1⟩
    have B1 := Lib.hid b1
    clear b1
    go_wp2
    go_ret
    exact ⟨none, 0, 0, by rw [E.out]; rfl, by rw [E.out]; exact ⟨fun h => absurd h (by simp), Nat.le_refl _, fun i h => absurd h (by simp), fun h => absurd h (by simp)⟩, fun h => absurd h (by rw [E.out]; simp), B1.out⟩
  | true =>
    rw [hv] at CL
    have SN := Lib.hid (led.LV.sane (led.lv_iff.1 hv))
    have E := Lib.hid (led.trl_t hv)
    have CLh := Lib.hid CL
    clear hv CL e1
    have CI : ∀ w', Below w.heap.size w w' → Calls Try.prog 50 #[.slice a n cap] w' (fun e w'' => e = .returned (.agg #[.int .i64 (led.csk l 0 l.length), .int .i64 (led.csk l 1 l.length), .int .i64 (led.csk l 2 l.length), .int .i64 (led.csk l 3 l.length), .int .i64 (led.csk l 4 l.length), .int .i64 (led.csk l 5 l.length)]) ∧ Below w'.heap.size w' w'') := fun w' hb => by
      have h := csI w' a cap g l (R.out.keep fun h => hb.block g (R.out.lt h)) SN.out
      rw [HNZ.out]; exact h
    have CIh := Lib.hid CI
    clear CI
    go_enter Try.func24, Try.ntmps24
    go_wp2_with fail
    refine CLh.out.mono ?_
    rintro e w1 ⟨rfl, b1⟩
    have B1 := Lib.hid b1
    clear b1
    go_wp2_with fail
    refine (CIh.out w1 B1.out).mono ?_
    rintro e w2 ⟨rfl, b2⟩
    have B2 := Lib.hid (B1.out.trans (b2.mono B1.out.size))
    clear b2
    go_wp2
    go_ret
    refine ⟨some ⟨w2.heap.size, 0, none⟩, 6, w2.heap.size, by rw [E.out, led.six_len]; rfl, ?_, fun _ => ⟨B2.out.size, by simp⟩, five.Grew.step B2.out (Nat.le_refl _) (five.Grew.alloc w2 _)⟩
    rw [E.out]
    refine made_row (A := fun j => .int .i64 (led.csk l j l.length)) ⟨by simp, fun k hk => ?_, fun k => ?_⟩ (fun j hj => rfl)
    · refine five.box_cell (five.box_refl w2 _) k ?_
      match k, hk with
      | 0, _ => rfl
      | 1, _ => rfl
      | 2, _ => rfl
      | 3, _ => rfl
      | 4, _ => rfl
      | 5, _ => rfl
    · exact World.frozen?_alloc_new w2 _ _ k
end Go.Proofs.Ytnkdjnfbllkgiaa.base
