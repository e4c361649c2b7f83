/-
  Plain helpers of this seat's proofs: the contract of the model's RateOn. Conditions: none.
-/
import Derived.Test.YtnkdjnfbllkgiabRsS
namespace Go.Proofs.Ytnkdjnfbllkgiab.base
open Go.ChangeShapes Go.WideShapes Go.ChangeAt Go.RowKit
open led (F5 z5)
open five (Row At)

/-- What RateOn answers. -/
noncomputable def ron (l : List F5) (f t d : Int) : Option F5 := if led.lv l = true then led.lastK l f t d l.length else none
def onv : Option F5 → Value
  | none => .tuple #[.agg #[.int .i64 0, .int .i64 0, .int .i64 0, .int .i64 0, .int .i64 0], .bool false]
  | some x => .tuple #[.agg #[.int .i64 x.1, .int .i64 x.2.1, .int .i64 x.2.2.1, .int .i64 x.2.2.2.1, .int .i64 x.2.2.2.2], .bool true]
theorem blk5 (w : World) : five.Blk (w.alloc (.cells #[.int .i64 0, .int .i64 0, .int .i64 0, .int .i64 0, .int .i64 0] 25)) w.heap.size 5 (fun _ => .int .i64 0) := by
  refine ⟨by simp, fun k hk => ?_, fun k => World.frozen?_alloc_new w _ _ k⟩
  exact five.box_cell (five.box_refl w _) k (v := .int .i64 0) (by match k, hk with | 0, _ => rfl | 1, _ => rfl | 2, _ => rfl | 3, _ => rfl | 4, _ => rfl)
set_option maxRecDepth 40000 in
set_option maxHeartbeats 4000000 in
theorem onS (w : World) (a : Option Addr) (cap g : Nat) (l : List F5) (f t d : Int) (r : Row w a cap g l) (hn : l.length ≤ 1048577) : Calls Try.prog 19 #[.slice a l.length cap, .int .i64 f, .int .i64 t, .int .i64 d] w (fun e w' => e = .returned (onv (ron l f t d)) ∧ Below w.heap.size w w') := by
  have R := Lib.hid r
  have e1 := r.addr
  have m1 := r.room
  clear r
  obtain ⟨n, hnz⟩ : ∃ n, n = l.length := ⟨_, rfl⟩
  rw [← hnz] at hn e1 m1 ⊢
  have HNZ := Lib.hid hnz
  clear hnz
  have CL : ∀ w', Below w.heap.size w w' → Calls Try.prog 15 #[.slice a n cap] w' (fun e w'' => e = .returned (.bool (led.lv l)) ∧ Below w'.heap.size w' w'') := fun w' hb => by rw [HNZ.out]; exact rsS w' a cap g l (R.out.keep fun h => hb.block g (R.out.lt h)) (by rw [← HNZ.out]; exact hn)
  have CLh := Lib.hid CL
  clear CL
  have Y0 := Lib.hid (blk5 w)
  have B0 := Lib.hid (five.Grew.alloc w (.cells #[.int .i64 0, .int .i64 0, .int .i64 0, .int .i64 0, .int .i64 0] 25)).below
  go_enter Try.func19, Try.ntmps19
  go_wp2
  go_loopw [10] (fun iv wr => Below w.heap.size w wr ∧ five.Blk wr w.heap.size 5 (fun _ => .int .i64 0) ∧ ∃ k : Nat, k ≤ n ∧ iv = .int .i64 ((k : Int) - 1) ∧ led.lastK l f t d n = led.lastK l f t d k ∧ (led.lv l = false → k = n)) (fun iv _ => (intOf iv + 1).toNat)
  case atStart => exact ⟨B0.out, Y0.out, n, by omega, by go_num, rfl, fun _ => rfl⟩
  case round =>
    obtain ⟨hB, hY, k, hk, rfl, hl, hlv⟩ := hrel
    have BB := Lib.hid hB
    have YY := Lib.hid hY
    have HL := Lib.hid hl
    clear hY hl
    cases k with
    | zero =>
      have E := Lib.hid (show ron l f t d = none from by
        unfold ron
        by_cases h : led.lv l = true
        · rw [if_pos h, ← HNZ.out, HL.out]; rfl
        · rw [if_neg h])
      clear hB hlv e1
      have p0 := YY.out.cell 0 (by omega)
      have r0 := YY.out.free 0
      have p1 := YY.out.cell 1 (by omega)
      have r1 := YY.out.free 1
      have p2 := YY.out.cell 2 (by omega)
      have r2 := YY.out.free 2
      have p3 := YY.out.cell 3 (by omega)
      have r3 := YY.out.free 3
      have p4 := YY.out.cell 4 (by omega)
      have r4 := YY.out.free 4
      go_wp2
      have YF := (((((YY.out.set (k := 0) (by omega) (.int .i64 0)).set (k := 1) (by omega) (.int .i64 0)).set (k := 2) (by omega) (.int .i64 0)).set (k := 3) (by omega) (.int .i64 0)).set (k := 4) (by omega) (.int .i64 0))
      have BF := (((((BB.out.setCell (p := ⟨w.heap.size, 0, none⟩) (Nat.le_refl _) (.int .i64 0)).setCell (p := ⟨w.heap.size, 1, none⟩) (Nat.le_refl _) (.int .i64 0)).setCell (p := ⟨w.heap.size, 2, none⟩) (Nat.le_refl _) (.int .i64 0)).setCell (p := ⟨w.heap.size, 3, none⟩) (Nat.le_refl _) (.int .i64 0)).setCell (p := ⟨w.heap.size, 4, none⟩) (Nat.le_refl _) (.int .i64 0))
      generalize (((((wr.setCell ⟨w.heap.size, 0, none⟩ (.int .i64 0)).setCell ⟨w.heap.size, 1, none⟩ (.int .i64 0)).setCell ⟨w.heap.size, 2, none⟩ (.int .i64 0)).setCell ⟨w.heap.size, 3, none⟩ (.int .i64 0)).setCell ⟨w.heap.size, 4, none⟩ (.int .i64 0)) = W6 at YF BF ⊢
      have c0 : W6.cell? ⟨w.heap.size, 0, none⟩ = some (.int .i64 0) := YF.cell 0 (by omega)
      have c1 : W6.cell? ⟨w.heap.size, 1, none⟩ = some (.int .i64 0) := YF.cell 1 (by omega)
      have c2 : W6.cell? ⟨w.heap.size, 2, none⟩ = some (.int .i64 0) := YF.cell 2 (by omega)
      have c3 : W6.cell? ⟨w.heap.size, 3, none⟩ = some (.int .i64 0) := YF.cell 3 (by omega)
      have c4 : W6.cell? ⟨w.heap.size, 4, none⟩ = some (.int .i64 0) := YF.cell 4 (by omega)
      have BFh := Lib.hid BF
      clear YF BF
      clear p0 p1 p2 p3 p4 r0 r1 r2 r3 r4
      refine bodyPost_ret (v := .tuple #[.agg #[.int .i64 0, .int .i64 0, .int .i64 0, .int .i64 0, .int .i64 0], .bool false]) (by simp [results, Try.results19, go_sem, c0, c1, c2, c3, c4]) rfl ⟨by rw [E.out]; rfl, BFh.out⟩
    | succ j =>
      have ej : (((j + 1 : Nat) : Int) - 1) = (j : Int) := by omega
      rw [ej]
      clear ej
      have z0 : (0 : Int) ≤ (j : Int) := by omega
      have z1 : (j : Int) < (n : Int) := by omega
      have HJ := Lib.hid (show j < l.length from by rw [← HNZ.out]; omega)
      cases hv : led.lv l with
      | false =>
        have E := Lib.hid (show ron l f t d = none from by unfold ron; rw [if_neg (by rw [hv]; decide)])
        have C1 := Lib.hid (CLh.out wr BB.out)
        rw [hv] at C1
        clear hB hlv e1 hv
        go_wp2_with fail
        refine C1.out.mono ?_
        rintro e w1 ⟨rfl, b1⟩
        have B1 := Lib.hid (BB.out.trans (b1.mono BB.out.size))
        have Y1 := Lib.hid (YY.out.keep (w' := w1) (b1.block _ YY.out.lt) b1.size)
        clear b1 YY
        have YY := Y1
        clear Y1
        have p0 := YY.out.cell 0 (by omega)
        have r0 := YY.out.free 0
        have p1 := YY.out.cell 1 (by omega)
        have r1 := YY.out.free 1
        have p2 := YY.out.cell 2 (by omega)
        have r2 := YY.out.free 2
        have p3 := YY.out.cell 3 (by omega)
        have r3 := YY.out.free 3
        have p4 := YY.out.cell 4 (by omega)
        have r4 := YY.out.free 4
        go_wp2
        have YF := (((((YY.out.set (k := 0) (by omega) (.int .i64 0)).set (k := 1) (by omega) (.int .i64 0)).set (k := 2) (by omega) (.int .i64 0)).set (k := 3) (by omega) (.int .i64 0)).set (k := 4) (by omega) (.int .i64 0))
        have BF := (((((B1.out.setCell (p := ⟨w.heap.size, 0, none⟩) (Nat.le_refl _) (.int .i64 0)).setCell (p := ⟨w.heap.size, 1, none⟩) (Nat.le_refl _) (.int .i64 0)).setCell (p := ⟨w.heap.size, 2, none⟩) (Nat.le_refl _) (.int .i64 0)).setCell (p := ⟨w.heap.size, 3, none⟩) (Nat.le_refl _) (.int .i64 0)).setCell (p := ⟨w.heap.size, 4, none⟩) (Nat.le_refl _) (.int .i64 0))
        generalize (((((w1.setCell ⟨w.heap.size, 0, none⟩ (.int .i64 0)).setCell ⟨w.heap.size, 1, none⟩ (.int .i64 0)).setCell ⟨w.heap.size, 2, none⟩ (.int .i64 0)).setCell ⟨w.heap.size, 3, none⟩ (.int .i64 0)).setCell ⟨w.heap.size, 4, none⟩ (.int .i64 0)) = W6 at YF BF ⊢
        have c0 : W6.cell? ⟨w.heap.size, 0, none⟩ = some (.int .i64 0) := YF.cell 0 (by omega)
        have c1 : W6.cell? ⟨w.heap.size, 1, none⟩ = some (.int .i64 0) := YF.cell 1 (by omega)
        have c2 : W6.cell? ⟨w.heap.size, 2, none⟩ = some (.int .i64 0) := YF.cell 2 (by omega)
        have c3 : W6.cell? ⟨w.heap.size, 3, none⟩ = some (.int .i64 0) := YF.cell 3 (by omega)
        have c4 : W6.cell? ⟨w.heap.size, 4, none⟩ = some (.int .i64 0) := YF.cell 4 (by omega)
        have BFh := Lib.hid BF
        clear YF BF
        clear p0 p1 p2 p3 p4 r0 r1 r2 r3 r4
        refine bodyPost_ret (v := .tuple #[.agg #[.int .i64 0, .int .i64 0, .int .i64 0, .int .i64 0, .int .i64 0], .bool false]) (by simp [results, Try.results19, go_sem, c0, c1, c2, c3, c4]) rfl ⟨by rw [E.out]; rfl, BFh.out⟩
      | true =>
        have HV := Lib.hid hv
        have C1 := Lib.hid (CLh.out wr BB.out)
        rw [hv] at C1
        have GL := Lib.hid (R.out.lt (by rw [← HNZ.out]; omega))
        obtain rfl := e1 (by omega)
        obtain ⟨x, hx⟩ : ∃ x, x = l.getD j z5 := ⟨_, rfl⟩
        have HX := Lib.hid hx
        have Q1 := Lib.hid (R.out.cells j HJ.out)
        rw [← hx] at Q1
        have ST := Lib.hid (show led.lastK l f t d n = if led.mt f t d x = true then some x else led.lastK l f t d j from by rw [HL.out, led.lastK, ← hx])
        clear hB hlv e1 hv hx
        by_cases h1 : x.2.1 = f
        · by_cases h2 : x.2.2.1 = t
          · by_cases h3 : x.1 ≤ d
            · have S2 := Lib.hid (show ron l f t d = some x from by unfold ron; rw [if_pos HV.out, ← HNZ.out, ST.out, if_pos (by rw [led.mt_iff]; exact ⟨h1, h2, h3⟩)])
              have t1 : (x.2.1 == f) = true := by simp [h1]
              have t2 : (x.2.2.1 == t) = true := by simp [h2]
              have t3 : decide (x.1 ≤ d) = true := by simp [h3]
              clear h1 h2 h3
              go_wp2_with fail
              refine C1.out.mono ?_
              rintro e w1 ⟨rfl, b1⟩
              have B1 := Lib.hid (BB.out.trans (b1.mono BB.out.size))
              have Y1 := Lib.hid (YY.out.keep (w' := w1) (b1.block _ YY.out.lt) b1.size)
              obtain ⟨x1, x2, x3, x4, x5⟩ := Q1.out.keep (B1.out.block g GL.out)
              clear b1
              clear YY
              have YY := Y1
              clear Y1
              have p0 := YY.out.cell 0 (by omega)
              have r0 := YY.out.free 0
              have p1 := YY.out.cell 1 (by omega)
              have r1 := YY.out.free 1
              have p2 := YY.out.cell 2 (by omega)
              have r2 := YY.out.free 2
              have p3 := YY.out.cell 3 (by omega)
              have r3 := YY.out.free 3
              have p4 := YY.out.cell 4 (by omega)
              have r4 := YY.out.free 4
              go_wp2
              have YF := (((((YY.out.set (k := 0) (by omega) (.int .i64 x.1)).set (k := 1) (by omega) (.int .i64 x.2.1)).set (k := 2) (by omega) (.int .i64 x.2.2.1)).set (k := 3) (by omega) (.int .i64 x.2.2.2.1)).set (k := 4) (by omega) (.int .i64 x.2.2.2.2))
              have BF := (((((B1.out.setCell (p := ⟨w.heap.size, 0, none⟩) (Nat.le_refl _) (.int .i64 x.1)).setCell (p := ⟨w.heap.size, 1, none⟩) (Nat.le_refl _) (.int .i64 x.2.1)).setCell (p := ⟨w.heap.size, 2, none⟩) (Nat.le_refl _) (.int .i64 x.2.2.1)).setCell (p := ⟨w.heap.size, 3, none⟩) (Nat.le_refl _) (.int .i64 x.2.2.2.1)).setCell (p := ⟨w.heap.size, 4, none⟩) (Nat.le_refl _) (.int .i64 x.2.2.2.2))
              generalize (((((w1.setCell ⟨w.heap.size, 0, none⟩ (.int .i64 x.1)).setCell ⟨w.heap.size, 1, none⟩ (.int .i64 x.2.1)).setCell ⟨w.heap.size, 2, none⟩ (.int .i64 x.2.2.1)).setCell ⟨w.heap.size, 3, none⟩ (.int .i64 x.2.2.2.1)).setCell ⟨w.heap.size, 4, none⟩ (.int .i64 x.2.2.2.2)) = W6 at YF BF ⊢
              have c0 : W6.cell? ⟨w.heap.size, 0, none⟩ = some (.int .i64 x.1) := YF.cell 0 (by omega)
              have c1 : W6.cell? ⟨w.heap.size, 1, none⟩ = some (.int .i64 x.2.1) := YF.cell 1 (by omega)
              have c2 : W6.cell? ⟨w.heap.size, 2, none⟩ = some (.int .i64 x.2.2.1) := YF.cell 2 (by omega)
              have c3 : W6.cell? ⟨w.heap.size, 3, none⟩ = some (.int .i64 x.2.2.2.1) := YF.cell 3 (by omega)
              have c4 : W6.cell? ⟨w.heap.size, 4, none⟩ = some (.int .i64 x.2.2.2.2) := YF.cell 4 (by omega)
              have BFh := Lib.hid BF
              clear YF BF
              clear p0 p1 p2 p3 p4 r0 r1 r2 r3 r4
              refine bodyPost_ret (v := .tuple #[.agg #[.int .i64 x.1, .int .i64 x.2.1, .int .i64 x.2.2.1, .int .i64 x.2.2.2.1, .int .i64 x.2.2.2.2], .bool true]) (by simp [results, Try.results19, go_sem, c0, c1, c2, c3, c4]) rfl ⟨by rw [S2.out]; rfl, BFh.out⟩
            · have S2 := Lib.hid (show led.lastK l f t d n = led.lastK l f t d j from by rw [ST.out, if_neg (by rw [led.mt_iff]; omega)])
              have t1 : (x.2.1 == f) = true := by simp [h1]
              have t2 : (x.2.2.1 == t) = true := by simp [h2]
              have t3 : decide (x.1 ≤ d) = false := by simp; omega
              clear h1 h2 h3
              go_wp2_with fail
              refine C1.out.mono ?_
              rintro e w1 ⟨rfl, b1⟩
              have B1 := Lib.hid (BB.out.trans (b1.mono BB.out.size))
              have Y1 := Lib.hid (YY.out.keep (w' := w1) (b1.block _ YY.out.lt) b1.size)
              obtain ⟨x1, x2, x3, x4, x5⟩ := Q1.out.keep (B1.out.block g GL.out)
              clear b1
              go_wp2
              go_roundw
              case rel => exact ⟨B1.out, Y1.out, j, by omega, by go_num, S2.out, fun h => by cases h⟩
              case measure => simp [intOf]
          · have S2 := Lib.hid (show led.lastK l f t d n = led.lastK l f t d j from by rw [ST.out, if_neg (by rw [led.mt_iff]; omega)])
            have t1 : (x.2.1 == f) = true := by simp [h1]
            have t2 : (x.2.2.1 == t) = false := by simp [h2]
            clear h1 h2
            go_wp2_with fail
            refine C1.out.mono ?_
            rintro e w1 ⟨rfl, b1⟩
            have B1 := Lib.hid (BB.out.trans (b1.mono BB.out.size))
            have Y1 := Lib.hid (YY.out.keep (w' := w1) (b1.block _ YY.out.lt) b1.size)
            obtain ⟨x1, x2, x3, x4, x5⟩ := Q1.out.keep (B1.out.block g GL.out)
            clear b1
            go_wp2
            go_roundw
            case rel => exact ⟨B1.out, Y1.out, j, by omega, by go_num, S2.out, fun h => by cases h⟩
            case measure => simp [intOf]
        · have S2 := Lib.hid (show led.lastK l f t d n = led.lastK l f t d j from by rw [ST.out, if_neg (by rw [led.mt_iff]; omega)])
          have t1 : (x.2.1 == f) = false := by simp [h1]
          clear h1
          go_wp2_with fail
          refine C1.out.mono ?_
          rintro e w1 ⟨rfl, b1⟩
          have B1 := Lib.hid (BB.out.trans (b1.mono BB.out.size))
          have Y1 := Lib.hid (YY.out.keep (w' := w1) (b1.block _ YY.out.lt) b1.size)
          obtain ⟨x1, x2, x3, x4, x5⟩ := Q1.out.keep (B1.out.block g GL.out)
          clear b1
          go_wp2
          go_roundw
          case rel => exact ⟨B1.out, Y1.out, j, by omega, by go_num, S2.out, fun h => by cases h⟩
          case measure => simp [intOf]
end Go.Proofs.Ytnkdjnfbllkgiab.base
