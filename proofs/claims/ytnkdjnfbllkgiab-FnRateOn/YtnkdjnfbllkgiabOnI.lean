/-
  Plain helpers of this seat's proofs: the contract of the landed RateOn. Conditions: none.
-/
import Derived.Test.YtnkdjnfbllkgiabLw
namespace Go.Proofs.Ytnkdjnfbllkgiab.base
open Go.ChangeShapes Go.WideShapes Go.ChangeAt Go.RowKit
open led (F5 z5)
open five (Row At)

structure On4 (w W0 : World) (f t d : Int) : Prop where
  f : W0.cell? ⟨w.heap.size, 0, none⟩ = some (.int .i64 f)
  t : W0.cell? ⟨w.heap.size + 1, 0, none⟩ = some (.int .i64 t)
  d : W0.cell? ⟨w.heap.size + 1 + 1, 0, none⟩ = some (.int .i64 d)
  res : five.Blk W0 (w.heap.size + 1 + 1 + 1) 5 (fun _ => .int .i64 0)
  size : W0.heap.size = w.heap.size + 4
  below : Below w.heap.size w W0
theorem on4_is (w : World) (f t d : Int) : On4 w ((((w.alloc (.cells #[.int .i64 f] 2)).alloc (.cells #[.int .i64 t] 2)).alloc (.cells #[.int .i64 d] 2)).alloc (.cells #[.int .i64 0, .int .i64 0, .int .i64 0, .int .i64 0, .int .i64 0] 25)) f t d := by
  obtain ⟨w1, e1⟩ : ∃ w1, w1 = w.alloc (.cells #[.int .i64 f] 2) := ⟨_, rfl⟩
  have s1 : w1.heap.size = w.heap.size + 1 := by rw [e1]; simp
  obtain ⟨w2, e2⟩ : ∃ w2, w2 = w1.alloc (.cells #[.int .i64 t] 2) := ⟨_, rfl⟩
  have s2 : w2.heap.size = w.heap.size + 1 + 1 := by rw [e2]; simp [s1]
  obtain ⟨w3, e3⟩ : ∃ w3, w3 = w2.alloc (.cells #[.int .i64 d] 2) := ⟨_, rfl⟩
  have s3 : w3.heap.size = w.heap.size + 1 + 1 + 1 := by rw [e3]; simp [s2]
  obtain ⟨w4, e4⟩ : ∃ w4, w4 = w3.alloc (.cells #[.int .i64 0, .int .i64 0, .int .i64 0, .int .i64 0, .int .i64 0] 25) := ⟨_, rfl⟩
  rw [← e1, ← e2, ← e3, ← e4]
  have b34 : Below w3.heap.size w3 w4 := by rw [e4]; exact (five.Grew.alloc _ _).below
  have b24 : Below w2.heap.size w2 w4 := (by rw [e3] at b34 ⊢; exact (five.Grew.alloc _ _).below : Below w2.heap.size w2 w3).trans (b34.mono (by rw [s2, s3]; omega))
  have b14 : Below w1.heap.size w1 w4 := (by rw [e2]; exact (five.Grew.alloc _ _).below : Below w1.heap.size w1 w2).trans (b24.mono (by rw [s1, s2]; omega))
  have b04 : Below w.heap.size w w4 := (by rw [e1]; exact (five.Grew.alloc _ _).below : Below w.heap.size w w1).trans (b14.mono (by rw [s1]; omega))
  refine ⟨?_, ?_, ?_, ?_, by rw [e4]; simp [s3], b04⟩
  · rw [b14.cell (p := ⟨w.heap.size, 0, none⟩) (by rw [s1]; exact Nat.lt_succ_self _), e1]; exact five.box_cell (five.box_refl w _) 0 rfl
  · rw [b24.cell (p := ⟨w.heap.size + 1, 0, none⟩) (by rw [s2]; exact Nat.lt_succ_self _), e2, ← s1]; exact five.box_cell (five.box_refl w1 _) 0 rfl
  · rw [b34.cell (p := ⟨w.heap.size + 1 + 1, 0, none⟩) (by rw [s3]; exact Nat.lt_succ_self _), e3, ← s2]; exact five.box_cell (five.box_refl w2 _) 0 rfl
  · have h := blk5 w3
    rw [← e4, s3] at h
    exact h
set_option maxRecDepth 40000 in
set_option maxHeartbeats 4000000 in
theorem onI (w : World) (a : Option Addr) (cap g : Nat) (l : List F5) (f t d : Int) (r : Row w a cap g l) (hn : l.length ≤ 1048577) : Calls Try.prog 20 #[.slice a l.length cap, .int .i64 f, .int .i64 t, .int .i64 d] w (fun e w' => e = .returned (onv (ron l f t d)) ∧ Below w.heap.size w w') := by
  have R := Lib.hid r
  have HN := Lib.hid hn
  have H4 := Lib.hid (on4_is w f t d)
  clear r hn
  go_enter Try.func20, Try.ntmps20
  go_wp2_with fail
  generalize ((((w.alloc (.cells #[.int .i64 f] 2)).alloc (.cells #[.int .i64 t] 2)).alloc (.cells #[.int .i64 d] 2)).alloc (.cells #[.int .i64 0, .int .i64 0, .int .i64 0, .int .i64 0, .int .i64 0] 25)) = W0 at H4 ⊢
  have hsz := H4.out.size
  have R0 := Lib.hid (R.out.keep (w' := W0) fun h => H4.out.below.block g (R.out.lt h))
  have CL := Lib.hid (rsI W0 a cap g l R0.out HN.out)
  refine CL.out.mono ?_
  rintro e w1 ⟨rfl, b1⟩
  have YY := Lib.hid (H4.out.res.keep (w' := w1) (b1.block _ H4.out.res.lt) b1.size)
  have B1 := Lib.hid (H4.out.below.trans (b1.mono H4.out.below.size))
  have L1 := Lib.hid b1
  have z1 := b1.size
  clear b1 CL
  cases hv : led.lv l with
  | false =>
    have E := Lib.hid (show ron l f t d = none from by unfold ron; rw [if_neg (by rw [hv]; decide)])
    have p0 := YY.out.cell 0 (by omega)
    have r0 := YY.out.free 0
    have p1 := YY.out.cell 1 (by omega)
    have r1 := YY.out.free 1
    have p2 := YY.out.cell 2 (by omega)
    have r2 := YY.out.free 2
    have p3 := YY.out.cell 3 (by omega)
    have r3 := YY.out.free 3
    have p4 := YY.out.cell 4 (by omega)
    have r4 := YY.out.free 4
    go_wp2
    have YF := (((((YY.out.set (k := 0) (by omega) (.int .i64 0)).set (k := 1) (by omega) (.int .i64 0)).set (k := 2) (by omega) (.int .i64 0)).set (k := 3) (by omega) (.int .i64 0)).set (k := 4) (by omega) (.int .i64 0))
    have BF := (((((B1.out.setCell (p := ⟨w.heap.size + 1 + 1 + 1, 0, none⟩) (by show w.heap.size ≤ w.heap.size + 1 + 1 + 1; omega) (.int .i64 0)).setCell (p := ⟨w.heap.size + 1 + 1 + 1, 1, none⟩) (by show w.heap.size ≤ w.heap.size + 1 + 1 + 1; omega) (.int .i64 0)).setCell (p := ⟨w.heap.size + 1 + 1 + 1, 2, none⟩) (by show w.heap.size ≤ w.heap.size + 1 + 1 + 1; omega) (.int .i64 0)).setCell (p := ⟨w.heap.size + 1 + 1 + 1, 3, none⟩) (by show w.heap.size ≤ w.heap.size + 1 + 1 + 1; omega) (.int .i64 0)).setCell (p := ⟨w.heap.size + 1 + 1 + 1, 4, none⟩) (by show w.heap.size ≤ w.heap.size + 1 + 1 + 1; omega) (.int .i64 0))
    generalize (((((w1.setCell ⟨w.heap.size + 1 + 1 + 1, 0, none⟩ (.int .i64 0)).setCell ⟨w.heap.size + 1 + 1 + 1, 1, none⟩ (.int .i64 0)).setCell ⟨w.heap.size + 1 + 1 + 1, 2, none⟩ (.int .i64 0)).setCell ⟨w.heap.size + 1 + 1 + 1, 3, none⟩ (.int .i64 0)).setCell ⟨w.heap.size + 1 + 1 + 1, 4, none⟩ (.int .i64 0)) = W6 at YF BF ⊢
    have c0 : W6.cell? ⟨w.heap.size + 1 + 1 + 1, 0, none⟩ = some (.int .i64 0) := YF.cell 0 (by omega)
    have c1 : W6.cell? ⟨w.heap.size + 1 + 1 + 1, 1, none⟩ = some (.int .i64 0) := YF.cell 1 (by omega)
    have c2 : W6.cell? ⟨w.heap.size + 1 + 1 + 1, 2, none⟩ = some (.int .i64 0) := YF.cell 2 (by omega)
    have c3 : W6.cell? ⟨w.heap.size + 1 + 1 + 1, 3, none⟩ = some (.int .i64 0) := YF.cell 3 (by omega)
    have c4 : W6.cell? ⟨w.heap.size + 1 + 1 + 1, 4, none⟩ = some (.int .i64 0) := YF.cell 4 (by omega)
    have BFh := Lib.hid BF
    clear YF BF
    clear p0 p1 p2 p3 p4 r0 r1 r2 r3 r4
    refine bodyPost_ret (v := .tuple #[.agg #[.int .i64 0, .int .i64 0, .int .i64 0, .int .i64 0, .int .i64 0], .bool false]) (by simp [results, Try.results20, go_sem, c0, c1, c2, c3, c4]) rfl ⟨by rw [E.out]; rfl, BFh.out⟩
  | true =>
    have E := Lib.hid (show ron l f t d = led.lastK l f t d l.length from by unfold ron; rw [if_pos hv])
    have CW := Lib.hid (lastW w1 a cap g l (R0.out.keep (w' := w1) fun h => L1.out.block g (R0.out.lt h)) HN.out w.heap.size (w.heap.size + 1) (w.heap.size + 1 + 1) f t d ((L1.out.cell (p := ⟨w.heap.size, 0, none⟩) (by show w.heap.size < _; omega)).trans H4.out.f) ((L1.out.cell (p := ⟨w.heap.size + 1, 0, none⟩) (by show w.heap.size + 1 < _; omega)).trans H4.out.t) ((L1.out.cell (p := ⟨w.heap.size + 1 + 1, 0, none⟩) (by show w.heap.size + 1 + 1 < _; omega)).trans H4.out.d) (by omega) (by omega) (by omega))
    obtain ⟨o, ho⟩ : ∃ o, o = led.lastK l f t d l.length := ⟨_, rfl⟩
    rw [← ho] at CW E
    clear ho hv
    go_wp2_with fail
    refine CW.out.mono ?_
    rintro e w2 ⟨rfl, b2⟩
    have Y2 := Lib.hid (YY.out.keep (w' := w2) (b2.block _ YY.out.lt) b2.size)
    have B2 := Lib.hid (B1.out.trans (b2.mono B1.out.size))
    clear b2 CW YY
    have YY := Y2
    clear Y2
    have p0 := YY.out.cell 0 (by omega)
    have r0 := YY.out.free 0
    have p1 := YY.out.cell 1 (by omega)
    have r1 := YY.out.free 1
    have p2 := YY.out.cell 2 (by omega)
    have r2 := YY.out.free 2
    have p3 := YY.out.cell 3 (by omega)
    have r3 := YY.out.free 3
    have p4 := YY.out.cell 4 (by omega)
    have r4 := YY.out.free 4
    cases o with
    | none =>
      unfold onv
      go_wp2
      have YF := (((((YY.out.set (k := 0) (by omega) (.int .i64 0)).set (k := 1) (by omega) (.int .i64 0)).set (k := 2) (by omega) (.int .i64 0)).set (k := 3) (by omega) (.int .i64 0)).set (k := 4) (by omega) (.int .i64 0))
      have BF := (((((B2.out.setCell (p := ⟨w.heap.size + 1 + 1 + 1, 0, none⟩) (by show w.heap.size ≤ w.heap.size + 1 + 1 + 1; omega) (.int .i64 0)).setCell (p := ⟨w.heap.size + 1 + 1 + 1, 1, none⟩) (by show w.heap.size ≤ w.heap.size + 1 + 1 + 1; omega) (.int .i64 0)).setCell (p := ⟨w.heap.size + 1 + 1 + 1, 2, none⟩) (by show w.heap.size ≤ w.heap.size + 1 + 1 + 1; omega) (.int .i64 0)).setCell (p := ⟨w.heap.size + 1 + 1 + 1, 3, none⟩) (by show w.heap.size ≤ w.heap.size + 1 + 1 + 1; omega) (.int .i64 0)).setCell (p := ⟨w.heap.size + 1 + 1 + 1, 4, none⟩) (by show w.heap.size ≤ w.heap.size + 1 + 1 + 1; omega) (.int .i64 0))
      generalize (((((w2.setCell ⟨w.heap.size + 1 + 1 + 1, 0, none⟩ (.int .i64 0)).setCell ⟨w.heap.size + 1 + 1 + 1, 1, none⟩ (.int .i64 0)).setCell ⟨w.heap.size + 1 + 1 + 1, 2, none⟩ (.int .i64 0)).setCell ⟨w.heap.size + 1 + 1 + 1, 3, none⟩ (.int .i64 0)).setCell ⟨w.heap.size + 1 + 1 + 1, 4, none⟩ (.int .i64 0)) = W6 at YF BF ⊢
      have c0 : W6.cell? ⟨w.heap.size + 1 + 1 + 1, 0, none⟩ = some (.int .i64 0) := YF.cell 0 (by omega)
      have c1 : W6.cell? ⟨w.heap.size + 1 + 1 + 1, 1, none⟩ = some (.int .i64 0) := YF.cell 1 (by omega)
      have c2 : W6.cell? ⟨w.heap.size + 1 + 1 + 1, 2, none⟩ = some (.int .i64 0) := YF.cell 2 (by omega)
      have c3 : W6.cell? ⟨w.heap.size + 1 + 1 + 1, 3, none⟩ = some (.int .i64 0) := YF.cell 3 (by omega)
      have c4 : W6.cell? ⟨w.heap.size + 1 + 1 + 1, 4, none⟩ = some (.int .i64 0) := YF.cell 4 (by omega)
      have BFh := Lib.hid BF
      clear YF BF
      clear p0 p1 p2 p3 p4 r0 r1 r2 r3 r4
      refine bodyPost_ret (v := .tuple #[.agg #[.int .i64 0, .int .i64 0, .int .i64 0, .int .i64 0, .int .i64 0], .bool false]) (by simp [results, Try.results20, go_sem, c0, c1, c2, c3, c4]) rfl ⟨by rw [E.out]; rfl, BFh.out⟩
    | some x =>
      unfold onv
      go_wp2
      have YF := (((((YY.out.set (k := 0) (by omega) (.int .i64 x.1)).set (k := 1) (by omega) (.int .i64 x.2.1)).set (k := 2) (by omega) (.int .i64 x.2.2.1)).set (k := 3) (by omega) (.int .i64 x.2.2.2.1)).set (k := 4) (by omega) (.int .i64 x.2.2.2.2))
      have BF := (((((B2.out.setCell (p := ⟨w.heap.size + 1 + 1 + 1, 0, none⟩) (by show w.heap.size ≤ w.heap.size + 1 + 1 + 1; omega) (.int .i64 x.1)).setCell (p := ⟨w.heap.size + 1 + 1 + 1, 1, none⟩) (by show w.heap.size ≤ w.heap.size + 1 + 1 + 1; omega) (.int .i64 x.2.1)).setCell (p := ⟨w.heap.size + 1 + 1 + 1, 2, none⟩) (by show w.heap.size ≤ w.heap.size + 1 + 1 + 1; omega) (.int .i64 x.2.2.1)).setCell (p := ⟨w.heap.size + 1 + 1 + 1, 3, none⟩) (by show w.heap.size ≤ w.heap.size + 1 + 1 + 1; omega) (.int .i64 x.2.2.2.1)).setCell (p := ⟨w.heap.size + 1 + 1 + 1, 4, none⟩) (by show w.heap.size ≤ w.heap.size + 1 + 1 + 1; omega) (.int .i64 x.2.2.2.2))
      generalize (((((w2.setCell ⟨w.heap.size + 1 + 1 + 1, 0, none⟩ (.int .i64 x.1)).setCell ⟨w.heap.size + 1 + 1 + 1, 1, none⟩ (.int .i64 x.2.1)).setCell ⟨w.heap.size + 1 + 1 + 1, 2, none⟩ (.int .i64 x.2.2.1)).setCell ⟨w.heap.size + 1 + 1 + 1, 3, none⟩ (.int .i64 x.2.2.2.1)).setCell ⟨w.heap.size + 1 + 1 + 1, 4, none⟩ (.int .i64 x.2.2.2.2)) = W6 at YF BF ⊢
      have c0 : W6.cell? ⟨w.heap.size + 1 + 1 + 1, 0, none⟩ = some (.int .i64 x.1) := YF.cell 0 (by omega)
      have c1 : W6.cell? ⟨w.heap.size + 1 + 1 + 1, 1, none⟩ = some (.int .i64 x.2.1) := YF.cell 1 (by omega)
      have c2 : W6.cell? ⟨w.heap.size + 1 + 1 + 1, 2, none⟩ = some (.int .i64 x.2.2.1) := YF.cell 2 (by omega)
      have c3 : W6.cell? ⟨w.heap.size + 1 + 1 + 1, 3, none⟩ = some (.int .i64 x.2.2.2.1) := YF.cell 3 (by omega)
      have c4 : W6.cell? ⟨w.heap.size + 1 + 1 + 1, 4, none⟩ = some (.int .i64 x.2.2.2.2) := YF.cell 4 (by omega)
      have BFh := Lib.hid BF
      clear YF BF
      clear p0 p1 p2 p3 p4 r0 r1 r2 r3 r4
      refine bodyPost_ret (v := .tuple #[.agg #[.int .i64 x.1, .int .i64 x.2.1, .int .i64 x.2.2.1, .int .i64 x.2.2.2.1, .int .i64 x.2.2.2.2], .bool true]) (by simp [results, Try.results20, go_sem, c0, c1, c2, c3, c4]) rfl ⟨by rw [E.out]; rfl, BFh.out⟩
end Go.Proofs.Ytnkdjnfbllkgiab.base
