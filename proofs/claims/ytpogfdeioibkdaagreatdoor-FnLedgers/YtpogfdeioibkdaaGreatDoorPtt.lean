/-
  Plain helpers of this seat's proofs: the text of a post, on both sides. Conditions: none.
-/
import Derived.Test.YtpogfdeioibkdaaGreatDoorDgt
import Derived.Test.YtpogfdeioibkdaaGreatDoorDcz
import Derived.Test.YtpogfdeioibkdaaGreatDoorCut8
import Derived.Test.YtpogfdeioibkdaaGreatDoorPst
import Derived.Deep.RegionHeld3
import Derived.Deep.RegionWith
namespace Go.Proofs.YtpogfdeioibkdaaGreatDoor.ptm
open Go.ChangeShapes Go.WideShapes Go.ChangeAt Go.RowKit
open led (F5 z5)
def pcs (x : F5) : Array Value := #[.int .i64 x.1, .int .i64 x.2.1, .int .i64 x.2.2.1, .int .i64 x.2.2.2.1, .int .i64 x.2.2.2.2]
/-- The five cells of a boxed post. -/
structure PB (w : World) (b : Nat) (x : F5) : Prop where
  c0 : w.cell? ⟨b, 0, none⟩ = some (.int .i64 x.1)
  c1 : w.cell? ⟨b, 1, none⟩ = some (.int .i64 x.2.1)
  c2 : w.cell? ⟨b, 2, none⟩ = some (.int .i64 x.2.2.1)
  c3 : w.cell? ⟨b, 3, none⟩ = some (.int .i64 x.2.2.2.1)
  c4 : w.cell? ⟨b, 4, none⟩ = some (.int .i64 x.2.2.2.2)
theorem PB.new (w : World) (x : F5) (t : TypeId) {W : World} (h : Below (w.heap.size + 1) (w.alloc (.cells #[.int .i64 x.1, .int .i64 x.2.1, .int .i64 x.2.2.1, .int .i64 x.2.2.2.1, .int .i64 x.2.2.2.2] t)) W) : PB W w.heap.size x :=
  ⟨five.box_cell h 0 rfl, five.box_cell h 1 rfl, five.box_cell h 2 rfl, five.box_cell h 3 rfl, five.box_cell h 4 rfl⟩
theorem cdL_in {k : Int} (h : 0 ≤ k ∧ k ≤ 5) : cur.cdL k = cod k.toNat := by unfold cur.cdL; rw [if_pos h]
set_option maxRecDepth 20000 in
set_option maxHeartbeats 4000000 in
theorem postS (x : F5) (sm : Sm x) (w : World) : Calls Tryz.prog 26 #[.agg #[.int .i64 x.1, .int .i64 x.2.1, .int .i64 x.2.2.1, .int .i64 x.2.2.2.1, .int .i64 x.2.2.2.2]] w fun e w' => e = .returned (.string ⟨(ptx x).toArray⟩) ∧ Below w.heap.size w w' := by
  have D1 := Lib.hid (fun W => dec.l1DecZ x.1 W (by have := sm.a; omega) (by have := sm.a; omega))
  have D2 := Lib.hid (fun W => dec.l1DecZ x.2.1 W (by have := sm.b; omega) (by have := sm.b; omega))
  have D3 := Lib.hid (fun W => dec.l1DecZ x.2.2.1 W (by have := sm.c; omega) (by have := sm.c; omega))
  have D5 := Lib.hid (fun W => dec.l1DecZ x.2.2.2.2 W (by have := sm.e; omega) (by have := sm.e; omega))
  have D4 := Lib.hid (show ∀ W, Calls Tryz.prog 61 #[.int .i64 x.2.2.2.1] W (fun e w' => e = .returned (.string ⟨(cod x.2.2.2.1.toNat).toArray⟩) ∧ Below W.heap.size W w') from fun W => by rw [← cdL_in sm.d]; exact cur.code_spec _ W)
  have L1 := (itoa_len (z := x.1) (by have := sm.a; omega)).2
  have L2 := (itoa_len (z := x.2.1) (by have := sm.b; omega)).2
  have L3 := (itoa_len (z := x.2.2.1) (by have := sm.c; omega)).2
  have L5 := (itoa_len (z := x.2.2.2.2) (by have := sm.e; omega)).2
  have L4 := cod_len x.2.2.2.1.toNat
  have PX := Lib.hid (show ptx x = Lib.itoa x.1 ++ 46 :: (Lib.itoa x.2.1 ++ 46 :: Lib.itoa x.2.2.1) ++ 32 :: (cod x.2.2.2.1.toNat ++ 32 :: Lib.itoa x.2.2.2.2) from rfl)
  have FK := Lib.hid (fun W h => PB.new w x 36 (W := W) h)
  obtain ⟨T, hT⟩ : ∃ T, T = ptx x := ⟨_, rfl⟩
  rw [← hT] at PX ⊢
  obtain ⟨a, b, c, d, f⟩ := x
  dsimp only at D1 D2 D3 D4 D5 L1 L2 L3 L4 L5 PX FK ⊢
  generalize Lib.itoa a = ta at D1 L1 PX
  generalize Lib.itoa b = tb at D2 L2 PX
  generalize Lib.itoa c = tc at D3 L3 PX
  generalize Lib.itoa f = tf at D5 L5 PX
  generalize cod d.toNat = td at D4 L4 PX
  have s1 : (⟨#[46]⟩ : ByteArray).size = 1 := rfl
  have s2 : (⟨#[32]⟩ : ByteArray).size = 1 := rfl
  have za : (⟨ta.toArray⟩ : ByteArray).size ≤ 17 := L1
  have zb : (⟨tb.toArray⟩ : ByteArray).size ≤ 17 := L2
  have zc : (⟨tc.toArray⟩ : ByteArray).size ≤ 17 := L3
  have zf : (⟨tf.toArray⟩ : ByteArray).size ≤ 17 := L5
  have zd : (⟨td.toArray⟩ : ByteArray).size ≤ 3 := by show td.length ≤ 3; omega
  obtain ⟨A1, h1⟩ : ∃ A, A = (⟨ta.toArray⟩ : ByteArray) ++ ⟨#[46]⟩ := ⟨_, rfl⟩
  obtain ⟨A2, h2⟩ : ∃ A, A = A1 ++ (⟨tb.toArray⟩ : ByteArray) := ⟨_, rfl⟩
  obtain ⟨A3, h3⟩ : ∃ A, A = A2 ++ (⟨#[46]⟩ : ByteArray) := ⟨_, rfl⟩
  obtain ⟨A4, h4⟩ : ∃ A, A = A3 ++ (⟨tc.toArray⟩ : ByteArray) := ⟨_, rfl⟩
  obtain ⟨A5, h5⟩ : ∃ A, A = A4 ++ (⟨#[32]⟩ : ByteArray) := ⟨_, rfl⟩
  obtain ⟨A6, h6⟩ : ∃ A, A = A5 ++ (⟨td.toArray⟩ : ByteArray) := ⟨_, rfl⟩
  obtain ⟨A7, h7⟩ : ∃ A, A = A6 ++ (⟨#[32]⟩ : ByteArray) := ⟨_, rfl⟩
  obtain ⟨A8, h8⟩ : ∃ A, A = A7 ++ (⟨tf.toArray⟩ : ByteArray) := ⟨_, rfl⟩
  have g1 : A1.size ≤ 20 := by rw [h1, ByteArray.size_append]; omega
  have g2 : A2.size ≤ 40 := by rw [h2, ByteArray.size_append]; omega
  have g3 : A3.size ≤ 41 := by rw [h3, ByteArray.size_append]; omega
  have g4 : A4.size ≤ 60 := by rw [h4, ByteArray.size_append]; omega
  have g5 : A5.size ≤ 61 := by rw [h5, ByteArray.size_append]; omega
  have g6 : A6.size ≤ 70 := by rw [h6, ByteArray.size_append]; omega
  have g7 : A7.size ≤ 71 := by rw [h7, ByteArray.size_append]; omega
  have r1 : ∀ W, Sem.run Tryz.prog (Op.stringOp .add (⟨ta.toArray⟩ : ByteArray) ⟨#[46]⟩) W = .ok (.string A1) W := fun W => by rw [h1]; exact run_string_add_sum W _ _ (by omega)
  have r2 : ∀ W, Sem.run Tryz.prog (Op.stringOp .add A1 ⟨tb.toArray⟩) W = .ok (.string A2) W := fun W => by rw [h2]; exact run_string_add_sum W _ _ (by omega)
  have r3 : ∀ W, Sem.run Tryz.prog (Op.stringOp .add A2 ⟨#[46]⟩) W = .ok (.string A3) W := fun W => by rw [h3]; exact run_string_add_sum W _ _ (by omega)
  have r4 : ∀ W, Sem.run Tryz.prog (Op.stringOp .add A3 ⟨tc.toArray⟩) W = .ok (.string A4) W := fun W => by rw [h4]; exact run_string_add_sum W _ _ (by omega)
  have r5 : ∀ W, Sem.run Tryz.prog (Op.stringOp .add A4 ⟨#[32]⟩) W = .ok (.string A5) W := fun W => by rw [h5]; exact run_string_add_sum W _ _ (by omega)
  have r6 : ∀ W, Sem.run Tryz.prog (Op.stringOp .add A5 ⟨td.toArray⟩) W = .ok (.string A6) W := fun W => by rw [h6]; exact run_string_add_sum W _ _ (by omega)
  have r7 : ∀ W, Sem.run Tryz.prog (Op.stringOp .add A6 ⟨#[32]⟩) W = .ok (.string A7) W := fun W => by rw [h7]; exact run_string_add_sum W _ _ (by omega)
  have r8 : ∀ W, Sem.run Tryz.prog (Op.stringOp .add A7 ⟨tf.toArray⟩) W = .ok (.string A8) W := fun W => by rw [h8]; exact run_string_add_sum W _ _ (by omega)
  have ST := Lib.hid (show A8 = ⟨T.toArray⟩ from by
    rw [h8, h7, h6, h5, h4, h3, h2, h1, PX.out, show (⟨#[46]⟩ : ByteArray) = ⟨[46].toArray⟩ from rfl, show (⟨#[32]⟩ : ByteArray) = ⟨[32].toArray⟩ from rfl]
    repeat rw [dec.cat]
    simp)
  have b0 : Below w.heap.size w (w.alloc (.cells #[.int .i64 a, .int .i64 b, .int .i64 c, .int .i64 d, .int .i64 f] 36)) := five.bAl (Below.refl _ _) (Nat.le_refl _) _
  have B0 := Lib.hid b0
  have z0 : (w.alloc (.cells #[.int .i64 a, .int .i64 b, .int .i64 c, .int .i64 d, .int .i64 f] 36)).heap.size = w.heap.size + 1 := World.size_alloc _ _
  have X0 := Lib.hid (five.box_refl w (.cells #[.int .i64 a, .int .i64 b, .int .i64 c, .int .i64 d, .int .i64 f] 36))
  clear h1 h2 h3 h4 h5 h6 h7 h8 hT L1 L2 L3 L4 L5 za zb zc zd zf g1 g2 g3 g4 g5 g6 g7 s1 s2 b0 sm PX
  go_enter Tryz.func26, Tryz.ntmps26
  go_wp2_with fail
  generalize w.alloc (.cells #[.int .i64 a, .int .i64 b, .int .i64 c, .int .i64 d, .int .i64 f] 36) = W0 at B0 FK z0 X0 ⊢
  have F0 := Lib.hid (FK.out W0 X0.out)
  have FD := Lib.hid (FK.out W0.drew X0.out.drew)
  have BD := Lib.hid B0.out.drew
  have XD := Lib.hid X0.out.drew
  have zD : W0.drew.heap.size = w.heap.size + 1 := z0
  go_region_held3 (fun w' => w'.cell? ⟨w.heap.size, 0, none⟩ = some (.int .i64 a) ∧ w'.cell? ⟨w.heap.size, 1, none⟩ = some (.int .i64 b) ∧ w'.cell? ⟨w.heap.size, 2, none⟩ = some (.int .i64 c) ∧ w'.cell? ⟨w.heap.size, 3, none⟩ = some (.int .i64 d) ∧ w'.cell? ⟨w.heap.size, 4, none⟩ = some (.int .i64 f))
    (first | exact ⟨F9.out.c0, F9.out.c1, F9.out.c2, F9.out.c3, F9.out.c4⟩ | exact ⟨F8.out.c0, F8.out.c1, F8.out.c2, F8.out.c3, F8.out.c4⟩ | exact ⟨F7.out.c0, F7.out.c1, F7.out.c2, F7.out.c3, F7.out.c4⟩ | exact ⟨F6.out.c0, F6.out.c1, F6.out.c2, F6.out.c3, F6.out.c4⟩ | exact ⟨F5.out.c0, F5.out.c1, F5.out.c2, F5.out.c3, F5.out.c4⟩ | exact ⟨FD.out.c0, FD.out.c1, FD.out.c2, FD.out.c3, FD.out.c4⟩ | exact ⟨F0.out.c0, F0.out.c1, F0.out.c2, F0.out.c3, F0.out.c4⟩ | go_keep)
    (first
      | (go_at_call 60; refine (D5.out w8).mono ?_; rintro e w9 ⟨rfl, b9⟩; have B9 := Lib.hid (B8.out.trans (b9.mono B8.out.size)); have X9 := Lib.hid (X8.out.trans (b9.mono (by have := X8.out.size; omega))); have F9 := Lib.hid (FK.out w9 X9.out); clear b9)
      | (go_at_call 61; refine (D4.out w7).mono ?_; rintro e w8 ⟨rfl, b8⟩; have B8 := Lib.hid (B7.out.trans (b8.mono B7.out.size)); have X8 := Lib.hid (X7.out.trans (b8.mono (by have := X7.out.size; omega))); have F8 := Lib.hid (FK.out w8 X8.out); clear b8)
      | (go_at_call 60; refine (D3.out w6).mono ?_; rintro e w7 ⟨rfl, b7⟩; have B7 := Lib.hid (B6.out.trans (b7.mono B6.out.size)); have X7 := Lib.hid (X6.out.trans (b7.mono (by have := X6.out.size; omega))); have F7 := Lib.hid (FK.out w7 X7.out); clear b7)
      | (go_at_call 60; refine (D2.out w5).mono ?_; rintro e w6 ⟨rfl, b6⟩; have B6 := Lib.hid (B5.out.trans (b6.mono B5.out.size)); have X6 := Lib.hid (X5.out.trans (b6.mono (by have := X5.out.size; omega))); have F6 := Lib.hid (FK.out w6 X6.out); clear b6)
      | (go_at_call 60; refine (D1.out W0.drew).mono ?_; rintro e w5 ⟨rfl, b5⟩; have B5 := Lib.hid (BD.out.trans (b5.mono BD.out.size)); have X5 := Lib.hid (XD.out.trans (b5.mono (by omega))); have F5 := Lib.hid (FK.out w5 X5.out); clear b5))
  all_goals
    go_wp2
    go_ret
    exact ⟨by rw [← ST.out]; rfl, B9.out⟩
end Go.Proofs.YtpogfdeioibkdaaGreatDoor.ptm
