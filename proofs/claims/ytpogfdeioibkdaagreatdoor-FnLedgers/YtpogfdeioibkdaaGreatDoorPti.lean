/-
  Plain helpers of this seat's proofs: the landed text of a post. Conditions: none.
-/
import Derived.Test.YtpogfdeioibkdaaGreatDoorPte
namespace Go.Proofs.YtpogfdeioibkdaaGreatDoor.ptm
open Go.ChangeShapes Go.WideShapes Go.ChangeAt Go.RowKit
open led (F5 z5)
set_option maxRecDepth 20000 in
set_option maxHeartbeats 8000000 in
theorem bodyI (x : F5) (sm : Sm x) (hp : led.plok x = true) (hr : led.inR x.2.2.2.2 (-1000000000000000) 1000000000000000 = true) (w : World) (cu : cur.Cur w) (po : Pow w) (hw : 2 < w.heap.size) :
    Calls Tryz.prog 16 #[.agg #[.int .i64 x.1, .int .i64 x.2.1, .int .i64 x.2.2.1, .int .i64 x.2.2.2.1, .int .i64 x.2.2.2.2]] w fun e w' => e = .returned (.string ⟨(ptx x).toArray⟩) ∧ Below w.heap.size w w' := by
  have lt := cu.lt
  have CU := Lib.hid (fun W (hb : Below w.heap.size w W) => cu.below hb lt)
  have CP := Lib.hid (fun W (hb : Below w.heap.size w W) => Pow.below po hb hw)
  have D1 := Lib.hid (fun W h => decI x.1 (by have := sm.a; omega) (by have := sm.a; omega) W (CP.out W h))
  have D2 := Lib.hid (fun W h => decI x.2.1 (by have := sm.b; omega) (by have := sm.b; omega) W (CP.out W h))
  have D3 := Lib.hid (fun W h => decI x.2.2.1 (by have := sm.c; omega) (by have := sm.c; omega) W (CP.out W h))
  have D5 := Lib.hid (fun W h => decI x.2.2.2.2 (by have := sm.e; omega) (by have := sm.e; omega) W (CP.out W h))
  have D4 := Lib.hid (show ∀ W, Below w.heap.size w W → Calls Tryz.prog 40 #[.int .i64 x.2.2.2.1] W (fun e w' => e = .returned (.string ⟨(cod x.2.2.2.1.toNat).toArray⟩) ∧ W = w') from fun W h => by rw [← cdL_in sm.d]; exact cur.code_impl _ W (CU.out W h))
  have L1 := (itoa_len (z := x.1) (by have := sm.a; omega)).2
  have L2 := (itoa_len (z := x.2.1) (by have := sm.b; omega)).2
  have L3 := (itoa_len (z := x.2.2.1) (by have := sm.c; omega)).2
  have L5 := (itoa_len (z := x.2.2.2.2) (by have := sm.e; omega)).2
  have L4 := cod_len x.2.2.2.1.toNat
  have PX := Lib.hid (show ptx x = Lib.itoa x.1 ++ 46 :: (Lib.itoa x.2.1 ++ 46 :: Lib.itoa x.2.2.1) ++ 32 :: (cod x.2.2.2.1.toNat ++ 32 :: Lib.itoa x.2.2.2.2) from rfl)
  have FK := Lib.hid (fun W h => PB.new w x 36 (W := W) h)
  have CPL := Lib.hid (fun W => base.placeI x W)
  have CB := Lib.hid (fun W => base.balI x.2.2.2.2 W)
  rw [hp] at CPL
  rw [hr] at CB
  obtain ⟨T, hT⟩ : ∃ T, T = ptx x := ⟨_, rfl⟩
  rw [← hT] at PX ⊢
  obtain ⟨a, b, c, d, f⟩ := x
  dsimp only at D1 D2 D3 D4 D5 L1 L2 L3 L4 L5 PX FK CPL CB ⊢
  generalize Lib.itoa a = ta at D1 L1 PX
  generalize Lib.itoa b = tb at D2 L2 PX
  generalize Lib.itoa c = tc at D3 L3 PX
  generalize Lib.itoa f = tf at D5 L5 PX
  generalize cod d.toNat = td at D4 L4 PX
  obtain ⟨tac, htac⟩ : ∃ t, t = ta ++ 46 :: (tb ++ 46 :: tc) := ⟨_, rfl⟩
  have ltac : tac.length ≤ 60 := by rw [htac]; simp; omega
  have JA := Lib.hid (fun W => joinC 46 ta tb tc W (by omega) (by omega) (by omega))
  rw [← htac] at JA PX
  have JS := Lib.hid (fun W => sentC tac td tf W (by omega) (by omega) (by omega))
  obtain ⟨tt, htt⟩ : ∃ t, t = tac ++ 32 :: (td ++ 32 :: tf) := ⟨_, rfl⟩
  rw [← htt] at JS PX
  have B0 := Lib.hid (show Below w.heap.size w (w.alloc (.cells #[.int .i64 a, .int .i64 b, .int .i64 c, .int .i64 d, .int .i64 f] 36)) from five.bAl (Below.refl _ _) (Nat.le_refl _) _)
  have z0 : (w.alloc (.cells #[.int .i64 a, .int .i64 b, .int .i64 c, .int .i64 d, .int .i64 f] 36)).heap.size = w.heap.size + 1 := World.size_alloc _ _
  have X0 := Lib.hid (five.box_refl w (.cells #[.int .i64 a, .int .i64 b, .int .i64 c, .int .i64 d, .int .i64 f] 36))
  clear hT L1 L2 L3 L4 L5 sm htac htt ltac cu po hp hr
  go_enter Tryz.func16, Tryz.ntmps16
  go_wp2_with fail
  refine (CPL.out _).mono ?_
  rintro e w1 ⟨rfl, g1⟩
  have BA := Lib.hid (five.Grew.step B0.out (Nat.le_refl _) g1)
  have XA := Lib.hid (five.box_step X0.out g1.below)
  have FA := Lib.hid (FK.out w1 XA.out)
  have m4 := FA.out.c4
  dsimp only at m4
  clear g1
  go_wp2_with fail
  refine (CB.out _).mono ?_
  rintro e w' ⟨rfl, rfl⟩
  clear m4
  have FD := Lib.hid (FK.out w1.drew XA.out.drew)
  have BD := Lib.hid BA.out.drew
  have XD := Lib.hid XA.out.drew
  have zA : w.heap.size + 1 ≤ w1.drew.heap.size := by have := XA.out.size; rw [z0] at this; exact this
  go_wp2_with fail
  go_region_held3 (fun w' => w'.cell? ⟨w.heap.size, 0, none⟩ = some (.int .i64 a) ∧ w'.cell? ⟨w.heap.size, 1, none⟩ = some (.int .i64 b) ∧ w'.cell? ⟨w.heap.size, 2, none⟩ = some (.int .i64 c))
    (first | exact ⟨F8.out.c0, F8.out.c1, F8.out.c2⟩ | exact ⟨F7a.out.c0, F7a.out.c1, F7a.out.c2⟩ | exact ⟨F7.out.c0, F7.out.c1, F7.out.c2⟩ | exact ⟨F6.out.c0, F6.out.c1, F6.out.c2⟩ | exact ⟨F5.out.c0, F5.out.c1, F5.out.c2⟩ | exact ⟨FD.out.c0, FD.out.c1, FD.out.c2⟩ | exact ⟨FA.out.c0, FA.out.c1, FA.out.c2⟩ | go_keep)
    (first
      | (go_at_call 37; refine (JA.out w7).mono ?_; rintro e w8 ⟨rfl, b8⟩; have B8 := Lib.hid (B7.out.trans (b8.mono B7.out.size)); have X8 := Lib.hid (X7.out.trans (b8.mono (by have := X7.out.size; omega))); have F8 := Lib.hid (FK.out w8 X8.out); clear b8)
      | (go_at_call 38; refine (D3.out w6 B6.out).mono ?_; rintro e w7 ⟨rfl, b7⟩; have B7 := Lib.hid (B6.out.trans (b7.mono B6.out.size)); have X7 := Lib.hid (X6.out.trans (b7.mono (by have := X6.out.size; omega))); have F7 := Lib.hid (FK.out w7 X7.out); have F7a := Lib.hid (FK.out _ (five.box_al X7.out (.cells #[.string ⟨ta.toArray⟩, .string ⟨tb.toArray⟩, .string ⟨tc.toArray⟩] 9))); clear b7)
      | (go_at_call 38; refine (D2.out w5 B5.out).mono ?_; rintro e w6 ⟨rfl, b6⟩; have B6 := Lib.hid (B5.out.trans (b6.mono B5.out.size)); have X6 := Lib.hid (X5.out.trans (b6.mono (by have := X5.out.size; omega))); have F6 := Lib.hid (FK.out w6 X6.out); clear b6)
      | (go_at_call 38; refine (D1.out w1.drew BD.out).mono ?_; rintro e w5 ⟨rfl, b5⟩; have B5 := Lib.hid (BD.out.trans (b5.mono BD.out.size)); have X5 := Lib.hid (XD.out.trans (b5.mono (by omega))); have F5 := Lib.hid (FK.out w5 X5.out); clear b5))
  all_goals
    have E0 := Lib.hid (FK.out w8.drew X8.out.drew)
    have ED := Lib.hid (B8.out.drew)
    have EX := Lib.hid (X8.out.drew)
    have zE : w.heap.size + 1 ≤ w8.drew.heap.size := by have := X8.out.size; rw [z0] at this; exact this
    go_wp2_with fail
    go_region_held3 (fun w' => w'.cell? ⟨w.heap.size, 3, none⟩ = some (.int .i64 d) ∧ w'.cell? ⟨w.heap.size, 4, none⟩ = some (.int .i64 f))
      (first | exact ⟨F11.out.c3, F11.out.c4⟩ | exact ⟨F10a.out.c3, F10a.out.c4⟩ | exact ⟨F10.out.c3, F10.out.c4⟩ | exact ⟨E0.out.c3, E0.out.c4⟩ | exact ⟨F8.out.c3, F8.out.c4⟩ | go_keep)
      (first
        | (go_at_call 39; refine (JS.out w10).mono ?_; rintro e w11 ⟨rfl, b11⟩; have B11 := Lib.hid (B10.out.trans (b11.mono B10.out.size)); have X11 := Lib.hid (X10.out.trans (b11.mono (by have := X10.out.size; omega))); have F11 := Lib.hid (FK.out w11 X11.out); clear b11)
        | (go_at_call 38; refine (D5.out w8.drew ED.out).mono ?_; rintro e w10 ⟨rfl, b10⟩; have B10 := Lib.hid (ED.out.trans (b10.mono ED.out.size)); have X10 := Lib.hid (EX.out.trans (b10.mono (by omega))); have F10 := Lib.hid (FK.out w10 X10.out); have F10a := Lib.hid (FK.out _ (five.box_al X10.out (.cells #[.string ⟨tac.toArray⟩, .string ⟨td.toArray⟩, .string ⟨tf.toArray⟩] 9))); clear b10)
        | (go_at_call 40; refine (D4.out w8.drew ED.out).mono ?_; rintro e w9 ⟨rfl, rfl⟩))
    all_goals
      go_wp2
      go_ret
      exact ⟨by rw [PX.out]; rfl, B11.out⟩
end Go.Proofs.YtpogfdeioibkdaaGreatDoor.ptm
