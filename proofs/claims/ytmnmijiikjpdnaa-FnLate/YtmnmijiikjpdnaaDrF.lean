/-
  Plain helpers of this seat's proofs: the contract of the function that draws a plan, a day, a fee and days of grace. Conditions: none.
-/
import Derived.Test.YtmnmijiikjpdnaaDrL
import Derived.Deep.RegionHeld3
namespace Go.Proofs.Ytmnmijiikjpdnaa.base
open Go.ChangeShapes Go.WideShapes Go.ChangeAt Go.RowKit
open seven (F7 zz Row At)
open draw (Only Got GotB GotW Bytes)
/-- A plan and three numbers, drawn. -/
def GotP4 (w : World) (e : Ending) (w' : World) : Prop := ∃ cap g, ∃ l : List F7, ∃ d f p : Int, e = .returned (.tuple #[.slice (some ⟨g, 0, none⟩) l.length cap, .int .i64 d, .int .i64 f, .int .i64 p]) ∧ Row w' (some ⟨g, 0, none⟩) cap g l ∧ w.heap.size ≤ g ∧ g < w'.heap.size ∧ 1 ≤ l.length ∧ l.length ≤ 24 ∧ Below w.heap.size w w'
set_option maxRecDepth 40000 in
set_option maxHeartbeats 2000000 in
theorem drawLate (a : Option Addr) (len cap : Nat) (w : World) (hB : Bytes w a len) (hn : len ≤ 1048576) : Calls Try.prog 31 #[.slice a len cap] w (GotP4 w) := by
  have HB := Lib.hid hB
  clear hB
  go_enter Try.func31, Try.ntmps31
  go_wp2_with fail
  refine (draw.openRd a len cap w HB.out hn).mono ?_
  rintro e w1 ⟨rfl, r1, b1⟩
  have R1 := Lib.hid r1
  have B1 := Lib.hid b1
  have s1 : w.heap.size < w1.heap.size := r1.lt
  clear r1 b1
  obtain ⟨b, hb⟩ : ∃ b, b = w.heap.size := ⟨_, rfl⟩
  rw [← hb] at R1 ⊢
  have HBb := Lib.hid hb
  clear hb
  go_wp2_with fail
  refine (plan w1 b len R1.out).mono ?_
  rintro e w2 ⟨cp, g, l, rfl, rl, g1, g2, p1, p24, wfd, o2, r2⟩
  have RL := Lib.hid rl
  have R2 := Lib.hid r2
  have O2 := Lib.hid o2
  have lo : w.heap.size ≤ g := by omega
  have bg : g ≠ b := by have := HBb.out; omega
  clear rl r2 o2 wfd R1
  obtain ⟨L, hL⟩ : ∃ L, L = l.length := ⟨_, rfl⟩
  rw [← hL] at p1 p24 ⊢
  have HL := Lib.hid hL
  clear hL
  have u0 : decide (0 < L) = true := by simp; omega
  go_wp2_with fail
  refine (draw.below w2 b len 2500 R2.out (by omega) (by omega)).mono ?_
  rintro e w3 ⟨t, t0, t1, rfl, o3, r3⟩
  have RL3 := Lib.hid (RL.out.keep (w' := w3) fun _ => o3.block g g2 bg)
  have R3d := Lib.hid r3.drew
  have O3d := Lib.hid (O2.out.trans o3).drew
  have s3 := o3.size
  have RLd := Lib.hid (RL3.out.keep (w' := w3.drew) fun _ => rfl)
  clear r3 o3 RL R2 O2
  have rm := RLd.out.room
  rw [← HL.out] at rm
  have g3 : g < w3.heap.size := by omega
  have z0 : (0 : Int) ≤ 0 := by omega
  have KS := Lib.hid (show ∀ w', Row w' (some ⟨g, 0, none⟩) cp g l → ∀ i, i < L → w'.cell? ⟨g, i * 7, none⟩ = some (.int .i64 (l.getD i zz).1) from fun w' r i hi => (r.cells i (by rw [← HL.out]; exact hi)).c0)
  go_wp2_with fail
  go_region_held3 (fun w' => ∀ i, i < L → w'.cell? ⟨g, i * 7, none⟩ = some (.int .i64 (l.getD i zz).1)) (first | exact KS.out _ RLB.out | exact KS.out _ RLA.out | exact KS.out _ RLd.out | exact KS.out _ RL3.out | go_keep)
    (first
      | (go_at_call 55; refine (draw.below _ b len 20 RA.out (by omega) (by omega)).mono ?_; rintro e wB ⟨y, y0, y1, rfl, oB, rB⟩; have RB := Lib.hid rB; have RLB := Lib.hid (RLA.out.keep (w' := wB) fun _ => oB.block g gA bg); have gB : g < wB.heap.size := Nat.lt_of_lt_of_le gA oB.size; have OB := Lib.hid (OA.out.trans oB); clear oB rB)
      | (go_at_call 55; refine (draw.below _ b len (L : Int) R3d.out (by omega) (by omega)).mono ?_; rintro e wA ⟨x, x0, x1, rfl, oA, rA⟩; obtain ⟨k, rfl⟩ := Int.eq_ofNat_of_zero_le x0; have hk : k < L := (by omega); have z1 : (k : Int) < (L : Int) := (by omega); have z2 : (0 : Int) ≤ (k : Int) := (by omega); have RA := Lib.hid rA; have RLA := Lib.hid (RLd.out.keep (w' := wA) fun _ => oA.block g g3 bg); have gA : g < wA.heap.size := Nat.lt_of_lt_of_le g3 oA.size; have OA := Lib.hid (O3d.out.trans oA); clear oA rA))
  all_goals
    go_wp2_with fail
    refine (draw.off wB b len 0 2000 RB.out (by omega) (by omega) (by omega)).mono ?_
    rintro e w4 ⟨f, wf, rfl, o4, r4⟩
    have R4 := Lib.hid r4
    have RL4 := Lib.hid (RLB.out.keep (w' := w4) fun _ => o4.block g gB bg)
    have g4 : g < w4.heap.size := Nat.lt_of_lt_of_le gB o4.size
    have O4 := Lib.hid (OB.out.trans o4)
    clear o4 r4 wf
    go_wp2_with fail
    refine (draw.off w4 b len 0 12 R4.out (by omega) (by omega) (by omega)).mono ?_
    rintro e w5 ⟨p, wp, rfl, o5, r5⟩
    have FIN := Lib.hid (show ∀ dd, GotP4 w (.returned (.tuple #[.slice (some ⟨g, 0, none⟩) L cp, .int .i64 dd, .int .i64 f, .int .i64 p])) w5 from fun dd => ⟨cp, g, l, dd, f, p, by rw [HL.out], RL4.out.keep fun _ => o5.block g g4 bg, lo, Nat.lt_of_lt_of_le g4 o5.size, by rw [← HL.out]; exact p1, by rw [← HL.out]; exact p24, draw.back HBb.out B1.out (O4.out.trans o5)⟩)
    clear o5 r5 wp
    go_wp2
    refine bodyPost_ret (v := .tuple #[.slice (some ⟨g, 0, none⟩) L cp, .int .i64 (IntKind.i64.wrap ((l[k]?.getD zz).1 + y)), .int .i64 f, .int .i64 p]) (by simp [results, Try.results31, go_sem]) rfl (FIN.out _)
end Go.Proofs.Ytmnmijiikjpdnaa.base
