/-
  Plain helpers of this seat's proofs: contracts of the functions that draw plans and days. Conditions: none.
-/
import Derived.Test.YtmnmijiikjpdnaaDrL
import Derived.Deep.RegionHeld3
namespace Go.Proofs.Ytmnmijiikjpdnaa.base
open Go.ChangeShapes Go.WideShapes Go.ChangeAt Go.RowKit
open seven (F7 zz Row At)
open draw (Only Got GotB GotW Bytes)
set_option maxRecDepth 40000 in
set_option maxHeartbeats 2000000 in
theorem drawOff (a : Option Addr) (len cap : Nat) (w : World) (hB : Bytes w a len) (hn : len ≤ 1048576) : Calls Try.prog 60 #[.slice a len cap] w (GotPP w) := by
  have HB := Lib.hid hB
  clear hB
  go_enter Try.func60, Try.ntmps60
  go_wp2_with fail
  refine (draw.openRd a len cap w HB.out hn).mono ?_
  rintro e w1 ⟨rfl, r1, b1⟩
  have R1 := Lib.hid r1
  have B1 := Lib.hid b1
  have s1 : w.heap.size < w1.heap.size := r1.lt
  clear r1 b1
  obtain ⟨b, hb⟩ : ∃ b, b = w.heap.size := ⟨_, rfl⟩
  rw [← hb] at R1 ⊢
  have HBb := Lib.hid hb
  clear hb
  go_wp2_with fail
  refine (plan w1 b len R1.out).mono ?_
  rintro e w2 ⟨cp, g, l, rfl, rl, g1, g2, p1, p24, wfd, o2, r2⟩
  have RL := Lib.hid rl
  have R2 := Lib.hid r2
  have O2 := Lib.hid o2
  have lo : w.heap.size ≤ g := by omega
  have bg : g ≠ b := by have := HBb.out; omega
  clear rl r2 o2 wfd R1
  obtain ⟨L, hL⟩ : ∃ L, L = l.length := ⟨_, rfl⟩
  rw [← hL] at p1 p24 ⊢
  have HL := Lib.hid hL
  clear hL
  have u0 : decide (0 < L) = true := by simp; omega
  go_wp2_with fail
  refine (draw.once w2 b len 8 R2.out (by omega) (by omega)).mono ?_
  rintro e w3 ⟨t, rfl, o3, r3⟩
  have RL3 := Lib.hid (RL.out.keep (w' := w3) fun _ => o3.block g g2 bg)
  have R3 := Lib.hid r3
  have O3 := Lib.hid (O2.out.trans o3)
  have s3 := o3.size
  clear r3 o3 RL R2 O2
  cases t with
  | true =>
    go_wp2_with fail
    refine (draw.off w3 b len 0 100000 R3.out (by omega) (by omega) (by omega)).mono ?_
    rintro e w4 ⟨n, wn, rfl, o4, r4⟩
    have FIN := Lib.hid (show GotPP w (.returned (.tuple #[.slice (some ⟨g, 0, none⟩) L cp, .int .i64 n])) w4 from ⟨cp, g, l, n, by rw [HL.out], RL3.out.keep fun _ => o4.block g (by omega) bg, lo, by have := o4.size; omega, by rw [← HL.out]; exact p1, by rw [← HL.out]; exact p24, draw.back HBb.out B1.out (O3.out.trans o4)⟩)
    clear r4 o4 wn
    go_wp2
    go_ret2
    exact FIN.out
  | false =>
    have R3d := Lib.hid R3.out.drew
    have O3d := Lib.hid O3.out.drew
    have RLd := Lib.hid (RL3.out.keep (w' := w3.drew) fun _ => rfl)
    have rm := RLd.out.room
    rw [← HL.out] at rm
    have g3 : g < w3.heap.size := by omega
    have z0 : (0 : Int) ≤ 0 := by omega
    go_wp2_with fail
    have KS := Lib.hid (show ∀ w', Row w' (some ⟨g, 0, none⟩) cp g l → ∀ i, i < L → w'.cell? ⟨g, i * 7, none⟩ = some (.int .i64 (l.getD i zz).1) from fun w' r i hi => (r.cells i (by rw [← HL.out]; exact hi)).c0)
    go_region_held3 (fun w' => ∀ i, i < L → w'.cell? ⟨g, i * 7, none⟩ = some (.int .i64 (l.getD i zz).1)) (first | exact KS.out _ RLB.out | exact KS.out _ RLA.out | exact KS.out _ RLd.out | exact KS.out _ RL3.out | go_keep)
      (first
        | (go_at_call 55; refine (draw.below _ b len 3 RA.out (by omega) (by omega)).mono ?_; rintro e wB ⟨y, y0, y1, rfl, oB, rB⟩; have RLB := Lib.hid (RLA.out.keep (w' := wB) fun _ => oB.block g gA bg); have gB : g < wB.heap.size := Nat.lt_of_lt_of_le gA oB.size; have OB := Lib.hid (OA.out.trans oB); clear oB rB)
        | (go_at_call 55; refine (draw.below _ b len (L : Int) R3d.out (by omega) (by omega)).mono ?_; rintro e wA ⟨x, x0, x1, rfl, oA, rA⟩; obtain ⟨k, rfl⟩ := Int.eq_ofNat_of_zero_le x0; have hk : k < L := (by omega); have z1 : (k : Int) < (L : Int) := (by omega); have z2 : (0 : Int) ≤ (k : Int) := (by omega); have RA := Lib.hid rA; have RLA := Lib.hid (RLd.out.keep (w' := wA) fun _ => oA.block g g3 bg); have gA : g < wA.heap.size := Nat.lt_of_lt_of_le g3 oA.size; have OA := Lib.hid (O3d.out.trans oA); clear oA rA))
    all_goals
      have FIN := Lib.hid (show ∀ n, GotPP w (.returned (.tuple #[.slice (some ⟨g, 0, none⟩) L cp, .int .i64 n])) wB from fun n => ⟨cp, g, l, n, by rw [HL.out], RLB.out, lo, gB, by rw [← HL.out]; exact p1, by rw [← HL.out]; exact p24, draw.back HBb.out B1.out OB.out⟩)
      go_wp2
      go_ret2
      exact FIN.out _
theorem drawPaid (a : Option Addr) (len cap : Nat) (w : World) (hB : Bytes w a len) (hn : len ≤ 1048576) : Calls Try.prog 35 #[.slice a len cap] w (GotPP w) := by
  have HB := Lib.hid hB
  clear hB
  go_enter Try.func35, Try.ntmps35
  go_wp2_with fail
  refine (drawOff a len cap w HB.out hn).mono ?_
  rintro e w1 ⟨cp, g, l, n, rfl, rest⟩
  have RE := Lib.hid rest
  clear rest
  go_wp2
  go_ret2
  exact ⟨cp, g, l, n, rfl, RE.out⟩
end Go.Proofs.Ytmnmijiikjpdnaa.base
