/-
  Plain helpers of this seat's proofs: contracts of the functions that draw plans and amounts. Conditions: none.
-/
import Derived.Test.YtmnmijiikjpdnaaDrP
namespace Go.Proofs.Ytmnmijiikjpdnaa.base
open Go.ChangeShapes Go.WideShapes Go.ChangeAt Go.RowKit
open seven (F7 zz Row At)
open draw (Only Got GotB GotW Bytes)
/-- A plan and a number, drawn. -/
def GotPP (w : World) (e : Ending) (w' : World) : Prop := ∃ cap g, ∃ l : List F7, ∃ n : Int, e = .returned (.tuple #[.slice (some ⟨g, 0, none⟩) l.length cap, .int .i64 n]) ∧ Row w' (some ⟨g, 0, none⟩) cap g l ∧ w.heap.size ≤ g ∧ g < w'.heap.size ∧ 1 ≤ l.length ∧ l.length ≤ 24 ∧ Below w.heap.size w w'
set_option maxRecDepth 40000 in
set_option maxHeartbeats 1000000 in
theorem drawPay (a : Option Addr) (len cap : Nat) (w : World) (hB : Bytes w a len) (hn : len ≤ 1048576) : Calls Try.prog 34 #[.slice a len cap] w (GotPP w) := by
  have HB := Lib.hid hB
  clear hB
  go_enter Try.func34, Try.ntmps34
  go_wp2_with fail
  refine (draw.openRd a len cap w HB.out hn).mono ?_
  rintro e w1 ⟨rfl, r1, b1⟩
  have R1 := Lib.hid r1
  have B1 := Lib.hid b1
  have s1 : w.heap.size < w1.heap.size := r1.lt
  clear r1 b1
  obtain ⟨b, hb⟩ : ∃ b, b = w.heap.size := ⟨_, rfl⟩
  rw [← hb] at R1 ⊢
  have HBb := Lib.hid hb
  clear hb
  go_wp2_with fail
  refine (plan w1 b len R1.out).mono ?_
  rintro e w2 ⟨cp, g, l, rfl, rl, g1, g2, p1, p24, wfd, o2, r2⟩
  have RL := Lib.hid rl
  have R2 := Lib.hid r2
  have O2 := Lib.hid o2
  have lo : w.heap.size ≤ g := by omega
  have bg : g ≠ b := by have := HBb.out; omega
  clear rl r2 o2 wfd R1
  go_wp2_with fail
  refine (draw.once w2 b len 10 R2.out (by omega) (by omega)).mono ?_
  rintro e w3 ⟨t, rfl, o3, r3⟩
  have RL3 := Lib.hid (RL.out.keep (w' := w3) fun _ => o3.block g g2 bg)
  have R3 := Lib.hid r3
  have O3 := Lib.hid (O2.out.trans o3)
  have s3 := o3.size
  clear r3 o3 RL R2 O2
  cases t with
  | true =>
    go_wp2_with fail
    refine (draw.off w3 b len 0 1000000000000 R3.out (by omega) (by omega) (by omega)).mono ?_
    rintro e w4 ⟨n, wn, rfl, o4, r4⟩
    have FIN := Lib.hid (show GotPP w (.returned (.tuple #[.slice (some ⟨g, 0, none⟩) l.length cp, .int .i64 n])) w4 from ⟨cp, g, l, n, rfl, RL3.out.keep fun _ => o4.block g (by omega) bg, lo, by have := o4.size; omega, p1, p24, draw.back HBb.out B1.out (O3.out.trans o4)⟩)
    clear r4 o4 wn
    go_wp2
    go_ret2
    exact FIN.out
  | false =>
    go_wp2_with fail
    refine (draw.below w3 b len 40000 R3.out (by omega) (by omega)).mono ?_
    rintro e w4 ⟨n, n0, n1, rfl, o4, r4⟩
    have FIN := Lib.hid (show GotPP w (.returned (.tuple #[.slice (some ⟨g, 0, none⟩) l.length cp, .int .i64 n])) w4 from ⟨cp, g, l, n, rfl, RL3.out.keep fun _ => o4.block g (by omega) bg, lo, by have := o4.size; omega, p1, p24, draw.back HBb.out B1.out (O3.out.trans o4)⟩)
    clear r4 o4
    go_wp2
    go_ret2
    exact FIN.out
theorem drawCut (a : Option Addr) (len cap : Nat) (w : World) (hB : Bytes w a len) (hn : len ≤ 1048576) : Calls Try.prog 20 #[.slice a len cap] w (GotPP w) := by
  have HB := Lib.hid hB
  clear hB
  go_enter Try.func20, Try.ntmps20
  go_wp2_with fail
  refine (drawPay a len cap w HB.out hn).mono ?_
  rintro e w1 ⟨cp, g, l, n, rfl, rest⟩
  have RE := Lib.hid rest
  clear rest
  go_wp2
  go_ret2
  exact ⟨cp, g, l, n, rfl, RE.out⟩
theorem drawBack (a : Option Addr) (len cap : Nat) (w : World) (hB : Bytes w a len) (hn : len ≤ 1048576) : Calls Try.prog 27 #[.slice a len cap] w (GotPP w) := by
  have HB := Lib.hid hB
  clear hB
  go_enter Try.func27, Try.ntmps27
  go_wp2_with fail
  refine (drawPay a len cap w HB.out hn).mono ?_
  rintro e w1 ⟨cp, g, l, n, rfl, rest⟩
  have RE := Lib.hid rest
  clear rest
  go_wp2
  go_ret2
  exact ⟨cp, g, l, n, rfl, RE.out⟩
end Go.Proofs.Ytmnmijiikjpdnaa.base
