/-
  Plain helpers of this seat's proofs: contracts of the functions that draw arguments from a code. Conditions: none.
-/
import Derived.Test.YtmnmijiikjpdnaaRows
import Derived.Test.YtmnmijiikjpdnaaLift
import Derived.Deep.QuietTactic
import Derived.BigQuiet
namespace Go.Proofs.Ytmnmijiikjpdnaa.draw
open Go.ChangeShapes Go.WideShapes Go.ChangeAt Go.RowKit
/-- A reader of a code lies in block b: its bytes lie below, its place is within them. -/
structure Rd (w : World) (b len : Nat) : Prop where
  lt : b < w.heap.size
  small : len ≤ 1048576
  bytes : ∃ a cap, w.cell? ⟨b, 0, none⟩ = some (.slice a len cap) ∧ ∀ i, i < len → ∃ c off z : Nat, a = some ⟨c, off, none⟩ ∧ c < b ∧ z < 256 ∧ w.cell? ⟨c, off + i, none⟩ = some (.int .u8 z)
  place : ∃ p : Nat, p ≤ len ∧ w.cell? ⟨b, 1, none⟩ = some (.int .i64 p)
  free : w.frozen? ⟨b, 1, none⟩ = false
/-- Of what lay there, block b alone may have turned. -/
structure Only (b : Nat) (w w' : World) : Prop where
  os : w'.os = w.os
  tape : w'.tape = w.tape
  output : w'.output = w.output
  size : w.heap.size ≤ w'.heap.size
  block : ∀ k, k < w.heap.size → k ≠ b → w'.heap[k]? = w.heap[k]?
theorem Only.refl (b : Nat) (w : World) : Only b w w := ⟨rfl, rfl, rfl, Nat.le_refl _, fun _ _ _ => rfl⟩
theorem Only.trans {b : Nat} {x y z : World} (h : Only b x y) (k : Only b y z) : Only b x z :=
  ⟨k.os.trans h.os, k.tape.trans h.tape, k.output.trans h.output, Nat.le_trans h.size k.size, fun i hi hne => (k.block i (Nat.lt_of_lt_of_le hi h.size) hne).trans (h.block i hi hne)⟩
theorem Only.drewN {b : Nat} {x y : World} (h : Only b x y) (n : Nat) : Only b x (y.drewN n) := h.trans ⟨rfl, rfl, rfl, Nat.le_refl _, fun _ _ _ => rfl⟩
theorem Only.set {b : Nat} {x y : World} (h : Only b x y) (o : Nat) (v : Value) : Only b x (y.setCell ⟨b, o, none⟩ v) :=
  h.trans ⟨rfl, rfl, rfl, by simp [World.setCell], fun k _ hne => Below.heap_setCell y ⟨b, o, none⟩ v k hne⟩
theorem Only.alloc {b : Nat} {x y : World} (h : Only b x y) (o : Obj) : Only b x (y.alloc o) :=
  h.trans ⟨rfl, rfl, rfl, by simp, fun k hk _ => Below.heap_alloc y o k hk⟩
theorem Only.of_below {b : Nat} {x y : World} (h : Below x.heap.size x y) : Only b x y := ⟨h.os, h.tape, h.output, h.size, fun k hk _ => h.block k hk⟩
theorem Only.below {b : Nat} {x y : World} (h : Only b x y) (hb : b ≤ x.heap.size) : Below b x y := ⟨h.os, h.tape, h.output, h.size, fun k hk => h.block k (Nat.lt_of_lt_of_le hk hb) (Nat.ne_of_lt hk)⟩
theorem Only.cell {b : Nat} {x y : World} (h : Only b x y) {k o : Nat} (hk : k < x.heap.size) (hne : k ≠ b) : y.cell? ⟨k, o, none⟩ = x.cell? ⟨k, o, none⟩ := World.cell?_of_block (w := x) (h.block k hk hne)
/-- What a reading step leaves: a number within bounds, the reader on its way, nothing below turned. -/
def Got (w : World) (b len : Nat) (lo hi : Int) (e : Ending) (w' : World) : Prop :=
  ∃ x : Int, lo ≤ x ∧ x ≤ hi ∧ e = .returned (.int .i64 x) ∧ Only b w w' ∧ Rd w' b len
theorem Rd.drewN {w : World} {b len : Nat} (r : Rd w b len) (n : Nat) : Rd (w.drewN n) b len := ⟨r.lt, r.small, r.bytes, r.place, r.free⟩
/-- The reader stays where everything up to its block is kept. -/
theorem Rd.below {w w' : World} {b len B : Nat} (r : Rd w b len) (hb : Below B w w') (h : b < B) : Rd w' b len := by
  obtain ⟨lt, small, ⟨a, cap, c0, hrow⟩, ⟨p, hp, c1⟩, fr⟩ := r
  refine ⟨Nat.lt_of_lt_of_le lt hb.size, small, ⟨a, cap, (hb.cell h).trans c0, fun i hi => ?_⟩, ⟨p, hp, (hb.cell h).trans c1⟩, (hb.frozen h).trans fr⟩
  obtain ⟨c, off, z, e, hc, hz, hcell⟩ := hrow i hi
  exact ⟨c, off, z, e, hc, hz, (hb.cell (p := ⟨c, off + i, none⟩) (show c < B by omega)).trans hcell⟩
theorem Rd.alloc {w : World} {b len : Nat} (r : Rd w b len) (o : Obj) : Rd (w.alloc o) b len := r.below ((Below.refl w.heap.size w).alloc (Nat.le_refl _) o) r.lt
theorem Rd.step {w : World} {b len p : Nat} (r : Rd w b len) (hp : p < len) (hc : w.cell? ⟨b, 1, none⟩ = some (.int .i64 p)) : Rd (w.setCell ⟨b, 1, none⟩ (.int .i64 ((p : Int) + 1))) b len := by
  obtain ⟨lt, small, ⟨a, cap, c0, hrow⟩, _, fr⟩ := r
  have hs : (w.setCell ⟨b, 1, none⟩ (.int .i64 ((p : Int) + 1))).heap.size = w.heap.size := by simp [World.setCell]
  refine ⟨by rw [hs]; exact lt, small, ⟨a, cap, by go_simp, fun i hi => ?_⟩, ⟨p + 1, by omega, ?_⟩, by go_simp⟩
  · obtain ⟨c, off, z, e, hc, hz, hcell⟩ := hrow i hi
    exact ⟨c, off, z, e, hc, hz, by rw [World.cell?_of_block (Below.heap_setCell w ⟨b, 1, none⟩ _ c (by show c ≠ b; omega))]; exact hcell⟩
  · rw [show ((p + 1 : Nat) : Int) = (p : Int) + 1 from by omega]
    exact World.cell?_setCell_same' _ _ _ (by rw [hc]; rfl)
theorem next (w : World) (b len : Nat) (r : Rd w b len) : Calls Try.prog 70 #[.pointer (some ⟨b, 0, none⟩)] w (Got w b len 0 255) := by
  have R := Lib.hid r
  obtain ⟨lt, small, ⟨a, cap, c0, hrow⟩, ⟨p, hp, c1⟩, fr⟩ := r
  by_cases hlt : p < len
  · obtain ⟨c, off, z, rfl, hcb, hz, hcell⟩ := hrow p hlt
    clear hrow
    have t1 : decide (len ≤ p) = false := by simp; omega
    go_enter Try.func70, Try.ntmps70
    go_wp2
    go_quiet (fail)
    go_wp2
    go_quiet (fail)
    go_wp2
    go_ret
    exact ⟨z, by omega, by omega, rfl, (((Only.refl b w).drewN _).set _ _).drewN _, ((R.out.drewN _).step hlt c1).drewN _⟩
  · have t1 : decide (len ≤ p) = true := by simp; omega
    clear hrow
    go_enter Try.func70, Try.ntmps70
    go_wp2
    go_quiet (fail)
    go_wp2
    go_ret
    exact ⟨0, by omega, by omega, rfl, (Only.refl b w).drewN _, R.out.drewN _⟩
set_option maxHeartbeats 400000 in
theorem below (w : World) (b len : Nat) (n : Int) (r : Rd w b len) (h1 : 1 ≤ n) (h2 : n ≤ 1000000000000000) : Calls Try.prog 55 #[.pointer (some ⟨b, 0, none⟩), .int .i64 n] w (Got w b len 0 (n - 1)) := by
  have R := Lib.hid r
  clear r
  by_cases e1 : n ≤ 1
  · have t1 : decide (n ≤ 1) = true := by simp; omega
    go_enter Try.func55, Try.ntmps55
    go_wp2
    go_ret
    exact ⟨0, by omega, by omega, rfl, Only.refl _ _, R.out⟩
  · have t1 : decide (n ≤ 1) = false := by simp; omega
    by_cases e2 : n ≤ 256
    · have t2 : decide (n ≤ 256) = true := by simp; omega
      have n0 : (n == 0) = false := by simp; omega
      go_enter Try.func55, Try.ntmps55
      go_wp2_with fail
      refine (next w b len R.out).mono ?_
      rintro e w1 ⟨x, x1, x2, rfl, b1, r1⟩
      have R1 := Lib.hid r1
      have B1 := Lib.hid b1
      clear r1 b1
      go_wp2
      go_ret
      exact ⟨x % n, Int.emod_nonneg _ (by omega), by have := Int.emod_lt_of_pos x (show 0 < n by omega); omega, rfl, B1.out, R1.out⟩
    · have t2 : decide (n ≤ 256) = false := by simp; omega
      have n0 : (n == 0) = false := by simp; omega
      go_enter Try.func55, Try.ntmps55
      go_wp2_with fail
      refine (next w b len R.out).mono ?_
      rintro e w1 ⟨x, x1, x2, rfl, b1, r1⟩
      have R1 := Lib.hid r1
      have B1 := Lib.hid b1
      clear r1 b1
      go_wp2_with fail
      refine (next w1 b len R1.out).mono ?_
      rintro e w2 ⟨z, z1, z2, rfl, b2, r2⟩
      have R2 := Lib.hid r2
      have B2 := Lib.hid b2
      clear r2 b2
      go_wp2
      go_ret
      exact ⟨(x * 256 + z) % n, Int.emod_nonneg _ (by omega), by have := Int.emod_lt_of_pos (x * 256 + z) (show 0 < n by omega); omega, rfl, B1.out.trans B2.out, R2.out⟩
/-- A yes or no, drawn. -/
def GotB (w : World) (b len : Nat) (e : Ending) (w' : World) : Prop :=
  ∃ t : Bool, e = .returned (.bool t) ∧ Only b w w' ∧ Rd w' b len
theorem once (w : World) (b len : Nat) (n : Int) (r : Rd w b len) (h1 : 1 ≤ n) (h2 : n ≤ 1000000) : Calls Try.prog 59 #[.pointer (some ⟨b, 0, none⟩), .int .i64 n] w (GotB w b len) := by
  have R := Lib.hid r
  clear r
  go_enter Try.func59, Try.ntmps59
  go_wp2_with fail
  refine (below w b len n R.out h1 (by omega)).mono ?_
  rintro e w1 ⟨x, x1, x2, rfl, b1, r1⟩
  have R1 := Lib.hid r1
  have B1 := Lib.hid b1
  clear r1 b1
  go_wp2
  go_ret
  exact ⟨_, rfl, B1.out, R1.out⟩
end Go.Proofs.Ytmnmijiikjpdnaa.draw
