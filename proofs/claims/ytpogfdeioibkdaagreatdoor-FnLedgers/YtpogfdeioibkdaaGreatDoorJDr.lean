/-
  Plain helpers of this seat's proofs: contracts of the functions that draw arguments from a code. Conditions: none.
-/
import Derived.Test.YtpogfdeioibkdaaGreatDoorRows
import Derived.Test.YtpogfdeioibkdaaGreatDoorLift
import Derived.Deep.QuietTactic
import Derived.BigQuiet
import Derived.IntWalk
import Derived.Deep.RegionHeld3
namespace Go.Proofs.YtpogfdeioibkdaaGreatDoor.draw
open Go.ChangeShapes Go.WideShapes Go.ChangeAt Go.RowKit
/-- A reader of a code lies in block b: its bytes lie below, its place is within them. -/
structure Rd (w : World) (b len : Nat) : Prop where
  lt : b < w.heap.size
  small : len ≤ 1048576
  bytes : ∃ a cap, w.cell? ⟨b, 0, none⟩ = some (.slice a len cap) ∧ ∀ i, i < len → ∃ c off z : Nat, a = some ⟨c, off, none⟩ ∧ c < b ∧ z < 256 ∧ w.cell? ⟨c, off + i, none⟩ = some (.int .u8 z)
  place : ∃ p : Nat, p ≤ len ∧ w.cell? ⟨b, 1, none⟩ = some (.int .i64 p)
  free : w.frozen? ⟨b, 1, none⟩ = false
/-- Of what lay there, block b alone may have turned. -/
structure Only (b : Nat) (w w' : World) : Prop where
  os : w'.os = w.os
  tape : w'.tape = w.tape
  output : w'.output = w.output
  size : w.heap.size ≤ w'.heap.size
  block : ∀ k, k < w.heap.size → k ≠ b → w'.heap[k]? = w.heap[k]?
theorem Only.refl (b : Nat) (w : World) : Only b w w := ⟨rfl, rfl, rfl, Nat.le_refl _, fun _ _ _ => rfl⟩
theorem Only.trans {b : Nat} {x y z : World} (h : Only b x y) (k : Only b y z) : Only b x z :=
  ⟨k.os.trans h.os, k.tape.trans h.tape, k.output.trans h.output, Nat.le_trans h.size k.size, fun i hi hne => (k.block i (Nat.lt_of_lt_of_le hi h.size) hne).trans (h.block i hi hne)⟩
theorem Only.drewN {b : Nat} {x y : World} (h : Only b x y) (n : Nat) : Only b x (y.drewN n) := h.trans ⟨rfl, rfl, rfl, Nat.le_refl _, fun _ _ _ => rfl⟩
theorem Only.set {b : Nat} {x y : World} (h : Only b x y) (o : Nat) (v : Value) : Only b x (y.setCell ⟨b, o, none⟩ v) :=
  h.trans ⟨rfl, rfl, rfl, by simp [World.setCell], fun k _ hne => Below.heap_setCell y ⟨b, o, none⟩ v k hne⟩
theorem Only.alloc {b : Nat} {x y : World} (h : Only b x y) (o : Obj) : Only b x (y.alloc o) :=
  h.trans ⟨rfl, rfl, rfl, by simp, fun k hk _ => Below.heap_alloc y o k hk⟩
theorem Only.of_below {b : Nat} {x y : World} (h : Below x.heap.size x y) : Only b x y := ⟨h.os, h.tape, h.output, h.size, fun k hk _ => h.block k hk⟩
theorem Only.below {b : Nat} {x y : World} (h : Only b x y) (hb : b ≤ x.heap.size) : Below b x y := ⟨h.os, h.tape, h.output, h.size, fun k hk => h.block k (Nat.lt_of_lt_of_le hk hb) (Nat.ne_of_lt hk)⟩
theorem Only.cell {b : Nat} {x y : World} (h : Only b x y) {k o : Nat} (hk : k < x.heap.size) (hne : k ≠ b) : y.cell? ⟨k, o, none⟩ = x.cell? ⟨k, o, none⟩ := World.cell?_of_block (w := x) (h.block k hk hne)
/-- What a reading step leaves: a number within bounds, the reader on its way, nothing below turned. -/
def Got (w : World) (b len : Nat) (lo hi : Int) (e : Ending) (w' : World) : Prop :=
  ∃ x : Int, lo ≤ x ∧ x ≤ hi ∧ e = .returned (.int .i64 x) ∧ Only b w w' ∧ Rd w' b len
theorem Rd.drewN {w : World} {b len : Nat} (r : Rd w b len) (n : Nat) : Rd (w.drewN n) b len := ⟨r.lt, r.small, r.bytes, r.place, r.free⟩
/-- The reader stays where everything up to its block is kept. -/
theorem Rd.below {w w' : World} {b len B : Nat} (r : Rd w b len) (hb : Below B w w') (h : b < B) : Rd w' b len := by
  obtain ⟨lt, small, ⟨a, cap, c0, hrow⟩, ⟨p, hp, c1⟩, fr⟩ := r
  refine ⟨Nat.lt_of_lt_of_le lt hb.size, small, ⟨a, cap, (hb.cell h).trans c0, fun i hi => ?_⟩, ⟨p, hp, (hb.cell h).trans c1⟩, (hb.frozen h).trans fr⟩
  obtain ⟨c, off, z, e, hc, hz, hcell⟩ := hrow i hi
  exact ⟨c, off, z, e, hc, hz, (hb.cell (p := ⟨c, off + i, none⟩) (show c < B by omega)).trans hcell⟩
theorem Rd.alloc {w : World} {b len : Nat} (r : Rd w b len) (o : Obj) : Rd (w.alloc o) b len := r.below ((Below.refl w.heap.size w).alloc (Nat.le_refl _) o) r.lt
theorem Rd.step {w : World} {b len p : Nat} (r : Rd w b len) (hp : p < len) (hc : w.cell? ⟨b, 1, none⟩ = some (.int .i64 p)) : Rd (w.setCell ⟨b, 1, none⟩ (.int .i64 ((p : Int) + 1))) b len := by
  obtain ⟨lt, small, ⟨a, cap, c0, hrow⟩, _, fr⟩ := r
  have hs : (w.setCell ⟨b, 1, none⟩ (.int .i64 ((p : Int) + 1))).heap.size = w.heap.size := by simp [World.setCell]
  refine ⟨by rw [hs]; exact lt, small, ⟨a, cap, by go_simp, fun i hi => ?_⟩, ⟨p + 1, by omega, ?_⟩, by go_simp⟩
  · obtain ⟨c, off, z, e, hc, hz, hcell⟩ := hrow i hi
    exact ⟨c, off, z, e, hc, hz, by rw [World.cell?_of_block (Below.heap_setCell w ⟨b, 1, none⟩ _ c (by show c ≠ b; omega))]; exact hcell⟩
  · rw [show ((p + 1 : Nat) : Int) = (p : Int) + 1 from by omega]
    exact World.cell?_setCell_same' _ _ _ (by rw [hc]; rfl)
theorem next (w : World) (b len : Nat) (r : Rd w b len) : Calls Tryz.prog 47 #[.pointer (some ⟨b, 0, none⟩)] w (Got w b len 0 255) := by
  have R := Lib.hid r
  obtain ⟨lt, small, ⟨a, cap, c0, hrow⟩, ⟨p, hp, c1⟩, fr⟩ := r
  by_cases hlt : p < len
  · obtain ⟨c, off, z, rfl, hcb, hz, hcell⟩ := hrow p hlt
    clear hrow
    have t1 : decide (len ≤ p) = false := by simp; omega
    go_enter Tryz.func47, Tryz.ntmps47
    go_wp2
    go_quiet (fail)
    go_wp2
    go_quiet (fail)
    go_wp2
    go_ret
    exact ⟨z, by omega, by omega, rfl, (((Only.refl b w).drewN _).set _ _).drewN _, ((R.out.drewN _).step hlt c1).drewN _⟩
  · have t1 : decide (len ≤ p) = true := by simp; omega
    clear hrow
    go_enter Tryz.func47, Tryz.ntmps47
    go_wp2
    go_quiet (fail)
    go_wp2
    go_ret
    exact ⟨0, by omega, by omega, rfl, (Only.refl b w).drewN _, R.out.drewN _⟩
set_option maxHeartbeats 400000 in
theorem below (w : World) (b len : Nat) (n : Int) (r : Rd w b len) (h1 : 1 ≤ n) (h2 : n ≤ 1000000000000000) : Calls Tryz.prog 19 #[.pointer (some ⟨b, 0, none⟩), .int .i64 n] w (Got w b len 0 (n - 1)) := by
  have R := Lib.hid r
  clear r
  by_cases e1 : n ≤ 1
  · have t1 : decide (n ≤ 1) = true := by simp; omega
    go_enter Tryz.func19, Tryz.ntmps19
    go_wp2
    go_ret
    exact ⟨0, by omega, by omega, rfl, Only.refl _ _, R.out⟩
  · have t1 : decide (n ≤ 1) = false := by simp; omega
    by_cases e2 : n ≤ 256
    · have t2 : decide (n ≤ 256) = true := by simp; omega
      have n0 : (n == 0) = false := by simp; omega
      go_enter Tryz.func19, Tryz.ntmps19
      go_wp2_with fail
      refine (next w b len R.out).mono ?_
      rintro e w1 ⟨x, x1, x2, rfl, b1, r1⟩
      have R1 := Lib.hid r1
      have B1 := Lib.hid b1
      clear r1 b1
      go_wp2
      go_ret
      exact ⟨x % n, Int.emod_nonneg _ (by omega), by have := Int.emod_lt_of_pos x (show 0 < n by omega); omega, rfl, B1.out, R1.out⟩
    · have t2 : decide (n ≤ 256) = false := by simp; omega
      have n0 : (n == 0) = false := by simp; omega
      go_enter Tryz.func19, Tryz.ntmps19
      go_wp2_with fail
      refine (next w b len R.out).mono ?_
      rintro e w1 ⟨x, x1, x2, rfl, b1, r1⟩
      have R1 := Lib.hid r1
      have B1 := Lib.hid b1
      clear r1 b1
      go_wp2_with fail
      refine (next w1 b len R1.out).mono ?_
      rintro e w2 ⟨z, z1, z2, rfl, b2, r2⟩
      have R2 := Lib.hid r2
      have B2 := Lib.hid b2
      clear r2 b2
      go_wp2
      go_ret
      exact ⟨(x * 256 + z) % n, Int.emod_nonneg _ (by omega), by have := Int.emod_lt_of_pos (x * 256 + z) (show 0 < n by omega); omega, rfl, B1.out.trans B2.out, R2.out⟩
/-- A yes or no, drawn. -/
def GotB (w : World) (b len : Nat) (e : Ending) (w' : World) : Prop :=
  ∃ t : Bool, e = .returned (.bool t) ∧ Only b w w' ∧ Rd w' b len
theorem once (w : World) (b len : Nat) (n : Int) (r : Rd w b len) (h1 : 1 ≤ n) (h2 : n ≤ 1000000) : Calls Tryz.prog 73 #[.pointer (some ⟨b, 0, none⟩), .int .i64 n] w (GotB w b len) := by
  have R := Lib.hid r
  clear r
  go_enter Tryz.func73, Tryz.ntmps73
  go_wp2_with fail
  refine (below w b len n R.out h1 (by omega)).mono ?_
  rintro e w1 ⟨x, x1, x2, rfl, b1, r1⟩
  have R1 := Lib.hid r1
  have B1 := Lib.hid b1
  clear r1 b1
  go_wp2
  go_ret
  exact ⟨_, rfl, B1.out, R1.out⟩
end Go.Proofs.YtpogfdeioibkdaaGreatDoor.draw

namespace Go.Proofs.YtpogfdeioibkdaaGreatDoor.draw
open Go.ChangeShapes Go.WideShapes Go.ChangeAt Go.RowKit
/-- A word, drawn. -/
def GotU (w : World) (b len : Nat) (e : Ending) (w' : World) : Prop :=
  ∃ x : Int, (Lit.int .u64 x).wf = true ∧ e = .returned (.int .u64 x) ∧ Only b w w' ∧ Rd w' b len
/-- A number of 64 bits, drawn. -/
def GotW (w : World) (b len : Nat) (e : Ending) (w' : World) : Prop :=
  ∃ x : Int, (Lit.int .i64 x).wf = true ∧ e = .returned (.int .i64 x) ∧ Only b w w' ∧ Rd w' b len
theorem wf_small (x : Int) (h1 : -1000000000000000000 ≤ x) (h2 : x ≤ 1000000000000000000) : (Lit.int .i64 x).wf = true := by
  simp [Lit.wf, IntKind.min, IntKind.max, IntKind.bits, IntKind.signed]; omega
theorem Got.any {w : World} {b len : Nat} {lo hi : Int} {e : Ending} {w' : World} (h : Got w b len lo hi e w') (h1 : -1000000000000000000 ≤ lo) (h2 : hi ≤ 1000000000000000000) : GotW w b len e w' := by
  obtain ⟨x, a, c, r⟩ := h
  exact ⟨x, wf_small _ (by omega) (by omega), r⟩
set_option maxHeartbeats 400000 in
theorem word (w : World) (b len : Nat) (r : Rd w b len) : Calls Tryz.prog 87 #[.pointer (some ⟨b, 0, none⟩)] w (GotU w b len) := by
  have R := Lib.hid r
  clear r
  go_enter Tryz.func87, Tryz.ntmps87
  go_wp2
  go_loopw [3, 4] (fun x i wr => Only b w wr ∧ Rd wr b len ∧ ∃ v : Int, (Lit.int .u64 v).wf = true ∧ x = .int .u64 v ∧ ∃ k : Nat, k ≤ 8 ∧ i = .int .i64 k) (fun _ i _ => 8 - (intOf i).toNat)
  case atStart => exact ⟨Only.refl _ _, R.out, 0, by decide, rfl, 0, by omega, rfl⟩
  case round =>
    obtain ⟨hB, hr, v, hv, rfl, k, hk, rfl⟩ := hrel
    have RR := Lib.hid hr
    have BB := Lib.hid hB
    have VV := Lib.hid hv
    clear hr hB hv
    by_cases hlt : k < 8
    · go_wp2_with fail
      refine (next _ b len RR.out).mono ?_
      rintro e w1 ⟨z, z1, z2, rfl, b1, r1⟩
      have R1 := Lib.hid r1
      have B1 := Lib.hid b1
      clear r1 b1
      go_wp2
      go_roundw
      case rel => exact ⟨BB.out.trans B1.out, R1.out, _, wf_bits .or .u64 _ _, rfl, k + 1, by omega, by go_num⟩
      case measure => simp [intOf]; omega
    · go_wp2
      go_ret
      exact ⟨v, VV.out, rfl, BB.out, RR.out⟩
set_option maxHeartbeats 400000 in
theorem near (w : World) (b len : Nat) (lo hi : Int) (r : Rd w b len) (h0 : -1000000000000000 ≤ lo) (h1 : lo ≤ hi) (h2 : hi ≤ 1000000000000000) : Calls Tryz.prog 74 #[.pointer (some ⟨b, 0, none⟩), .int .i64 lo, .int .i64 hi] w (GotW w b len) := by
  have R := Lib.hid r
  clear r
  have t1 : decide (hi < lo) = false := by simp; omega
  go_enter Tryz.func74, Tryz.ntmps74
  go_wp2_with fail
  refine (below w b len 8 R.out (by omega) (by omega)).mono ?_
  rintro e w1 ⟨x, x1, x2, rfl, b1, r1⟩
  have R1 := Lib.hid r1
  have B1 := Lib.hid b1
  clear r1 b1
  by_cases e0 : x = 0
  · subst e0
    go_wp2
    go_ret
    exact ⟨lo, wf_small _ (by omega) (by omega), rfl, B1.out, R1.out⟩
  · have f0 : (x == 0) = false := by simp [e0]
    clear e0
    by_cases e1 : x = 1
    · subst e1
      go_wp2
      go_ret
      exact ⟨hi, wf_small _ (by omega) (by omega), rfl, B1.out, R1.out⟩
    · have f1 : (x == 1) = false := by simp [e1]
      clear e1
      go_wp2_with fail
      refine (word w1 b len R1.out).mono ?_
      rintro e w2 ⟨v, v1, rfl, b2, r2⟩
      have R2 := Lib.hid r2
      have B2 := Lib.hid b2
      have V1 := Lib.hid v1
      clear r2 b2 v1
      go_wp2
      go_ret
      exact ⟨_, wrap64_wf _, rfl, B1.out.trans B2.out, R2.out⟩
set_option maxHeartbeats 400000 in
theorem off (w : World) (b len : Nat) (lo hi : Int) (r : Rd w b len) (h0 : -1000000000000000 ≤ lo) (h1 : lo ≤ hi) (h2 : hi ≤ 1000000000000000) : Calls Tryz.prog 45 #[.pointer (some ⟨b, 0, none⟩), .int .i64 lo, .int .i64 hi] w (GotW w b len) := by
  have R := Lib.hid r
  clear r
  go_enter Tryz.func45, Tryz.ntmps45
  go_wp2_with fail
  refine (once w b len 24 R.out (by omega) (by omega)).mono ?_
  rintro e w1 ⟨t, rfl, b1, r1⟩
  have R1 := Lib.hid r1
  have B1 := Lib.hid b1
  clear r1 b1
  cases t
  · go_wp2_with fail
    refine (near w1 b len lo hi R1.out h0 h1 h2).mono ?_
    rintro e w2 ⟨v, v1, rfl, b2, r2⟩
    have R2 := Lib.hid r2
    have B2 := Lib.hid b2
    have V1 := Lib.hid v1
    clear r2 b2 v1
    go_wp2
    go_ret
    exact ⟨v, V1.out, rfl, B1.out.trans B2.out, R2.out⟩
  · go_wp2_with fail
    refine (below _ b len 4 (R1.out.alloc _) (by omega) (by omega)).mono ?_
    rintro e w2 ⟨x, x1, x2, rfl, b2, r2⟩
    have c0 := b2.cell (k := w1.heap.size) (o := 0) (by simp) (by have := R1.out.lt; omega)
    have c1 := b2.cell (k := w1.heap.size) (o := 1) (by simp) (by have := R1.out.lt; omega)
    have c2 := b2.cell (k := w1.heap.size) (o := 2) (by simp) (by have := R1.out.lt; omega)
    have c3 := b2.cell (k := w1.heap.size) (o := 3) (by simp) (by have := R1.out.lt; omega)
    simp [World.cell?_alloc_new] at c0 c1 c2 c3
    have R2 := Lib.hid r2
    have B2 := Lib.hid b2
    clear r2 b2
    obtain rfl | rfl | rfl | rfl : x = 0 ∨ x = 1 ∨ x = 2 ∨ x = 3 := by omega
    all_goals
      go_wp2
      go_ret
    · exact ⟨_, wf_small _ (by omega) (by omega), rfl, (B1.out.alloc _).trans B2.out, R2.out⟩
    · exact ⟨_, wf_small _ (by omega) (by omega), rfl, (B1.out.alloc _).trans B2.out, R2.out⟩
    · exact ⟨_, by decide, rfl, (B1.out.alloc _).trans B2.out, R2.out⟩
    · exact ⟨_, by decide, rfl, (B1.out.alloc _).trans B2.out, R2.out⟩
end Go.Proofs.YtpogfdeioibkdaaGreatDoor.draw

namespace Go.Proofs.YtpogfdeioibkdaaGreatDoor.draw
open Go.ChangeShapes Go.WideShapes Go.ChangeAt Go.RowKit
/-- A code that came in: its bytes. -/
def Bytes (w : World) (a : Option Addr) (len : Nat) : Prop :=
  ∀ i, i < len → ∃ c off z : Nat, a = some ⟨c, off, none⟩ ∧ c < w.heap.size ∧ z < 256 ∧ w.cell? ⟨c, off + i, none⟩ = some (.int .u8 z)
theorem Bytes.below {w w' : World} {a : Option Addr} {len : Nat} (h : Bytes w a len) (hb : Below w.heap.size w w') : Bytes w' a len := fun i hi => by
  obtain ⟨c, off, z, e, hc, hz, hcell⟩ := h i hi
  exact ⟨c, off, z, e, Nat.lt_of_lt_of_le hc hb.size, hz, (hb.cell (p := ⟨c, off + i, none⟩) hc).trans hcell⟩
theorem open_code {H : Type} {enc : TypeId × Value → H} {P : Program} {W : World} {base : Nat} {t e : TypeId} {v : Value} {d : DataW H} {p : List MemPlace} (ht : P.underlying t = some (.slice e)) (he : P.underlying e = some (.int .u8)) (hc : P.cellsOf e = 1)
    (hok : Value.okWide P W .any base t v) (h : DataW.Trod enc P W 0 (fun _ => true) true t v d p) : ∃ a len cap, v = .slice a len cap ∧ len ≤ maxLen ∧ Bytes W a len := by
  obtain ⟨a, len, cap, rfl⟩ := okWide_slice ht hok
  refine ⟨a, len, cap, rfl, ?_⟩
  obtain ⟨fuel, hf⟩ := h
  rcases open_ints ht he hc hf with ⟨hcs, _⟩ | ⟨x, l, c, zs, hcs, _, hl, hm, hz, _, hcell, hwz⟩
  · simp [Value.cells] at hcs
    obtain ⟨rfl, rfl, rfl⟩ := hcs
    exact ⟨Nat.zero_le _, fun i hi => by omega⟩
  · simp [Value.cells] at hcs
    obtain ⟨rfl, rfl, rfl⟩ := hcs
    refine ⟨Nat.le_trans hl hm, fun i hi => ?_⟩
    have hz2 : zs.length = cap := by simpa using hz
    have hi' : i < zs.length := by omega
    obtain ⟨b, off, spot⟩ := x
    have hspot : spot = none := by simpa [Addr.add] using World.cell?_spot (hcell 0 (by omega))
    subst hspot
    have hci' : W.cell? ⟨b, off + i, none⟩ = some (.int .u8 (zs.getD i 0)) := by
      have hci := hcell i hi'
      by_cases h0 : i = 0
      · subst h0; simpa [Addr.add] using hci
      · simpa [Addr.add, h0] using hci
    have hw := hwz (zs.getD i 0) (by rw [List.getD_eq_getElem?_getD, List.getElem?_eq_getElem hi', Option.getD_some]; exact List.getElem_mem hi')
    have hbd := bounds_u8 hw
    obtain ⟨z, hz'⟩ := Int.eq_ofNat_of_zero_le hbd.1
    have hlt : b < W.heap.size := by
      unfold World.cell? at hci'
      cases hh : W.heap[b]? with
      | none => simp [hh] at hci'
      | some o => exact (Array.getElem?_eq_some_iff.1 hh).1
    exact ⟨b, off, z, rfl, hlt, by omega, by rw [hci', hz']⟩
theorem bigF (a : Option Addr) (len cap : Nat) (w : World) (h : len ≤ 1048576) : Calls Tryz.prog 4 #[.slice a len cap] w fun e w' => e = .returned (.bool false) ∧ w = w' := by
  have t1 : decide ((1048576 : Int) < (len : Int)) = false := by simp; omega
  go_enter Tryz.func4, Tryz.ntmps4
  go_wp2
  go_ret
  exact ⟨rfl, rfl⟩
theorem bigT (a : Option Addr) (len cap : Nat) (w : World) (h : 1048576 < len) (h2 : len ≤ maxLen) : Calls Tryz.prog 4 #[.slice a len cap] w fun e w' => e = .returned (.bool true) ∧ w = w' := by
  unfold maxLen at h2
  have t1 : decide ((1048576 : Int) < (len : Int)) = true := by simp; omega
  go_enter Tryz.func4, Tryz.ntmps4
  go_wp2
  go_ret
  exact ⟨rfl, rfl⟩
/-- A reader, opened: it lies in a new block. -/
def Opened (w : World) (len : Nat) (e : Ending) (w' : World) : Prop := e = .returned (.pointer (some ⟨w.heap.size, 0, none⟩)) ∧ Rd w' w.heap.size len ∧ Below w.heap.size w w'
theorem openRd (a : Option Addr) (len cap : Nat) (w : World) (hB : Bytes w a len) (h : len ≤ 1048576) : Calls Tryz.prog 17 #[.slice a len cap] w (Opened w len) := by
  have HB := Lib.hid hB
  clear hB
  go_enter Tryz.func17, Tryz.ntmps17
  go_wp2
  go_ret
  refine ⟨rfl, ⟨by simp, h, ⟨a, cap, by simp, fun i hi => ?_⟩, ⟨0, by omega, by simp⟩, ?_⟩, (Below.refl _ _).alloc (Nat.le_refl _) _⟩
  · obtain ⟨c, off, z, e, hc, hz, hcell⟩ := HB.out i hi
    exact ⟨c, off, z, e, hc, hz, (World.cell?_alloc_lt w _ (a := ⟨c, off + i, none⟩) hc).trans hcell⟩
  · go_simp
/-- What a draw of one number gives. -/
def Drew1 (w : World) (e : Ending) (w' : World) : Prop := ∃ x : Int, (Lit.int .i64 x).wf = true ∧ e = .returned (.int .i64 x) ∧ Below w.heap.size w w'
def Drew2 (w : World) (e : Ending) (w' : World) : Prop := ∃ x y : Int, (Lit.int .i64 x).wf = true ∧ (Lit.int .i64 y).wf = true ∧ e = .returned (.tuple #[.int .i64 x, .int .i64 y]) ∧ Below w.heap.size w w'
def Drew3 (w : World) (e : Ending) (w' : World) : Prop := ∃ x y z : Int, (Lit.int .i64 x).wf = true ∧ (Lit.int .i64 y).wf = true ∧ (Lit.int .i64 z).wf = true ∧ e = .returned (.tuple #[.int .i64 x, .int .i64 y, .int .i64 z]) ∧ Below w.heap.size w w'
/-- From the reader's frame back to the caller's. -/
theorem back {w w1 w2 : World} {b : Nat} (hb : b = w.heap.size) (h1 : Below w.heap.size w w1) (h2 : Only b w1 w2) : Below w.heap.size w w2 := by
  subst hb
  exact h1.trans (h2.below h1.size)
end Go.Proofs.YtpogfdeioibkdaaGreatDoor.draw

namespace Go.Proofs.YtpogfdeioibkdaaGreatDoor.draw
open Go.ChangeShapes Go.WideShapes Go.ChangeAt Go.RowKit
/-- Some number, drawn. -/
def GotZ (w : World) (b len : Nat) (e : Ending) (w' : World) : Prop := ∃ x : Int, e = .returned (.int .i64 x) ∧ Only b w w' ∧ Rd w' b len
theorem Rd.drew {w : World} {b len : Nat} (r : Rd w b len) : Rd w.drew b len := ⟨r.lt, r.small, r.bytes, r.place, r.free⟩
theorem Only.drew {b : Nat} {x y : World} (h : Only b x y) : Only b x y.drew := h.trans ⟨rfl, rfl, rfl, Nat.le_refl _, fun _ _ _ => rfl⟩
/-- A table that was built lies in block g. -/
def Tab (arr : Array Value) (w : World) (g : Nat) : Prop := g < w.heap.size ∧ ∀ k : Nat, w.cell? ⟨g, k, none⟩ = arr[k]?
theorem Tab.new (arr : Array Value) (t : TypeId) (w : World) : Tab arr (w.alloc (.cells arr t)) w.heap.size := ⟨by show _ < (w.heap.push _).size; simp, fun k => World.cell?_alloc_new w _ _ k⟩
theorem Tab.drew {arr : Array Value} {w : World} {g : Nat} (h : Tab arr w g) : Tab arr w.drew g := h
theorem Tab.only {arr : Array Value} {w w' : World} {g b : Nat} (h : Tab arr w g) (o : Only b w w') (hg : b < g) : Tab arr w' g := ⟨Nat.lt_of_lt_of_le h.1 o.size, fun k => (o.cell h.1 (by omega)).trans (h.2 k)⟩
end Go.Proofs.YtpogfdeioibkdaaGreatDoor.draw
