/-
  Plain helpers of this seat's proofs: slices of strings in memory; their comparison, their marks and the look at them. Conditions: none.
-/
import Derived.Test.YtibkoacphfdlkaaGen
import Derived.Test.YtibkoacphfdlkaaCrc
import Derived.Lib.ItoaNum
import Derived.Deep.RegionHeld3
import Derived.Deep.QuietTactic
import Derived.BigQuiet
namespace Go.Proofs.Ytibkoacphfdlkaa.sxs
open Go.ChangeShapes Go.WideShapes Go.ChangeAt Go.RowKit
/-- A slice of strings in block g of memory: nil, or the cells from the block's head on. -/
structure Row (w : World) (a : Option Addr) (cap g n : Nat) (A : Nat → List UInt8) : Prop where
  addr : 0 < n → a = some ⟨g, 0, none⟩
  room : n ≤ cap
  cells : ∀ i, i < n → w.cell? ⟨g, i, none⟩ = some (.string ⟨(A i).toArray⟩)
  free : 0 < n → ∀ i, w.frozen? ⟨g, i, none⟩ = false
theorem of_owns {w : World} {B : Nat} {v : Value} {zs : List (List UInt8)} (h : w.ownsRow B 9 1 v zs.length (zs.map (fun d => Value.string ⟨d.toArray⟩))) :
    ∃ a cap g, v = .slice a zs.length cap ∧ Row w a cap g zs.length (fun i => zs.getD i []) ∧ (0 < zs.length → B ≤ g ∧ g < w.heap.size) := by
  obtain ⟨h1, h2⟩ := h
  rcases h2 with ⟨rfl, h2⟩ | ⟨g, cap, cur, rfl, hg, hh, hn, hm, hs, ht⟩
  · refine ⟨none, 0, 0, by rw [h2], ⟨fun h => by omega, by omega, fun i hi => by omega, fun h => by omega⟩, fun h => by omega⟩
  · refine ⟨_, cap, g, rfl, ⟨fun _ => rfl, hn, fun i hi => ?_, fun _ i => ?_⟩, fun _ => ⟨hg, (Array.getElem?_eq_some_iff.1 hh).1⟩⟩
    · have e : cur[i]? = some (.string ⟨(zs.getD i []).toArray⟩) := by
        have q : (cur.toList.take (zs.length * 1))[i]? = (zs.map (fun d => Value.string ⟨d.toArray⟩))[i]? := by rw [ht]
        rw [Nat.mul_one, List.getElem?_take, if_pos hi] at q
        rw [← Array.getElem?_toList, q]
        simp [List.getElem?_map, List.getElem?_eq_getElem hi]
      unfold World.cell?
      simp [hh, e]
    · unfold World.frozen?
      simp [hh]
theorem Row.keep {w w' : World} {a : Option Addr} {cap g n : Nat} {A : Nat → List UInt8} (r : Row w a cap g n A) (hb : 0 < n → w'.heap[g]? = w.heap[g]?) : Row w' a cap g n A := by
  refine ⟨r.addr, r.room, fun i hi => ?_, fun h i => ?_⟩
  · rw [World.cell?_of_block (w := w) (a := ⟨g, i, none⟩) (hb (by omega))]; exact r.cells i hi
  · rw [World.frozen?_of_block (w := w) (a := ⟨g, i, none⟩) (hb h)]; exact r.free h i
theorem Row.lt {w : World} {a : Option Addr} {cap g n : Nat} {A : Nat → List UInt8} (r : Row w a cap g n A) (h : 0 < n) : g < w.heap.size := by
  have c := r.cells 0 h
  unfold World.cell? at c
  cases hh : w.heap[g]? with
  | none => simp [hh] at c
  | some o => exact (Array.getElem?_eq_some_iff.1 hh).1
set_option maxHeartbeats 1000000 in
/-- Two slices of the same strings are equal. -/
theorem eqT (w : World) (a1 a2 : Option Addr) (c1 c2 g1 g2 n : Nat) (A : Nat → List UInt8) (r1 : Row w a1 c1 g1 n A) (r2 : Row w a2 c2 g2 n A) (hn : n ≤ 1048577) :
    Calls Try.prog 14 #[.slice a1 n c1, .slice a2 n c2] w fun e w' => e = .returned (.bool true) ∧ Below w.heap.size w w' := by
  have R1 := Lib.hid r1
  have R2 := Lib.hid r2
  rcases Nat.eq_zero_or_pos n with rfl | hp
  · clear r1 r2
    go_enter Try.func14, Try.ntmps14
    go_wp2
    go_loopw [5] (fun v wr => v = .int .i64 0 ∧ Below w.heap.size w wr) (fun _ _ => 0)
    case atStart => exact ⟨rfl, Below.refl _ _⟩
    case round =>
      obtain ⟨rfl, hB⟩ := hrel
      have BB := Lib.hid hB
      clear hB
      go_wp2
      go_ret
      exact ⟨rfl, BB.out⟩
  · have e1 := r1.addr hp
    have e2 := r2.addr hp
    have m1 := r1.room
    have m2 := r2.room
    have l1 := r1.lt hp
    have l2 := r2.lt hp
    subst e1 e2
    clear r1 r2
    go_enter Try.func14, Try.ntmps14
    go_wp2
    go_loopw [5] (fun v wr => Below w.heap.size w wr ∧ ∃ j : Nat, j ≤ n ∧ v = .int .i64 j) (fun v _ => n - (intOf v).toNat)
    case atStart => exact ⟨Below.refl _ _, 0, by omega, rfl⟩
    case round =>
      obtain ⟨hB, j, hj, rfl⟩ := hrel
      have BB := Lib.hid hB
      by_cases hlt : j < n
      · have u1 : decide (j < n) = true := by simp; omega
        have z1 : (j : Int) < (n : Int) := by omega
        have q1 := (hB.cell (p := ⟨g1, j, none⟩) l1).trans (R1.out.cells j hlt)
        have q2 := (hB.cell (p := ⟨g2, j, none⟩) l2).trans (R2.out.cells j hlt)
        obtain ⟨X, hX⟩ : ∃ X, X = A j := ⟨_, rfl⟩
        rw [← hX] at q1 q2
        have tx : (X != X) = false := by simp
        clear hX hB
        go_wp2_with fail
        go_quiet (fail)
        go_wp2
        go_roundw
        case rel => exact ⟨⟨BB.out.os, BB.out.tape, BB.out.output, BB.out.size, BB.out.block⟩, j + 1, by omega, by go_num⟩
        case measure => simp [intOf]; omega
      · have u1 : decide (j < n) = false := by simp; omega
        clear hB
        go_wp2
        go_ret
        exact ⟨rfl, BB.out⟩
/-- The text of a mark. -/
def mt (k : Nat) : List UInt8 := 109 :: Lib.decDigits k
def dd (q : Nat) : List UInt8 := if q = 0 then [] else Lib.decDigits q
theorem dd_step {q : Nat} (h : 0 < q) : dd q = dd (q / 10) ++ [UInt8.ofNat (48 + q % 10)] := by
  unfold dd
  rw [if_neg (by omega)]
  by_cases c : q < 10
  · rw [if_pos (by omega), Lib.decDigits, dif_pos c, show q % 10 = q by omega]; rfl
  · rw [if_neg (by omega), Lib.decDigits, dif_neg c]
theorem conv1 (w : World) (z : Int) (h0 : 0 ≤ z) (h1 : z ≤ 255) : Sem.run Try.prog (convert 22 9 (.slice (some ⟨w.heap.size, 0, none⟩) 1 1)) (w.alloc (.cells #[.int .u8 z] 5)) = .ok (.string ⟨#[UInt8.ofNat z.toNat]⟩) (w.alloc (.cells #[.int .u8 z] 5)) := by
  have h := run_convert_bytes_back (P := Try.prog) (w.alloc (.cells #[.int .u8 z] 5)) 22 9 5 ⟨w.heap.size, 0, none⟩ 1 [UInt8.ofNat z.toNat] Try.underlying22 Try.underlying5 Try.underlying9 (fun j hj => by
    have : j = 0 := by simp at hj; omega
    subst this
    simp [Addr.add]
    omega)
  exact h
theorem cat1 (c : UInt8) (b : List UInt8) : (⟨#[c]⟩ : ByteArray) ++ ⟨b.toArray⟩ = ⟨(c :: b).toArray⟩ := crc.cat [c] b
theorem val_str {a b : ByteArray} (h : a = b) : Value.string a = .string b := by rw [h]
theorem u8_add (k : Nat) : (48 : UInt8) + UInt8.ofNat k = UInt8.ofNat (48 + k) := by
  rw [UInt8.ofNat_add]; rfl
theorem dd_len : ∀ u : Nat, (dd u).length ≤ u := by
  intro u
  induction u using Nat.strongRecOn with
  | _ u ih =>
    by_cases h : u = 0
    · subst h; simp [dd]
    · rw [dd_step (by omega), List.length_append]
      have := ih (u / 10) (by omega)
      simp
      omega
set_option maxHeartbeats 1000000 in
theorem markText (k : Nat) (w : World) (h0 : 1 ≤ k) (h1 : k ≤ 2097152) : Calls Try.prog 26 #[.int .i64 k] w fun e w' => e = .returned (.string ⟨(mt k).toArray⟩) ∧ Below w.heap.size w w' := by
  have t1 : decide ((k : Int) ≤ 0) = false := by simp; omega
  have t1' : decide (k ≤ 0) = false := by simp; omega
  have dl := dd_len k
  have E := Lib.hid (show mt k = 109 :: dd k from by unfold mt dd; rw [if_neg (by omega)])
  go_enter Try.func26, Try.ntmps26
  go_wp2
  go_loopw [0, 3] (fun m s wr => Below w.heap.size w wr ∧ ∃ (q : Nat) (l : List UInt8), q ≤ k ∧ m = .int .i64 q ∧ s = .string ⟨l.toArray⟩ ∧ dd k = dd q ++ l) (fun m _ _ => (intOf m).toNat)
  case atStart => exact ⟨Below.refl _ _, k, [], by omega, rfl, rfl, by simp⟩
  case round =>
    obtain ⟨hB, q, l, hq, rfl, rfl, hl⟩ := hrel
    have ll : l.length ≤ 2097152 := by
      have := congrArg List.length hl
      rw [List.length_append] at this
      omega
    have BB := Lib.hid hB
    have HL := Lib.hid hl
    have HS := hB.size
    clear hB hl dl
    by_cases hlt : 0 < q
    · have u1 : decide (0 < q) = true := by simp; omega
      have u1' : decide ((0 : Int) < (q : Int)) = true := by simp; omega
      obtain ⟨r, hr⟩ : ∃ r, r = q % 10 := ⟨_, rfl⟩
      obtain ⟨d, hd⟩ : ∃ d, d = q / 10 := ⟨_, rfl⟩
      have r1 : (q : Int) % 10 = (r : Int) := by omega
      have r1' : (q : Int).tmod 10 = (r : Int) := by rw [Int.tmod_eq_emod_of_nonneg (by omega)]; exact r1
      have r2 : (q : Int) / 10 = (d : Int) := by omega
      have r2' : (q : Int).tdiv 10 = (d : Int) := by rw [Int.tdiv_eq_ediv_of_nonneg (by omega)]; exact r2
      have rb : r < 10 := by omega
      have DS := Lib.hid (show dd q = dd d ++ [UInt8.ofNat (48 + r)] from by rw [hd, hr]; exact dd_step hlt)
      have dq : d < q := by omega
      have hcv := conv1 wr (48 + (r : Int)) (by omega) (by omega)
      have hcw : (48 + (r : Int)).toNat = 48 + r := by omega
      rw [hcw] at hcv
      clear hr hd
      go_wp2
      go_roundw
      case rel => exact ⟨BB.out.alloc HS _, d, _, by omega, by go_num, val_str (cat1 _ l), by rw [HL.out, DS.out, List.append_assoc, ← u8_add]; rfl⟩
      case measure => simp [intOf]; omega
    · have u1 : decide (0 < q) = false := by simp; omega
      have u1' : decide ((0 : Int) < (q : Int)) = false := by simp; omega
      obtain rfl : q = 0 := by omega
      have EL := Lib.hid (show dd k = l from by rw [HL.out]; simp [dd])
      go_wp2
      go_ret
      exact ⟨by rw [E.out, EL.out, ← cat1]; rfl, BB.out⟩
/-- Of what lay there, block g alone may have turned. -/
structure Oth (g : Nat) (w w' : World) : Prop where
  os : w'.os = w.os
  tape : w'.tape = w.tape
  output : w'.output = w.output
  size : w.heap.size ≤ w'.heap.size
  block : ∀ k, k < w.heap.size → k ≠ g → w'.heap[k]? = w.heap[k]?
theorem Oth.refl (g : Nat) (w : World) : Oth g w w := ⟨rfl, rfl, rfl, Nat.le_refl _, fun _ _ _ => rfl⟩
theorem Oth.trans {g : Nat} {x y z : World} (h : Oth g x y) (k : Oth g y z) : Oth g x z :=
  ⟨k.os.trans h.os, k.tape.trans h.tape, k.output.trans h.output, Nat.le_trans h.size k.size, fun i hi hn => (k.block i (Nat.lt_of_lt_of_le hi h.size) hn).trans (h.block i hi hn)⟩
theorem Oth.of_below {g : Nat} {x y : World} (h : Below x.heap.size x y) : Oth g x y := ⟨h.os, h.tape, h.output, h.size, fun k hk _ => h.block k hk⟩
theorem Oth.set {g : Nat} {x y : World} (h : Oth g x y) (o : Nat) (v : Value) : Oth g x (y.setCell ⟨g, o, none⟩ v) :=
  ⟨h.os, h.tape, h.output, by rw [World.size_setCell]; exact h.size, fun k hk hn => (Below.heap_setCell _ _ _ _ hn).trans (h.block k hk hn)⟩
theorem Oth.below {g B : Nat} {x y : World} (h : Oth g x y) (hg : B ≤ g) (hB : B ≤ x.heap.size) : Below B x y := ⟨h.os, h.tape, h.output, h.size, fun k hk => h.block k (Nat.lt_of_lt_of_le hk hB) (Nat.ne_of_lt (Nat.lt_of_lt_of_le hk hg))⟩
/-- What a round of the marks keeps. -/
structure Mk (w : World) (g n j : Nat) (wr : World) : Prop where
  oth : Oth g w wr
  blk : ∃ A, gen.Blk wr g n A ∧ ∀ i, i < j → A i = .string ⟨(mt (1 + i)).toArray⟩
/-- The marks of a slice. -/
structure Mks (w : World) (a : Option Addr) (cap g n : Nat) : Prop where
  addr : 0 < n → a = some ⟨g, 0, none⟩
  room : n ≤ cap
  cells : ∀ i, i < n → w.cell? ⟨g, i, none⟩ = some (.string ⟨(mt (1 + i)).toArray⟩)
theorem Mks.keep {w w' : World} {a : Option Addr} {cap g n : Nat} (r : Mks w a cap g n) (hb : 0 < n → w'.heap[g]? = w.heap[g]?) : Mks w' a cap g n :=
  ⟨r.addr, r.room, fun i hi => by rw [World.cell?_of_block (w := w) (a := ⟨g, i, none⟩) (hb (by omega))]; exact r.cells i hi⟩
set_option maxRecDepth 20000 in
set_option maxHeartbeats 2000000 in
theorem mark (w : World) (a : Option Addr) (cap g n : Nat) (A : Nat → List UInt8) (r : Row w a cap g n A) (hn : n ≤ 1048577) :
    Calls Try.prog 15 #[.slice a n cap, .int .i64 1] w fun e w' => e = .returned (.int .i64 (1 + (n : Int))) ∧ Oth g w w' ∧ Mks w' a cap g n ∧ (n = 0 → w' = w) := by
  rcases Nat.eq_zero_or_pos n with rfl | hp
  · have R := Lib.hid r
    clear r
    go_enter Try.func15, Try.ntmps15
    go_wp2
    go_loopw [1, 5] (fun k v wr => k = .int .i64 1 ∧ v = .int .i64 0 ∧ wr = w) (fun _ _ _ => 0)
    case atStart => exact ⟨rfl, rfl, rfl⟩
    case round =>
      obtain ⟨rfl, rfl, rfl⟩ := hrel
      go_wp2
      go_ret
      exact ⟨rfl, Oth.refl _ _, ⟨fun h => absurd h (by omega), R.out.room, fun i hi => absurd hi (by omega)⟩, fun _ => rfl⟩
  · have e1 := r.addr hp
    have m1 := r.room
    have l1 := r.lt hp
    have B0 := Lib.hid (show Mk w g n 0 w from ⟨Oth.refl _ _, ⟨fun i => .string ⟨(A i).toArray⟩, ⟨l1, fun k hk => r.cells k hk, fun k => r.free hp k⟩, fun i hi => absurd hi (by omega)⟩⟩)
    subst e1
    clear r
    go_enter Try.func15, Try.ntmps15
    go_wp2
    go_loopw [1, 5] (fun k v wr => ∃ j : Nat, j ≤ n ∧ k = .int .i64 (1 + (j : Int)) ∧ v = .int .i64 j ∧ Mk w g n j wr) (fun _ v _ => n - (intOf v).toNat)
    case atStart => exact ⟨0, by omega, rfl, rfl, B0.out⟩
    case round =>
      obtain ⟨j, hj, rfl, rfl, hm⟩ := hrel
      have HM := Lib.hid hm
      clear hm B0
      by_cases hlt : j < n
      · have u1 : decide (j < n) = true := by simp; omega
        have z1 : (j : Int) < (n : Int) := by omega
        have MT := Lib.hid (fun w0 => markText (1 + j) w0 (by omega) (by omega))
        obtain ⟨t, ht⟩ : ∃ t, t = mt (1 + j) := ⟨_, rfl⟩
        rw [← ht] at MT
        have HT := Lib.hid ht
        obtain ⟨c, hc9⟩ : ∃ c, c = 1 + j := ⟨_, rfl⟩
        have e2 : (1 : Int) + (j : Int) = (c : Int) := by omega
        rw [← hc9] at MT
        have HC := Lib.hid hc9
        clear ht hc9
        go_wp2_with fail
        refine (MT.out _).mono ?_
        rintro e w2 ⟨rfl, b2⟩
        obtain ⟨oth, C, hb, hc⟩ := HM.out
        have hb2 := hb.below b2 hb.lt
        have y0 := hb2.cell j hlt
        have f0 := hb2.free j
        have NX := Lib.hid (show Mk w g n (j + 1) (w2.setCell ⟨g, j, none⟩ (.string ⟨t.toArray⟩)) from ⟨(oth.trans (Oth.of_below b2)).set _ _, _, hb2.set hlt _, fun i hi => by
          unfold gen.upd
          by_cases e : i = j
          · subst e; rw [if_pos rfl, HT.out]
          · rw [if_neg e]; exact hc i (by omega)⟩)
        clear b2 oth hb hc hb2
        go_wp2
        go_roundw
        case rel => exact ⟨j + 1, by omega, (by have h9 := HC.out; congr 1; omega), by go_num, NX.out⟩
        case measure => simp [intOf]; omega
      · have u1 : decide (j < n) = false := by simp; omega
        obtain rfl : j = n := by omega
        go_wp2
        go_ret
        obtain ⟨oth, C, hb, hc⟩ := HM.out
        exact ⟨rfl, oth, ⟨fun _ => rfl, m1, fun i hi => by rw [hb.cell i hi, hc i hi]⟩, fun h => absurd h (by omega)⟩
set_option maxRecDepth 20000 in
set_option maxHeartbeats 2000000 in
theorem held (w : World) (a : Option Addr) (cap g n : Nat) (r : Mks w a cap g n) (hn : n ≤ 1048577) :
    Calls Try.prog 16 #[.slice a n cap, .int .i64 1] w fun e w' => e = .returned (.int .i64 (1 + (n : Int))) ∧ Below w.heap.size w w' := by
  have R := Lib.hid r
  rcases Nat.eq_zero_or_pos n with rfl | hp
  · clear r
    go_enter Try.func16, Try.ntmps16
    go_wp2
    go_loopw [1, 5] (fun k v wr => k = .int .i64 1 ∧ v = .int .i64 0 ∧ wr = w) (fun _ _ _ => 0)
    case atStart => exact ⟨rfl, rfl, rfl⟩
    case round =>
      obtain ⟨rfl, rfl, rfl⟩ := hrel
      go_wp2
      go_ret
      exact ⟨rfl, Below.refl _ _⟩
  · have e1 := r.addr hp
    have m1 := r.room
    have l1 : g < w.heap.size := by
      have c := r.cells 0 hp
      unfold World.cell? at c
      cases hh : w.heap[g]? with
      | none => simp [hh] at c
      | some o => exact (Array.getElem?_eq_some_iff.1 hh).1
    subst e1
    clear r
    go_enter Try.func16, Try.ntmps16
    go_wp2
    go_loopw [1, 5] (fun k v wr => ∃ j : Nat, j ≤ n ∧ k = .int .i64 (1 + (j : Int)) ∧ v = .int .i64 j ∧ Below w.heap.size w wr) (fun _ v _ => n - (intOf v).toNat)
    case atStart => exact ⟨0, by omega, rfl, rfl, Below.refl _ _⟩
    case round =>
      obtain ⟨j, hj, rfl, rfl, hB⟩ := hrel
      have BB := Lib.hid hB
      have hsz := hB.size
      by_cases hlt : j < n
      · have u1 : decide (j < n) = true := by simp; omega
        have z1 : (j : Int) < (n : Int) := by omega
        have MT := Lib.hid (fun w0 => markText (1 + j) w0 (by omega) (by omega))
        have q1 := (hB.cell (p := ⟨g, j, none⟩) l1).trans (R.out.cells j hlt)
        obtain ⟨t, ht⟩ : ∃ t, t = mt (1 + j) := ⟨_, rfl⟩
        rw [← ht] at MT q1
        obtain ⟨c, hc9⟩ : ∃ c, c = 1 + j := ⟨_, rfl⟩
        have e2 : (1 : Int) + (j : Int) = (c : Int) := by omega
        rw [← hc9] at MT
        have HC := Lib.hid hc9
        clear hc9
        have tx : (t != t) = false := by simp
        have KQ := Lib.hid (show ∀ w', Below wr.heap.size wr w' → w'.cell? ⟨g, j, none⟩ = some (.string ⟨t.toArray⟩) from fun w' h => (h.cell (p := ⟨g, j, none⟩) (show g < wr.heap.size by omega)).trans q1)
        have T0 := Lib.hid (show Below wr.heap.size wr wr.drew from (Below.refl _ _).drew)
        clear hB ht
        go_wp2_with fail
        go_region_held3 (fun w' => w'.cell? ⟨g, j, none⟩ = some (.string ⟨t.toArray⟩)) (first | exact KQ.out _ T1.out | exact KQ.out _ T0.out | go_keep)
          (first | (go_at_call 26; refine (MT.out _).mono ?_; rintro e wT ⟨rfl, bk⟩; have T1 := Lib.hid (T0.out.trans (bk.mono T0.out.size)); clear bk))
        all_goals
          have TT := Lib.hid (BB.out.trans (T1.out.mono hsz))
          clear T1 T0 KQ q1
          go_wp2
          go_roundw
          case rel => exact ⟨j + 1, by omega, (by have h9 := HC.out; congr 1; omega), by go_num, TT.out⟩
          case measure => simp [intOf]; omega
      · have u1 : decide (j < n) = false := by simp; omega
        obtain rfl : j = n := by omega
        clear hB
        go_wp2
        go_ret
        exact ⟨rfl, BB.out⟩
end Go.Proofs.Ytibkoacphfdlkaa.sxs
