/-
  Plain helpers of this seat's proofs: how many elements an order has. Conditions: none.
-/
import Derived.Test.YtmaejlfjdkkpdaaSev
import Derived.Test.YtmaejlfjdkkpdaaFou
import Derived.Test.YtmaejlfjdkkpdaaPls
import Derived.Test.YtmaejlfjdkkpdaaOrd
import Derived.Test.YtmaejlfjdkkpdaaBxs
import Derived.StillTailTactics
namespace Go.Proofs.Ytmaejlfjdkkpdaa.seven
open Go.ChangeShapes Go.WideShapes Go.ChangeAt Go.RowKit
open gen
set_option maxHeartbeats 1000000 in
theorem eqElT (x : F7) (w : World) : Calls Try.prog 27 #[.agg #[.int .i64 x.1, .int .i64 x.2.1, .int .i64 x.2.2.1, .int .i64 x.2.2.2.1, .int .i64 x.2.2.2.2.1, .int .i64 x.2.2.2.2.2.1, .int .i64 x.2.2.2.2.2.2], .agg #[.int .i64 x.1, .int .i64 x.2.1, .int .i64 x.2.2.1, .int .i64 x.2.2.2.1, .int .i64 x.2.2.2.2.1, .int .i64 x.2.2.2.2.2.1, .int .i64 x.2.2.2.2.2.2]] w fun e w' => e = .returned (.bool true) ∧ Below w.heap.size w w' := by
  obtain ⟨a, b, c, d, f, g, h⟩ := x
  dsimp only
  go_enter Try.func27, Try.ntmps27
  go_wp2
  go_ret
  exact ⟨rfl, bAl (bAl (Below.refl _ _) (Nat.le_refl _) _) (Nat.le_refl _) _⟩
set_option maxRecDepth 20000 in
set_option maxHeartbeats 1000000 in
/-- Two slices of the same Parts: the answer is yes. -/
theorem eqT (w : World) (a1 a2 : Option Addr) (c1 c2 g1 g2 : Nat) (l : List F7) (r1 : Row w a1 c1 g1 l) (r2 : Row w a2 c2 g2 l) (hn : l.length ≤ 1048576) :
    Calls Try.prog 116 #[.slice a1 l.length c1, .slice a2 l.length c2] w fun e w' => e = .returned (.bool true) ∧ Below w.heap.size w w' := by
  have R1 := Lib.hid r1
  have R2 := Lib.hid r2
  have e1 := r1.addr
  have e2 := r2.addr
  have m1 := r1.room
  have m2 := r2.room
  clear r1 r2
  obtain ⟨n, hnz⟩ : ∃ n, n = l.length := ⟨_, rfl⟩
  rw [← hnz] at hn e1 e2 m1 m2 ⊢
  have HNZ := Lib.hid hnz
  clear hnz
  rcases Nat.eq_zero_or_pos n with rfl | hp
  · clear e1 e2
    go_enter Try.func116, Try.ntmps116
    go_wp2
    go_loop [5] (fun i => i = .int .i64 0) (fun _ => 0)
    case atStart => exact rfl
    case round =>
      obtain rfl := hrel
      go_wp2
      go_ret
      exact ⟨rfl, Below.refl _ _⟩
  · obtain rfl := e1 hp
    obtain rfl := e2 hp
    clear e1 e2
    go_enter Try.func116, Try.ntmps116
    go_wp2
    go_loopw [5] (fun i wr => Below w.heap.size w wr ∧ ∃ k : Nat, k ≤ n ∧ i = .int .i64 k) (fun i _ => n - (intOf i).toNat)
    case atStart => exact ⟨Below.refl _ _, 0, by omega, rfl⟩
    case round =>
      obtain ⟨hB, k, hk, rfl⟩ := hrel
      have BB := Lib.hid hB
      by_cases hlt : k < n
      · have q1 := (R1.out.cells k (by rw [← HNZ.out]; exact hlt)).keep (hB.block g1 (R1.out.lt (by rw [← HNZ.out]; exact hp)))
        have q2 := (R2.out.cells k (by rw [← HNZ.out]; exact hlt)).keep (hB.block g2 (R2.out.lt (by rw [← HNZ.out]; exact hp)))
        clear hB
        obtain ⟨x, hx⟩ : ∃ x, x = l.getD k zz := ⟨_, rfl⟩
        rw [← hx] at q1 q2
        clear hx
        obtain ⟨x1, x2, x3, x4, x5, x6, x7⟩ := q1
        obtain ⟨y1, y2, y3, y4, y5, y6, y7⟩ := q2
        have z1 : (k : Int) < (n : Int) := by omega
        have u1 : decide (k < n) = true := by simp; omega
        go_wp2
        go_still_tail 8, (by kernel_rfl)
        change wpList _ _ _ _ _ wr.drew
        have B1 := Lib.hid BB.out.drew
        generalize wr.drew = w1 at B1 ⊢
        go_wp2_with fail
        refine (eqElT x w1).mono ?_
        rintro e w2 ⟨rfl, b2⟩
        have B2 := Lib.hid (B1.out.trans (b2.mono B1.out.size))
        clear b2 x1 x2 x3 x4 x5 x6 x7 y1 y2 y3 y4 y5 y6 y7
        go_wp2
        go_roundw
        case rel => exact ⟨B2.out, k + 1, by omega, by go_num⟩
        case measure => simp [intOf]; omega
      · have u1 : decide (k < n) = false := by simp; omega
        clear hB
        go_wp2
        go_ret
        exact ⟨rfl, BB.out⟩
end Go.Proofs.Ytmaejlfjdkkpdaa.seven

namespace Go.Proofs.Ytmaejlfjdkkpdaa.four
open Go.ChangeShapes Go.WideShapes Go.ChangeAt Go.RowKit
open gen
set_option maxHeartbeats 1000000 in
theorem eqElT (x : F4) (w : World) : Calls Try.prog 93 #[.agg #[.int .i64 x.1, .int .i64 x.2.1, .int .i64 x.2.2.1, .int .i64 x.2.2.2], .agg #[.int .i64 x.1, .int .i64 x.2.1, .int .i64 x.2.2.1, .int .i64 x.2.2.2]] w fun e w' => e = .returned (.bool true) ∧ Below w.heap.size w w' := by
  obtain ⟨a, b, c, d⟩ := x
  dsimp only
  go_enter Try.func93, Try.ntmps93
  go_wp2
  go_ret
  exact ⟨rfl, bAl (bAl (Below.refl _ _) (Nat.le_refl _) _) (Nat.le_refl _) _⟩
set_option maxRecDepth 20000 in
set_option maxHeartbeats 1000000 in
/-- Two slices of the same Items: the answer is yes. -/
theorem eqT (w : World) (a1 a2 : Option Addr) (c1 c2 g1 g2 : Nat) (l : List F4) (r1 : Row w a1 c1 g1 l) (r2 : Row w a2 c2 g2 l) (hn : l.length ≤ 1048576) :
    Calls Try.prog 58 #[.slice a1 l.length c1, .slice a2 l.length c2] w fun e w' => e = .returned (.bool true) ∧ Below w.heap.size w w' := by
  have R1 := Lib.hid r1
  have R2 := Lib.hid r2
  have e1 := r1.addr
  have e2 := r2.addr
  have m1 := r1.room
  have m2 := r2.room
  clear r1 r2
  obtain ⟨n, hnz⟩ : ∃ n, n = l.length := ⟨_, rfl⟩
  rw [← hnz] at hn e1 e2 m1 m2 ⊢
  have HNZ := Lib.hid hnz
  clear hnz
  rcases Nat.eq_zero_or_pos n with rfl | hp
  · clear e1 e2
    go_enter Try.func58, Try.ntmps58
    go_wp2
    go_loop [5] (fun i => i = .int .i64 0) (fun _ => 0)
    case atStart => exact rfl
    case round =>
      obtain rfl := hrel
      go_wp2
      go_ret
      exact ⟨rfl, Below.refl _ _⟩
  · obtain rfl := e1 hp
    obtain rfl := e2 hp
    clear e1 e2
    go_enter Try.func58, Try.ntmps58
    go_wp2
    go_loopw [5] (fun i wr => Below w.heap.size w wr ∧ ∃ k : Nat, k ≤ n ∧ i = .int .i64 k) (fun i _ => n - (intOf i).toNat)
    case atStart => exact ⟨Below.refl _ _, 0, by omega, rfl⟩
    case round =>
      obtain ⟨hB, k, hk, rfl⟩ := hrel
      have BB := Lib.hid hB
      by_cases hlt : k < n
      · have q1 := (R1.out.cells k (by rw [← HNZ.out]; exact hlt)).keep (hB.block g1 (R1.out.lt (by rw [← HNZ.out]; exact hp)))
        have q2 := (R2.out.cells k (by rw [← HNZ.out]; exact hlt)).keep (hB.block g2 (R2.out.lt (by rw [← HNZ.out]; exact hp)))
        clear hB
        obtain ⟨x, hx⟩ : ∃ x, x = l.getD k zz := ⟨_, rfl⟩
        rw [← hx] at q1 q2
        clear hx
        obtain ⟨x1, x2, x3, x4⟩ := q1
        obtain ⟨y1, y2, y3, y4⟩ := q2
        have z1 : (k : Int) < (n : Int) := by omega
        have u1 : decide (k < n) = true := by simp; omega
        go_wp2
        go_still_tail 8, (by kernel_rfl)
        change wpList _ _ _ _ _ wr.drew
        have B1 := Lib.hid BB.out.drew
        generalize wr.drew = w1 at B1 ⊢
        go_wp2_with fail
        refine (eqElT x w1).mono ?_
        rintro e w2 ⟨rfl, b2⟩
        have B2 := Lib.hid (B1.out.trans (b2.mono B1.out.size))
        clear b2 x1 x2 x3 x4 y1 y2 y3 y4
        go_wp2
        go_roundw
        case rel => exact ⟨B2.out, k + 1, by omega, by go_num⟩
        case measure => simp [intOf]; omega
      · have u1 : decide (k < n) = false := by simp; omega
        clear hB
        go_wp2
        go_ret
        exact ⟨rfl, BB.out⟩
end Go.Proofs.Ytmaejlfjdkkpdaa.four

namespace Go.Proofs.Ytmaejlfjdkkpdaa.pls
open Go.ChangeShapes Go.WideShapes Go.ChangeAt Go.RowKit
open gen
open seven (F7 zz Row At)
open four (F4)
open ord (Sc iok)
set_option maxHeartbeats 1000000 in
theorem eqPlT (w : World) (a1 a2 : Option Addr) (c1 c2 g1 g2 : Nat) (l : List F7) (r1 : Row w a1 c1 g1 l) (r2 : Row w a2 c2 g2 l) (hn : l.length ≤ 1048576) :
    Calls Try.prog 94 #[.agg #[.slice a1 l.length c1], .agg #[.slice a2 l.length c2]] w fun e w' => e = .returned (.bool true) ∧ Below w.heap.size w w' := by
  have B0 := Lib.hid (show Below w.heap.size w ((w.alloc (.cells #[.slice a1 l.length c1] 62)).alloc (.cells #[.slice a2 l.length c2] 62)) from bAl (bAl (Below.refl _ _) (Nat.le_refl _) _) (Nat.le_refl _) _)
  have C := Lib.hid (fun W (hb : Below w.heap.size w W) => seven.eqT W a1 a2 c1 c2 g1 g2 l (r1.keep fun h => hb.block g1 (r1.lt h)) (r2.keep fun h => hb.block g2 (r2.lt h)) hn)
  clear r1 r2
  go_enter Try.func94, Try.ntmps94
  go_wp2_with fail
  refine (C.out _ B0.out).mono ?_
  rintro e w' ⟨rfl, b⟩
  go_wp2
  go_ret
  exact ⟨rfl, B0.out.trans (b.mono B0.out.size)⟩
set_option maxRecDepth 20000 in
set_option maxHeartbeats 1000000 in
/-- Two slices of the same plans: the answer is yes. -/
theorem eqPlsT (w : World) (a1 a2 : Option Addr) (c1 c2 g1 g2 : Nat) (p : List (List F7)) (gs1 cs1 gs2 cs2 : Nat → Nat) (r1 : Pls w a1 c1 g1 p gs1 cs1) (r2 : Pls w a2 c2 g2 p gs2 cs2) (hn : p.length ≤ 1048576) (hm : ∀ i, i < p.length → (nth p i).length ≤ 1048576) :
    Calls Try.prog 59 #[.slice a1 p.length c1, .slice a2 p.length c2] w fun e w' => e = .returned (.bool true) ∧ Below w.heap.size w w' := by
  have R1 := Lib.hid r1
  have R2 := Lib.hid r2
  have HM := Lib.hid hm
  have e1 := r1.addr
  have e2 := r2.addr
  have m1 := r1.room
  have m2 := r2.room
  clear r1 r2 hm
  obtain ⟨n, hnz⟩ : ∃ n, n = p.length := ⟨_, rfl⟩
  rw [← hnz] at hn e1 e2 m1 m2 ⊢
  have HNZ := Lib.hid hnz
  clear hnz
  rcases Nat.eq_zero_or_pos n with rfl | hp
  · clear e1 e2
    go_enter Try.func59, Try.ntmps59
    go_wp2
    go_loop [5] (fun i => i = .int .i64 0) (fun _ => 0)
    case atStart => exact rfl
    case round =>
      obtain rfl := hrel
      go_wp2
      go_ret
      exact ⟨rfl, Below.refl _ _⟩
  · obtain rfl := e1 hp
    obtain rfl := e2 hp
    clear e1 e2
    go_enter Try.func59, Try.ntmps59
    go_wp2
    go_loopw [5] (fun i wr => Below w.heap.size w wr ∧ ∃ k : Nat, k ≤ n ∧ i = .int .i64 k) (fun i _ => n - (intOf i).toNat)
    case atStart => exact ⟨Below.refl _ _, 0, by omega, rfl⟩
    case round =>
      obtain ⟨hB, k, hk, rfl⟩ := hrel
      have BB := Lib.hid hB
      by_cases hlt : k < n
      · have HK := Lib.hid (show k < p.length from by rw [← HNZ.out]; exact hlt)
        have q1 := (R1.out.below hB).cells k HK.out
        have q2 := (R2.out.below hB).cells k HK.out
        have C := Lib.hid (fun W (hb : Below w.heap.size w W) => eqPlT W _ _ _ _ _ _ (nth p k) ((R1.out.below hb).rows k HK.out) ((R2.out.below hb).rows k HK.out) (HM.out k HK.out))
        clear hB
        generalize nth p k = q at q1 q2 C
        generalize gs1 k = x1 at q1 C
        generalize gs2 k = x2 at q2 C
        generalize cs1 k = y1 at q1 C
        generalize cs2 k = y2 at q2 C
        have z1 : (k : Int) < (n : Int) := by omega
        have u1 : decide (k < n) = true := by simp; omega
        go_wp2
        go_still_tail 8, (by kernel_rfl)
        change wpList _ _ _ _ _ wr.drew
        have B1 := Lib.hid BB.out.drew
        generalize wr.drew = w1 at B1 ⊢
        go_wp2_with fail
        refine (C.out w1 B1.out).mono ?_
        rintro e w2 ⟨rfl, b2⟩
        have B2 := Lib.hid (B1.out.trans (b2.mono B1.out.size))
        clear b2 q1 q2
        go_wp2
        go_roundw
        case rel => exact ⟨B2.out, k + 1, by omega, by go_num⟩
        case measure => simp [intOf]; omega
      · have u1 : decide (k < n) = false := by simp; omega
        clear hB
        go_wp2
        go_ret
        exact ⟨rfl, BB.out⟩
set_option maxRecDepth 100000 in
set_option maxHeartbeats 4000000 in
/-- Two equal orders: the answer is yes. -/
theorem eqOT (w : World) (s : Sc) (l : List F4) (p : List (List F7)) (B1 B2 : Nat) (a1 b1 a2 b2 : Option Addr) (c1 i1 d1 g1 c2 i2 d2 g2 : Nat) (gs1 cs1 gs2 cs2 : Nat → Nat) (r1 : OL w B1 l p a1 c1 i1 b1 d1 g1 gs1 cs1) (r2 : OL w B2 l p a2 c2 i2 b2 d2 g2 gs2 cs2)
    (hl : l.length ≤ 1048576) (hn : p.length ≤ 1048576) (hm : ∀ i, i < p.length → (nth p i).length ≤ 1048576) :
    Calls Try.prog 18 #[.agg #[.int .i64 s.id, .int .i64 s.co, .int .i64 s.me, .int .i64 s.cu, .int .i64 s.da, .int .i64 s.nn, .int .i64 s.ra, .int .i64 s.nu, .int .i64 s.de, .slice a1 l.length c1, .slice b1 p.length d1, .int .i64 s.op, .int .i64 s.up], .agg #[.int .i64 s.id, .int .i64 s.co, .int .i64 s.me, .int .i64 s.cu, .int .i64 s.da, .int .i64 s.nn, .int .i64 s.ra, .int .i64 s.nu, .int .i64 s.de, .slice a2 l.length c2, .slice b2 p.length d2, .int .i64 s.op, .int .i64 s.up]] w fun e w' => e = .returned (.bool true) ∧ Below w.heap.size w w' := by
  have B0 := Lib.hid (show Below w.heap.size w ((w.alloc (.cells #[.int .i64 s.id, .int .i64 s.co, .int .i64 s.me, .int .i64 s.cu, .int .i64 s.da, .int .i64 s.nn, .int .i64 s.ra, .int .i64 s.nu, .int .i64 s.de, .slice a1 l.length c1, .slice b1 p.length d1, .int .i64 s.op, .int .i64 s.up] 31)).alloc (.cells #[.int .i64 s.id, .int .i64 s.co, .int .i64 s.me, .int .i64 s.cu, .int .i64 s.da, .int .i64 s.nn, .int .i64 s.ra, .int .i64 s.nu, .int .i64 s.de, .slice a2 l.length c2, .slice b2 p.length d2, .int .i64 s.op, .int .i64 s.up] 31)) from bAl (bAl (Below.refl _ _) (Nat.le_refl _) _) (Nat.le_refl _) _)
  have CI := Lib.hid (fun W (hb : Below w.heap.size w W) => four.eqT W a1 a2 c1 c2 i1 i2 l (r1.below hb).items (r2.below hb).items hl)
  have CP := Lib.hid (fun W (hb : Below w.heap.size w W) => eqPlsT W b1 b2 d1 d2 g1 g2 p gs1 cs1 gs2 cs2 (r1.below hb).plans (r2.below hb).plans hn hm)
  have X1 := (Blk.new w #[.int .i64 s.id, .int .i64 s.co, .int .i64 s.me, .int .i64 s.cu, .int .i64 s.da, .int .i64 s.nn, .int .i64 s.ra, .int .i64 s.nu, .int .i64 s.de, .slice a1 l.length c1, .slice b1 p.length d1, .int .i64 s.op, .int .i64 s.up] 31 13 rfl).al (.cells #[.int .i64 s.id, .int .i64 s.co, .int .i64 s.me, .int .i64 s.cu, .int .i64 s.da, .int .i64 s.nn, .int .i64 s.ra, .int .i64 s.nu, .int .i64 s.de, .slice a2 l.length c2, .slice b2 p.length d2, .int .i64 s.op, .int .i64 s.up] 31)
  have X2 := Blk.new (w.alloc (.cells #[.int .i64 s.id, .int .i64 s.co, .int .i64 s.me, .int .i64 s.cu, .int .i64 s.da, .int .i64 s.nn, .int .i64 s.ra, .int .i64 s.nu, .int .i64 s.de, .slice a1 l.length c1, .slice b1 p.length d1, .int .i64 s.op, .int .i64 s.up] 31)) #[.int .i64 s.id, .int .i64 s.co, .int .i64 s.me, .int .i64 s.cu, .int .i64 s.da, .int .i64 s.nn, .int .i64 s.ra, .int .i64 s.nu, .int .i64 s.de, .slice a2 l.length c2, .slice b2 p.length d2, .int .i64 s.op, .int .i64 s.up] 31 13 rfl
  have z0 : ((w.alloc (.cells #[.int .i64 s.id, .int .i64 s.co, .int .i64 s.me, .int .i64 s.cu, .int .i64 s.da, .int .i64 s.nn, .int .i64 s.ra, .int .i64 s.nu, .int .i64 s.de, .slice a1 l.length c1, .slice b1 p.length d1, .int .i64 s.op, .int .i64 s.up] 31)).alloc (.cells #[.int .i64 s.id, .int .i64 s.co, .int .i64 s.me, .int .i64 s.cu, .int .i64 s.da, .int .i64 s.nn, .int .i64 s.ra, .int .i64 s.nu, .int .i64 s.de, .slice a2 l.length c2, .slice b2 p.length d2, .int .i64 s.op, .int .i64 s.up] 31)).heap.size = w.heap.size + 1 + 1 := by simp only [sz_al]
  simp only [sz_al] at X2
  clear r1 r2 hm
  generalize l.length = ln at *
  generalize p.length = pn at *
  have X1h := Lib.hid X1
  have X2h := Lib.hid X2
  clear X1 X2
  go_enter Try.func18, Try.ntmps18
  go_wp2_with fail
  generalize (w.alloc (.cells #[.int .i64 s.id, .int .i64 s.co, .int .i64 s.me, .int .i64 s.cu, .int .i64 s.da, .int .i64 s.nn, .int .i64 s.ra, .int .i64 s.nu, .int .i64 s.de, .slice a1 ln c1, .slice b1 pn d1, .int .i64 s.op, .int .i64 s.up] 31)).alloc (.cells #[.int .i64 s.id, .int .i64 s.co, .int .i64 s.me, .int .i64 s.cu, .int .i64 s.da, .int .i64 s.nn, .int .i64 s.ra, .int .i64 s.nu, .int .i64 s.de, .slice a2 ln c2, .slice b2 pn d2, .int .i64 s.op, .int .i64 s.up] 31) = W0 at B0 X1h X2h z0 ⊢
  refine (CI.out W0 B0.out).mono ?_
  rintro e w1 ⟨rfl, b⟩
  have B1 := Lib.hid (B0.out.trans (b.mono B0.out.size))
  have Y1 := Lib.hid (X1h.out.below b X1h.out.lt)
  have Y2 := Lib.hid (X2h.out.below b X2h.out.lt)
  have x10 : w1.cell? ⟨w.heap.size, 10, none⟩ = some (.slice b1 pn d1) := Y1.out.cell 10 (by decide)
  have y10 : w1.cell? ⟨w.heap.size + 1, 10, none⟩ = some (.slice b2 pn d2) := Y2.out.cell 10 (by decide)
  clear b X1h X2h z0 B0
  go_wp2_with fail
  refine (CP.out w1 B1.out).mono ?_
  rintro e w2 ⟨rfl, b⟩
  have B2 := Lib.hid (B1.out.trans (b.mono B1.out.size))
  have Z1 := Y1.out.below b Y1.out.lt
  have Z2 := Y2.out.below b Y2.out.lt
  have x11 : w2.cell? ⟨w.heap.size, 11, none⟩ = some (.int .i64 s.op) := Z1.cell 11 (by decide)
  have y11 : w2.cell? ⟨w.heap.size + 1, 11, none⟩ = some (.int .i64 s.op) := Z2.cell 11 (by decide)
  have x12 : w2.cell? ⟨w.heap.size, 12, none⟩ = some (.int .i64 s.up) := Z1.cell 12 (by decide)
  have y12 : w2.cell? ⟨w.heap.size + 1, 12, none⟩ = some (.int .i64 s.up) := Z2.cell 12 (by decide)
  clear b Y1 Y2 Z1 Z2 x10 y10
  go_wp2
  go_ret
  exact ⟨rfl, B2.out⟩
end Go.Proofs.Ytmaejlfjdkkpdaa.pls

namespace Go.Proofs.Ytmaejlfjdkkpdaa.pls
open Go.ChangeShapes Go.WideShapes Go.ChangeAt Go.RowKit
open gen
open seven (F7 zz Row At)
open four (F4)
theorem szIOk (a : Option Addr) (len cap m : Nat) (w : World) (h : len ≤ m) (hm : m ≤ 1048576) : Calls Try.prog 42 #[.slice a len cap, .int .i64 m] w fun e w' => e = .returned (.int .i64 ((m - len : Nat) : Int)) ∧ w = w' := by
  obtain ⟨d, hd⟩ : ∃ d, d = m - len := ⟨_, rfl⟩
  rw [← hd]
  have e : (m : Int) - (len : Int) = (d : Int) := by omega
  have t1 : decide ((d : Int) < 0) = false := by simp
  have hd2 : d ≤ 1048576 := by omega
  clear hd
  go_enter Try.func42, Try.ntmps42
  go_wp2
  go_ret
  exact ⟨rfl, rfl⟩
theorem szINo (a : Option Addr) (len cap m : Nat) (w : World) (h : m < len) (hl : len ≤ maxLen) : Calls Try.prog 42 #[.slice a len cap, .int .i64 m] w fun e w' => e = .returned (.int .i64 (-1)) ∧ w = w' := by
  unfold maxLen at hl
  have t1 : decide ((m : Int) - (len : Int) < 0) = true := by simp; omega
  go_enter Try.func42, Try.ntmps42
  go_wp2
  go_ret
  exact ⟨rfl, rfl⟩
theorem szPOk (a : Option Addr) (len cap m : Nat) (w : World) (h : len ≤ m) (hm : m ≤ 1048576) : Calls Try.prog 113 #[.slice a len cap, .int .i64 m] w fun e w' => e = .returned (.int .i64 ((m - len : Nat) : Int)) ∧ w = w' := by
  obtain ⟨d, hd⟩ : ∃ d, d = m - len := ⟨_, rfl⟩
  rw [← hd]
  have e : (m : Int) - (len : Int) = (d : Int) := by omega
  have t1 : decide ((d : Int) < 0) = false := by simp
  have hd2 : d ≤ 1048576 := by omega
  clear hd
  go_enter Try.func113, Try.ntmps113
  go_wp2
  go_ret
  exact ⟨rfl, rfl⟩
theorem szPNo (a : Option Addr) (len cap m : Nat) (w : World) (h : m < len) (hl : len ≤ maxLen) : Calls Try.prog 113 #[.slice a len cap, .int .i64 m] w fun e w' => e = .returned (.int .i64 (-1)) ∧ w = w' := by
  unfold maxLen at hl
  have t1 : decide ((m : Int) - (len : Int) < 0) = true := by simp; omega
  go_enter Try.func113, Try.ntmps113
  go_wp2
  go_ret
  exact ⟨rfl, rfl⟩
theorem szPlOk (a : Option Addr) (len cap m : Nat) (w : World) (h : len ≤ m) (hm : m ≤ 1048576) : Calls Try.prog 81 #[.agg #[.slice a len cap], .int .i64 m] w fun e w' => e = .returned (.int .i64 ((m - len : Nat) : Int)) ∧ Below w.heap.size w w' := by
  have C := fun w => szPOk a len cap m w h hm
  obtain ⟨d, hd⟩ : ∃ d, d = m - len := ⟨_, rfl⟩
  rw [← hd] at C ⊢
  have t1 : decide ((d : Int) < 0) = false := by simp
  clear hd
  go_enter Try.func81, Try.ntmps81
  go_wp2_with fail
  refine (C _).mono ?_
  rintro e w' ⟨rfl, rfl⟩
  go_wp2
  go_ret
  exact ⟨rfl, bAl (Below.refl _ _) (Nat.le_refl _) _⟩
theorem szPlNo (a : Option Addr) (len cap m : Nat) (w : World) (h : m < len) (hl : len ≤ maxLen) : Calls Try.prog 81 #[.agg #[.slice a len cap], .int .i64 m] w fun e w' => e = .returned (.int .i64 (-1)) ∧ Below w.heap.size w w' := by
  have C := fun w => szPNo a len cap m w h hl
  have t1 : decide ((-1 : Int) < 0) = true := by decide
  go_enter Try.func81, Try.ntmps81
  go_wp2_with fail
  refine (C _).mono ?_
  rintro e w' ⟨rfl, rfl⟩
  go_wp2
  go_ret
  exact ⟨rfl, bAl (Below.refl _ _) (Nat.le_refl _) _⟩
/-- What is left of m. -/
def lft (T m : Nat) : Int := if T ≤ m then ((m - T : Nat) : Int) else -1
theorem lft_t {T m : Nat} (h : T ≤ m) : lft T m = ((m - T : Nat) : Int) := if_pos h
theorem lft_f {T m : Nat} (h : ¬ T ≤ m) : lft T m = -1 := if_neg h
set_option maxHeartbeats 1000000 in
theorem szPls (a : Option Addr) (cap m : Nat) (p : List (List F7)) (w : World) (h : InpP w a p) (hn : p.length ≤ maxLen) (hl : ∀ i, i < p.length → (nth p i).length ≤ maxLen) (hm : m ≤ 1048576) : Calls Try.prog 43 #[.slice a p.length cap, .int .i64 m] w fun e w' => e = .returned (.int .i64 (lft (p.length + tl p p.length) m)) ∧ Below w.heap.size w w' := by
  have HI := Lib.hid h
  have HL := Lib.hid hl
  clear h hl
  obtain ⟨T, hT⟩ : ∃ T, T = lft (p.length + tl p p.length) m := ⟨_, rfl⟩
  rw [← hT]
  have HT := Lib.hid hT
  clear hT
  obtain ⟨n, hnz⟩ : ∃ n, n = p.length := ⟨_, rfl⟩
  rw [← hnz] at hn ⊢
  have HNZ := Lib.hid hnz
  clear hnz
  by_cases h0 : n ≤ m
  · obtain ⟨d, hd⟩ : ∃ d, d = m - n := ⟨_, rfl⟩
    have e : (m : Int) - (n : Int) = (d : Int) := by omega
    have t1 : decide ((d : Int) < 0) = false := by simp
    have hd2 : d ≤ 1048576 := by omega
    have HD := Lib.hid (show d = m - n ∧ n ≤ m from ⟨hd, h0⟩)
    clear hd
    go_enter Try.func43, Try.ntmps43
    go_wp2
    go_loopw [1, 5] (fun lv vi wr => Below w.heap.size w wr ∧ ∃ (k M : Nat), k ≤ n ∧ vi = .int .i64 k ∧ lv = .int .i64 M ∧ M + tl p k = d) (fun _ vi _ => n - (intOf vi).toNat)
    case atStart => exact ⟨Below.refl _ _, 0, d, by omega, rfl, rfl, rfl⟩
    case round =>
      obtain ⟨hB, k, M, hk, rfl, rfl, hM⟩ := hrel
      have BB := Lib.hid hB
      by_cases hlt : k < n
      · have HK := Lib.hid (show k < p.length from by rw [← HNZ.out]; exact hlt)
        obtain ⟨c, off, rfl, a', cap', hcell, hin⟩ := HI.out k HK.out
        replace hcell := cell_keep hcell (hB.block c (cell_lt hcell))
        have u1 : decide (k < n) = true := by simp; omega
        have z1 : (k : Int) < (n : Int) := by omega
        have HLq := HL.out k HK.out
        have HMM := Lib.hid hM
        have hM2 : M ≤ 1048576 := by omega
        have TM := Lib.hid (tl_mono p (k + 1) (n - (k + 1)))
        clear hB hin hM
        obtain ⟨q, hq⟩ : ∃ q, q = (nth p k).length := ⟨_, rfl⟩
        rw [← hq] at hcell HLq
        have TS := Lib.hid (show tl p (k + 1) = tl p k + q from by rw [hq]; rfl)
        clear hq
        by_cases h1 : q ≤ M
        · obtain ⟨r, hr⟩ : ∃ r, r = M - q := ⟨_, rfl⟩
          have C := Lib.hid (szPlOk a' q cap' M wr h1 hM2)
          rw [← hr] at C
          have HR := Lib.hid hr
          have t2 : decide ((r : Int) < 0) = false := by simp
          clear hr HLq
          go_wp2_with fail
          refine C.out.mono ?_
          rintro e w1 ⟨rfl, b1⟩
          have B1 := Lib.hid (BB.out.trans (b1.mono BB.out.size))
          clear b1
          go_wp2
          go_roundw
          case rel => exact ⟨B1.out, k + 1, r, by omega, by go_num, rfl, by have := TS.out; have := HMM.out; have := HR.out; omega⟩
          case measure => simp [intOf]; omega
        · have C := Lib.hid (szPlNo a' q cap' M wr (by omega) HLq)
          have t2 : decide ((-1 : Int) < 0) = true := by decide
          have NO := Lib.hid (show T = -1 from HT.out.trans (lft_f (by
            have := TS.out; have := HMM.out; have := HD.out
            rw [← HNZ.out]
            have q1 := TM.out
            rw [show k + 1 + (n - (k + 1)) = n by omega] at q1
            omega)))
          clear HLq
          go_wp2_with fail
          refine C.out.mono ?_
          rintro e w1 ⟨rfl, b1⟩
          have B1 := Lib.hid (BB.out.trans (b1.mono BB.out.size))
          clear b1
          go_wp2
          go_ret
          exact ⟨by rw [NO.out]; rfl, B1.out⟩
      · have u1 : decide (k < n) = false := by simp; omega
        obtain rfl : k = n := by omega
        have YES := Lib.hid (show T = (M : Int) from HT.out.trans (by rw [lft_t (by rw [← HNZ.out]; have := HD.out; omega), ← HNZ.out]; have := HD.out; omega))
        clear hB hM
        go_wp2
        go_ret
        exact ⟨by rw [YES.out]; rfl, BB.out⟩
  · have t1 : decide ((m : Int) - (n : Int) < 0) = true := by simp; omega
    have NO := Lib.hid (show T = -1 from HT.out.trans (lft_f (by rw [← HNZ.out]; omega)))
    unfold maxLen at hn
    go_enter Try.func43, Try.ntmps43
    go_wp2
    go_ret
    exact ⟨by rw [NO.out]; rfl, Below.refl _ _⟩
set_option maxHeartbeats 1000000 in
theorem szO (s : ord.Sc) (ai : Option Addr) (ci : Nat) (l : List F4) (ap : Option Addr) (cp : Nat) (p : List (List F7)) (w : World) (h2 : InpP w ap p) (hl : l.length ≤ maxLen) (hn : p.length ≤ maxLen) (hm : ∀ i, i < p.length → (nth p i).length ≤ maxLen)  :
    Calls Try.prog 14 #[.agg #[.int .i64 s.id, .int .i64 s.co, .int .i64 s.me, .int .i64 s.cu, .int .i64 s.da, .int .i64 s.nn, .int .i64 s.ra, .int .i64 s.nu, .int .i64 s.de, .slice ai l.length ci, .slice ap p.length cp, .int .i64 s.op, .int .i64 s.up], .int .i64 1048576] w fun e w' => e = .returned (.int .i64 (lft (l.length + (p.length + tl p p.length)) 1048576)) ∧ Below w.heap.size w w' := by
  have b0 : Below w.heap.size w (w.alloc (.cells #[.int .i64 s.id, .int .i64 s.co, .int .i64 s.me, .int .i64 s.cu, .int .i64 s.da, .int .i64 s.nn, .int .i64 s.ra, .int .i64 s.nu, .int .i64 s.de, .slice ai l.length ci, .slice ap p.length cp, .int .i64 s.op, .int .i64 s.up] 25)) := bAl (Below.refl _ _) (Nat.le_refl _) _
  have B0 := Lib.hid b0
  have CP := fun m (hm1 : m ≤ 1048576) => szPls ap cp m p (w.alloc (.cells #[.int .i64 s.id, .int .i64 s.co, .int .i64 s.me, .int .i64 s.cu, .int .i64 s.da, .int .i64 s.nn, .int .i64 s.ra, .int .i64 s.nu, .int .i64 s.de, .slice ai l.length ci, .slice ap p.length cp, .int .i64 s.op, .int .i64 s.up] 25)) (h2.below b0) hn hm hm1
  clear b0 h2 hm
  generalize p.length + tl p p.length = Q at CP ⊢
  obtain ⟨T, hT⟩ : ∃ T, T = lft (l.length + Q) 1048576 := ⟨_, rfl⟩
  rw [← hT]
  have HT := Lib.hid hT
  clear hT
  generalize l.length = n at *
  generalize p.length = pn at *
  by_cases h0 : n ≤ 1048576
  · have C := szIOk ai n ci 1048576 (w.alloc (.cells #[.int .i64 s.id, .int .i64 s.co, .int .i64 s.me, .int .i64 s.cu, .int .i64 s.da, .int .i64 s.nn, .int .i64 s.ra, .int .i64 s.nu, .int .i64 s.de, .slice ai n ci, .slice ap pn cp, .int .i64 s.op, .int .i64 s.up] 25)) h0 (Nat.le_refl _)
    obtain ⟨d, hd⟩ : ∃ d, d = 1048576 - n := ⟨_, rfl⟩
    rw [← hd] at C
    have HD := Lib.hid hd
    have CP := CP d (by omega)
    have t1 : decide ((d : Int) < 0) = false := by simp
    clear hd
    obtain ⟨r, hr⟩ : ∃ r, r = lft Q d := ⟨_, rfl⟩
    rw [← hr] at CP
    have HR := Lib.hid (show T = r from by rw [hr, HT.out]; unfold lft; have := HD.out; split <;> split <;> omega)
    have R1 : r = -1 ∨ 0 ≤ r := by rw [hr]; unfold lft; split <;> omega
    clear hr
    rcases R1 with rfl | hr0
    · have t2 : decide ((-1 : Int) < 0) = true := by decide
      go_enter Try.func14, Try.ntmps14
      go_wp2_with fail
      refine C.mono ?_
      rintro e w' ⟨rfl, rfl⟩
      go_wp2_with fail
      refine CP.mono ?_
      rintro e w' ⟨rfl, b⟩
      go_wp2
      go_ret
      exact ⟨by rw [HR.out]; rfl, B0.out.trans (b.mono B0.out.size)⟩
    · have t2 : decide (r < 0) = false := by simp; omega
      go_enter Try.func14, Try.ntmps14
      go_wp2_with fail
      refine C.mono ?_
      rintro e w' ⟨rfl, rfl⟩
      go_wp2_with fail
      refine CP.mono ?_
      rintro e w' ⟨rfl, b⟩
      go_wp2
      go_ret
      exact ⟨by rw [HR.out]; rfl, B0.out.trans (b.mono B0.out.size)⟩
  · have C := szINo ai n ci 1048576 (w.alloc (.cells #[.int .i64 s.id, .int .i64 s.co, .int .i64 s.me, .int .i64 s.cu, .int .i64 s.da, .int .i64 s.nn, .int .i64 s.ra, .int .i64 s.nu, .int .i64 s.de, .slice ai n ci, .slice ap pn cp, .int .i64 s.op, .int .i64 s.up] 25)) (by omega) hl
    have t1 : decide ((-1 : Int) < 0) = true := by decide
    have NO := Lib.hid (show T = -1 from HT.out.trans (lft_f (by omega)))
    clear CP
    go_enter Try.func14, Try.ntmps14
    go_wp2_with fail
    refine C.mono ?_
    rintro e w' ⟨rfl, rfl⟩
    go_wp2
    go_ret
    exact ⟨by rw [NO.out]; rfl, B0.out⟩
end Go.Proofs.Ytmaejlfjdkkpdaa.pls
