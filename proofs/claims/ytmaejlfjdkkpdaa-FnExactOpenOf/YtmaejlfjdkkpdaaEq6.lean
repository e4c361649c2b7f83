/-
  Plain helpers of this seat's proofs: comparing plans and orders. Conditions: none.
-/
import Derived.Test.YtmaejlfjdkkpdaaPls
import Derived.Test.YtmaejlfjdkkpdaaOrd
import Derived.Test.YtmaejlfjdkkpdaaEq7
import Derived.Test.YtmaejlfjdkkpdaaEqI4
import Derived.Test.YtmaejlfjdkkpdaaBxs
namespace Go.Proofs.Ytmaejlfjdkkpdaa.pls
open Go.ChangeShapes Go.WideShapes Go.ChangeAt Go.RowKit
open gen
open seven (F7 zz Row At)
open four (F4)
open ord (Sc iok)
set_option maxHeartbeats 1000000 in
theorem eqPlT (w : World) (a1 a2 : Option Addr) (c1 c2 g1 g2 : Nat) (l : List F7) (r1 : Row w a1 c1 g1 l) (r2 : Row w a2 c2 g2 l) (hn : l.length ≤ 1048576) :
    Calls Try.prog 94 #[.agg #[.slice a1 l.length c1], .agg #[.slice a2 l.length c2]] w fun e w' => e = .returned (.bool true) ∧ Below w.heap.size w w' := by
  have B0 := Lib.hid (show Below w.heap.size w ((w.alloc (.cells #[.slice a1 l.length c1] 62)).alloc (.cells #[.slice a2 l.length c2] 62)) from bAl (bAl (Below.refl _ _) (Nat.le_refl _) _) (Nat.le_refl _) _)
  have C := Lib.hid (fun W (hb : Below w.heap.size w W) => seven.eqT W a1 a2 c1 c2 g1 g2 l (r1.keep fun h => hb.block g1 (r1.lt h)) (r2.keep fun h => hb.block g2 (r2.lt h)) hn)
  clear r1 r2
  go_enter Try.func94, Try.ntmps94
  go_wp2_with fail
  refine (C.out _ B0.out).mono ?_
  rintro e w' ⟨rfl, b⟩
  go_wp2
  go_ret
  exact ⟨rfl, B0.out.trans (b.mono B0.out.size)⟩
set_option maxRecDepth 20000 in
set_option maxHeartbeats 1000000 in
/-- Two slices of the same plans: the answer is yes. -/
theorem eqPlsT (w : World) (a1 a2 : Option Addr) (c1 c2 g1 g2 : Nat) (p : List (List F7)) (gs1 cs1 gs2 cs2 : Nat → Nat) (r1 : Pls w a1 c1 g1 p gs1 cs1) (r2 : Pls w a2 c2 g2 p gs2 cs2) (hn : p.length ≤ 1048576) (hm : ∀ i, i < p.length → (nth p i).length ≤ 1048576) :
    Calls Try.prog 59 #[.slice a1 p.length c1, .slice a2 p.length c2] w fun e w' => e = .returned (.bool true) ∧ Below w.heap.size w w' := by
  have R1 := Lib.hid r1
  have R2 := Lib.hid r2
  have HM := Lib.hid hm
  have e1 := r1.addr
  have e2 := r2.addr
  have m1 := r1.room
  have m2 := r2.room
  clear r1 r2 hm
  obtain ⟨n, hnz⟩ : ∃ n, n = p.length := ⟨_, rfl⟩
  rw [← hnz] at hn e1 e2 m1 m2 ⊢
  have HNZ := Lib.hid hnz
  clear hnz
  rcases Nat.eq_zero_or_pos n with rfl | hp
  · clear e1 e2
    go_enter Try.func59, Try.ntmps59
    go_wp2
    go_loop [5] (fun i => i = .int .i64 0) (fun _ => 0)
    case atStart => exact rfl
    case round =>
      obtain rfl := hrel
      go_wp2
      go_ret
      exact ⟨rfl, Below.refl _ _⟩
  · obtain rfl := e1 hp
    obtain rfl := e2 hp
    clear e1 e2
    go_enter Try.func59, Try.ntmps59
    go_wp2
    go_loopw [5] (fun i wr => Below w.heap.size w wr ∧ ∃ k : Nat, k ≤ n ∧ i = .int .i64 k) (fun i _ => n - (intOf i).toNat)
    case atStart => exact ⟨Below.refl _ _, 0, by omega, rfl⟩
    case round =>
      obtain ⟨hB, k, hk, rfl⟩ := hrel
      have BB := Lib.hid hB
      by_cases hlt : k < n
      · have HK := Lib.hid (show k < p.length from by rw [← HNZ.out]; exact hlt)
        have q1 := (R1.out.below hB).cells k HK.out
        have q2 := (R2.out.below hB).cells k HK.out
        have C := Lib.hid (fun W (hb : Below w.heap.size w W) => eqPlT W _ _ _ _ _ _ (nth p k) ((R1.out.below hb).rows k HK.out) ((R2.out.below hb).rows k HK.out) (HM.out k HK.out))
        clear hB
        generalize nth p k = q at q1 q2 C
        generalize gs1 k = x1 at q1 C
        generalize gs2 k = x2 at q2 C
        generalize cs1 k = y1 at q1 C
        generalize cs2 k = y2 at q2 C
        have z1 : (k : Int) < (n : Int) := by omega
        have u1 : decide (k < n) = true := by simp; omega
        go_wp2
        go_still_tail 8, (by kernel_rfl)
        change wpList _ _ _ _ _ wr.drew
        have B1 := Lib.hid BB.out.drew
        generalize wr.drew = w1 at B1 ⊢
        go_wp2_with fail
        refine (C.out w1 B1.out).mono ?_
        rintro e w2 ⟨rfl, b2⟩
        have B2 := Lib.hid (B1.out.trans (b2.mono B1.out.size))
        clear b2 q1 q2
        go_wp2
        go_roundw
        case rel => exact ⟨B2.out, k + 1, by omega, by go_num⟩
        case measure => simp [intOf]; omega
      · have u1 : decide (k < n) = false := by simp; omega
        clear hB
        go_wp2
        go_ret
        exact ⟨rfl, BB.out⟩
set_option maxRecDepth 100000 in
set_option maxHeartbeats 4000000 in
/-- Two equal orders: the answer is yes. -/
theorem eqOT (w : World) (s : Sc) (l : List F4) (p : List (List F7)) (B1 B2 : Nat) (a1 b1 a2 b2 : Option Addr) (c1 i1 d1 g1 c2 i2 d2 g2 : Nat) (gs1 cs1 gs2 cs2 : Nat → Nat) (r1 : OL w B1 l p a1 c1 i1 b1 d1 g1 gs1 cs1) (r2 : OL w B2 l p a2 c2 i2 b2 d2 g2 gs2 cs2)
    (hl : l.length ≤ 1048576) (hn : p.length ≤ 1048576) (hm : ∀ i, i < p.length → (nth p i).length ≤ 1048576) :
    Calls Try.prog 18 #[.agg #[.int .i64 s.id, .int .i64 s.co, .int .i64 s.me, .int .i64 s.cu, .int .i64 s.da, .int .i64 s.nn, .int .i64 s.ra, .int .i64 s.nu, .int .i64 s.de, .slice a1 l.length c1, .slice b1 p.length d1, .int .i64 s.op, .int .i64 s.up], .agg #[.int .i64 s.id, .int .i64 s.co, .int .i64 s.me, .int .i64 s.cu, .int .i64 s.da, .int .i64 s.nn, .int .i64 s.ra, .int .i64 s.nu, .int .i64 s.de, .slice a2 l.length c2, .slice b2 p.length d2, .int .i64 s.op, .int .i64 s.up]] w fun e w' => e = .returned (.bool true) ∧ Below w.heap.size w w' := by
  have B0 := Lib.hid (show Below w.heap.size w ((w.alloc (.cells #[.int .i64 s.id, .int .i64 s.co, .int .i64 s.me, .int .i64 s.cu, .int .i64 s.da, .int .i64 s.nn, .int .i64 s.ra, .int .i64 s.nu, .int .i64 s.de, .slice a1 l.length c1, .slice b1 p.length d1, .int .i64 s.op, .int .i64 s.up] 31)).alloc (.cells #[.int .i64 s.id, .int .i64 s.co, .int .i64 s.me, .int .i64 s.cu, .int .i64 s.da, .int .i64 s.nn, .int .i64 s.ra, .int .i64 s.nu, .int .i64 s.de, .slice a2 l.length c2, .slice b2 p.length d2, .int .i64 s.op, .int .i64 s.up] 31)) from bAl (bAl (Below.refl _ _) (Nat.le_refl _) _) (Nat.le_refl _) _)
  have CI := Lib.hid (fun W (hb : Below w.heap.size w W) => four.eqT W a1 a2 c1 c2 i1 i2 l (r1.below hb).items (r2.below hb).items hl)
  have CP := Lib.hid (fun W (hb : Below w.heap.size w W) => eqPlsT W b1 b2 d1 d2 g1 g2 p gs1 cs1 gs2 cs2 (r1.below hb).plans (r2.below hb).plans hn hm)
  have X1 := (Blk.new w #[.int .i64 s.id, .int .i64 s.co, .int .i64 s.me, .int .i64 s.cu, .int .i64 s.da, .int .i64 s.nn, .int .i64 s.ra, .int .i64 s.nu, .int .i64 s.de, .slice a1 l.length c1, .slice b1 p.length d1, .int .i64 s.op, .int .i64 s.up] 31 13 rfl).al (.cells #[.int .i64 s.id, .int .i64 s.co, .int .i64 s.me, .int .i64 s.cu, .int .i64 s.da, .int .i64 s.nn, .int .i64 s.ra, .int .i64 s.nu, .int .i64 s.de, .slice a2 l.length c2, .slice b2 p.length d2, .int .i64 s.op, .int .i64 s.up] 31)
  have X2 := Blk.new (w.alloc (.cells #[.int .i64 s.id, .int .i64 s.co, .int .i64 s.me, .int .i64 s.cu, .int .i64 s.da, .int .i64 s.nn, .int .i64 s.ra, .int .i64 s.nu, .int .i64 s.de, .slice a1 l.length c1, .slice b1 p.length d1, .int .i64 s.op, .int .i64 s.up] 31)) #[.int .i64 s.id, .int .i64 s.co, .int .i64 s.me, .int .i64 s.cu, .int .i64 s.da, .int .i64 s.nn, .int .i64 s.ra, .int .i64 s.nu, .int .i64 s.de, .slice a2 l.length c2, .slice b2 p.length d2, .int .i64 s.op, .int .i64 s.up] 31 13 rfl
  have z0 : ((w.alloc (.cells #[.int .i64 s.id, .int .i64 s.co, .int .i64 s.me, .int .i64 s.cu, .int .i64 s.da, .int .i64 s.nn, .int .i64 s.ra, .int .i64 s.nu, .int .i64 s.de, .slice a1 l.length c1, .slice b1 p.length d1, .int .i64 s.op, .int .i64 s.up] 31)).alloc (.cells #[.int .i64 s.id, .int .i64 s.co, .int .i64 s.me, .int .i64 s.cu, .int .i64 s.da, .int .i64 s.nn, .int .i64 s.ra, .int .i64 s.nu, .int .i64 s.de, .slice a2 l.length c2, .slice b2 p.length d2, .int .i64 s.op, .int .i64 s.up] 31)).heap.size = w.heap.size + 1 + 1 := by simp only [sz_al]
  simp only [sz_al] at X2
  clear r1 r2 hm
  generalize l.length = ln at *
  generalize p.length = pn at *
  have X1h := Lib.hid X1
  have X2h := Lib.hid X2
  clear X1 X2
  go_enter Try.func18, Try.ntmps18
  go_wp2_with fail
  generalize (w.alloc (.cells #[.int .i64 s.id, .int .i64 s.co, .int .i64 s.me, .int .i64 s.cu, .int .i64 s.da, .int .i64 s.nn, .int .i64 s.ra, .int .i64 s.nu, .int .i64 s.de, .slice a1 ln c1, .slice b1 pn d1, .int .i64 s.op, .int .i64 s.up] 31)).alloc (.cells #[.int .i64 s.id, .int .i64 s.co, .int .i64 s.me, .int .i64 s.cu, .int .i64 s.da, .int .i64 s.nn, .int .i64 s.ra, .int .i64 s.nu, .int .i64 s.de, .slice a2 ln c2, .slice b2 pn d2, .int .i64 s.op, .int .i64 s.up] 31) = W0 at B0 X1h X2h z0 ⊢
  refine (CI.out W0 B0.out).mono ?_
  rintro e w1 ⟨rfl, b⟩
  have B1 := Lib.hid (B0.out.trans (b.mono B0.out.size))
  have Y1 := Lib.hid (X1h.out.below b X1h.out.lt)
  have Y2 := Lib.hid (X2h.out.below b X2h.out.lt)
  have x10 : w1.cell? ⟨w.heap.size, 10, none⟩ = some (.slice b1 pn d1) := Y1.out.cell 10 (by decide)
  have y10 : w1.cell? ⟨w.heap.size + 1, 10, none⟩ = some (.slice b2 pn d2) := Y2.out.cell 10 (by decide)
  clear b X1h X2h z0 B0
  go_wp2_with fail
  refine (CP.out w1 B1.out).mono ?_
  rintro e w2 ⟨rfl, b⟩
  have B2 := Lib.hid (B1.out.trans (b.mono B1.out.size))
  have Z1 := Y1.out.below b Y1.out.lt
  have Z2 := Y2.out.below b Y2.out.lt
  have x11 : w2.cell? ⟨w.heap.size, 11, none⟩ = some (.int .i64 s.op) := Z1.cell 11 (by decide)
  have y11 : w2.cell? ⟨w.heap.size + 1, 11, none⟩ = some (.int .i64 s.op) := Z2.cell 11 (by decide)
  have x12 : w2.cell? ⟨w.heap.size, 12, none⟩ = some (.int .i64 s.up) := Z1.cell 12 (by decide)
  have y12 : w2.cell? ⟨w.heap.size + 1, 12, none⟩ = some (.int .i64 s.up) := Z2.cell 12 (by decide)
  clear b Y1 Y2 Z1 Z2 x10 y10
  go_wp2
  go_ret
  exact ⟨rfl, B2.out⟩
end Go.Proofs.Ytmaejlfjdkkpdaa.pls
