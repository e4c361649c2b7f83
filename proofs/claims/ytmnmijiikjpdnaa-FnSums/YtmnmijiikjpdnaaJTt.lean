/-
  Plain helpers of this seat's proofs: sums over the Parts of a plan, and what they become. Conditions: none.
-/
import Derived.Test.YtmnmijiikjpdnaaPy
import Derived.Test.YtmnmijiikjpdnaaOut
import Derived.Test.YtmnmijiikjpdnaaRw7
import Derived.Test.YtmnmijiikjpdnaaSmI
import Derived.WalkSmall
namespace Go.Proofs.Ytmnmijiikjpdnaa.base
open Go.ChangeShapes Go.WideShapes Go.ChangeAt Go.RowKit
open seven (F7 zz Row At)
open pl (inR prOk pok)
open gen
theorem pv_same {l l' : List F7} (h : pl.PV l) (hl : l'.length = l.length) (hd : ∀ i, i < l.length → (l'.getD i zz).1 = (l.getD i zz).1 ∧ pl.Pin (l'.getD i zz)) : pl.PV l' := by
  refine ⟨by rw [hl]; exact h.1, fun i hi => ?_⟩
  rw [hl] at hi
  refine ⟨pl.pok_iff.2 (hd i hi).2, fun h0 => ?_⟩
  rw [(hd i hi).1, (hd (i - 1) (by omega)).1]
  exact (h.2 i hi).up h0
theorem mr_get {S : Type} (f : S → F7 → F7 × S) : ∀ (l : List F7) (s : S) (k : Nat), k < l.length → (pl.mr f s l).1.getD k zz = (f (pl.bs f s l (k + 1)) (l.getD k zz)).1
  | [], _, _, h => absurd h (by simp)
  | x :: l, s, 0, _ => by simp [pl.mr, pl.bs]
  | x :: l, s, k + 1, h => by
    have e : pl.bs f s (x :: l) (k + 1 + 1) = pl.bs f s l (k + 1) := by simp [pl.bs]
    have := mr_get f l s k (by simpa using h)
    rw [e]
    simpa [pl.mr] using this
theorem late_pin {d f g s : Int} {x : F7} (p : pl.Pin x) (f0 : 0 ≤ f) (f1 : f ≤ 1000000000000) : pl.Pin (pl.late d f g s x).1 ∧ (pl.late d f g s x).1.1 = x.1 := by
  cases h : pl.isLate d g x with
  | false => rw [late_f h]; exact ⟨p, rfl⟩
  | true =>
    rw [late_t h]
    obtain ⟨p0, p1, p2, p3, p4, p5, p6, p7, p8, p9, q0, q1, q2, q3⟩ := p
    have e : x.2.2.2.1 = 0 := by
      unfold pl.isLate at h
      simp only [Bool.and_eq_true, beq_iff_eq] at h
      exact h.1.2
    refine ⟨⟨p0, p1, p2, p3, p4, p5, f0, f1, p8, p9, q0, q1, q2, ?_⟩, rfl⟩
    dsimp only
    omega
theorem late_pv {d f g : Int} {l : List F7} (h : pl.PV l) (f0 : 0 ≤ f) (f1 : f ≤ 1000000000000) : pl.PV (pl.ml (pl.late d f g) 0 l).1 :=
  pv_same h (pl.ml_len _ _ _) fun i hi => by
    rw [ml_get _ _ _ _ hi]
    have := late_pin (d := d) (f := f) (g := g) (s := pl.fs (pl.late d f g) 0 l i) (h.pin hi) f0 f1
    exact ⟨this.2, this.1⟩
theorem late_due {d f g : Int} {l : List F7} (h : pl.PV l) (f0 : 0 ≤ f) (f1 : f ≤ 1000000000000) {i : Nat} (hi : i < l.length) : ((pl.ml (pl.late d f g) 0 l).1.getD i zz).1 = (l.getD i zz).1 := by
  rw [ml_get _ _ _ _ hi]
  exact (late_pin (h.pin hi) f0 f1).2
theorem pay_due {n : Int} {l : List F7} {i : Nat} (hi : i < l.length) : ((pl.ml pl.pay (n, 0, 0, 0) l).1.getD i zz).1 = (l.getD i zz).1 := by
  rw [ml_get _ _ _ _ hi]; rfl
theorem cut_pin {m : Int} {x : F7} (p : pl.Pin x) (hm : 0 ≤ m) : pl.Pin (pl.cut m x).1 := by
  obtain ⟨p0, p1, p2, p3, p4, p5, p6, p7, p8, p9, q0, q1, q2, q3⟩ := p
  unfold pl.cut
  constructor <;> dsimp only <;> omega
theorem back_pin {m : Int} {x : F7} (p : pl.Pin x) (hm : 0 ≤ m) : pl.Pin (pl.back m x).1 := by
  obtain ⟨p0, p1, p2, p3, p4, p5, p6, p7, p8, p9, q0, q1, q2, q3⟩ := p
  unfold pl.back
  constructor <;> dsimp only <;> omega
theorem cut_pv {m : Int} {l : List F7} (h : pl.PV l) (hm : 0 ≤ m) : pl.PV (pl.mr pl.cut m l).1 :=
  pv_same h (pl.mr_len _ _ _) fun i hi => by
    rw [mr_get _ _ _ _ hi]
    exact ⟨rfl, cut_pin (h.pin hi) (bs_b (f := pl.cut) (fun x m hx hm => cut_b hx hm) (l := l) (fun i hi => h.pin (i := i) hi) hm (k := i + 1) hi).1⟩
theorem cut_due {m : Int} {l : List F7} {i : Nat} (hi : i < l.length) : ((pl.mr pl.cut m l).1.getD i zz).1 = (l.getD i zz).1 := by
  rw [mr_get _ _ _ _ hi]; rfl
theorem back_pv {m : Int} {l : List F7} (h : pl.PV l) (hm : 0 ≤ m) : pl.PV (pl.mr pl.back m l).1 :=
  pv_same h (pl.mr_len _ _ _) fun i hi => by
    rw [mr_get _ _ _ _ hi]
    exact ⟨rfl, back_pin (h.pin hi) (bs_b (f := pl.back) (fun x m hx hm => back_b hx hm) (l := l) (fun i hi => h.pin (i := i) hi) hm (k := i + 1) hi).1⟩
end Go.Proofs.Ytmnmijiikjpdnaa.base

namespace Go.Proofs.Ytmnmijiikjpdnaa.seven
open Go.ChangeShapes Go.WideShapes Go.ChangeAt Go.RowKit
set_option maxRecDepth 20000 in
set_option maxHeartbeats 4000000 in
/-- Two slices of the same Parts: the answer is yes. -/
theorem samT (w : World) (a1 a2 : Option Addr) (c1 c2 g1 g2 : Nat) (l : List F7) (r1 : Row w a1 c1 g1 l) (r2 : Row w a2 c2 g2 l) (hn : l.length ≤ 1048576) :
    Calls Try.prog 23 #[.slice a1 l.length c1, .slice a2 l.length c2] w fun e w' => e = .returned (.bool true) ∧ Below w.heap.size w w' := by
  have R1 := Lib.hid r1
  have R2 := Lib.hid r2
  have e1 := r1.addr
  have e2 := r2.addr
  have m1 := r1.room
  have m2 := r2.room
  clear r1 r2
  obtain ⟨n, hnz⟩ : ∃ n, n = l.length := ⟨_, rfl⟩
  rw [← hnz] at hn e1 e2 m1 m2 ⊢
  have HNZ := Lib.hid hnz
  clear hnz
  rcases Nat.eq_zero_or_pos n with rfl | hp
  · clear e1 e2
    go_enter Try.func23, Try.ntmps23
    go_wp2
    go_loop [5] (fun i => i = .int .i64 0) (fun _ => 0)
    case atStart => exact rfl
    case round =>
      obtain rfl := hrel
      go_wp2
      go_ret
      exact ⟨rfl, Below.refl _ _⟩
  · obtain rfl := e1 hp
    obtain rfl := e2 hp
    clear e1 e2
    go_enter Try.func23, Try.ntmps23
    go_wp2
    go_loopw [5] (fun i wr => Below w.heap.size w wr ∧ ∃ k : Nat, k ≤ n ∧ i = .int .i64 k) (fun i _ => n - (intOf i).toNat)
    case atStart => exact ⟨Below.refl _ _, 0, by omega, rfl⟩
    case round =>
      obtain ⟨hB, k, hk, rfl⟩ := hrel
      have BB := Lib.hid hB
      by_cases hlt : k < n
      · have q1 := (R1.out.cells k (by rw [← HNZ.out]; exact hlt)).keep (hB.block g1 (R1.out.lt (by rw [← HNZ.out]; exact hp)))
        have q2 := (R2.out.cells k (by rw [← HNZ.out]; exact hlt)).keep (hB.block g2 (R2.out.lt (by rw [← HNZ.out]; exact hp)))
        clear hB
        obtain ⟨x, hx⟩ : ∃ x, x = l.getD k zz := ⟨_, rfl⟩
        rw [← hx] at q1 q2
        clear hx
        obtain ⟨x1, x2, x3, x4, x5, x6, x7⟩ := q1
        obtain ⟨y1, y2, y3, y4, y5, y6, y7⟩ := q2
        have z1 : (k : Int) < (n : Int) := by omega
        have u1 : decide (k < n) = true := by simp; omega
        go_wp2_with fail
        go_quiet (fail)
        go_wp2
        go_roundw
        case rel => exact ⟨below_drewN BB.out _, k + 1, by omega, by go_num⟩
        case measure => simp [intOf]; omega
      · have u1 : decide (k < n) = false := by simp; omega
        clear hB
        go_wp2
        go_ret
        exact ⟨rfl, BB.out⟩
end Go.Proofs.Ytmnmijiikjpdnaa.seven

namespace Go.Proofs.Ytmnmijiikjpdnaa.base
open Go.ChangeShapes Go.WideShapes Go.ChangeAt Go.RowKit
open seven (F7 zz Row At)
open pl (inR prOk pok)
open gen
def ow (x : F7) : Int := x.2.1 + x.2.2.1 + x.2.2.2.1 - x.2.2.2.2.1 - x.2.2.2.2.2.1 - x.2.2.2.2.2.2
/-- Sums that are small enough to be added. -/
structure Sml (x : F7) : Prop where
  a1 : 0 ≤ x.2.1
  a2 : x.2.1 ≤ 24000000000000
  b1 : 0 ≤ x.2.2.1
  b2 : x.2.2.1 ≤ 24000000000000
  c1 : 0 ≤ x.2.2.2.1
  c2 : x.2.2.2.1 ≤ 24000000000000
  d1 : 0 ≤ x.2.2.2.2.1
  d2 : x.2.2.2.2.1 ≤ 24000000000000
  e1 : 0 ≤ x.2.2.2.2.2.1
  e2 : x.2.2.2.2.2.1 ≤ 24000000000000
  f1 : 0 ≤ x.2.2.2.2.2.2
  f2 : x.2.2.2.2.2.2 ≤ 24000000000000
theorem sml_sums {l : List F7} (h : pl.PV l) : Sml (pl.sums l) := by
  rw [pl.sums_t (pl.pv_t h)]
  have s := pl.sin h (k := l.length) (Nat.le_refl _)
  have k := h.1
  obtain ⟨_, p0, p1, i0, i1, f0, f1, q0, q1, j0, j1, g0, g1⟩ := s
  constructor <;> omega
theorem sums_d {l : List F7} (h : pl.PV l) : (pl.sums l).1 = 0 := by
  rw [pl.sums_t (pl.pv_t h)]
  exact (pl.sin h (k := l.length) (Nat.le_refl _)).d
set_option maxHeartbeats 1000000 in
theorem owC (a0 a1 a2 a3 a4 a5 a6 : Int) (w : World) (h : Sml (a0, a1, a2, a3, a4, a5, a6)) : Calls Try.prog 30 #[.agg #[.int .i64 a0, .int .i64 a1, .int .i64 a2, .int .i64 a3, .int .i64 a4, .int .i64 a5, .int .i64 a6]] w fun e w' => e = .returned (.int .i64 (ow (a0, a1, a2, a3, a4, a5, a6))) ∧ Below w.heap.size w w' := by
  obtain ⟨h1, h2, h3, h4, h5, h6, h7, h8, h9, h10, h11, h12⟩ := h
  dsimp only at h1 h2 h3 h4 h5 h6 h7 h8 h9 h10 h11 h12
  unfold ow
  dsimp only
  go_enter Try.func30, Try.ntmps30
  go_wp2
  go_ret
  exact ⟨rfl, (Below.refl _ _).alloc (Nat.le_refl _) _⟩
end Go.Proofs.Ytmnmijiikjpdnaa.base

namespace Go.Proofs.Ytmnmijiikjpdnaa.base
open Go.ChangeShapes Go.WideShapes Go.ChangeAt Go.RowKit
open seven (F7 zz Row At)
open pl (inR prOk pok)
open gen
/-- A sum over the Parts. -/
def tot (f : F7 → Int) : List F7 → Int
  | [] => 0
  | x :: l => f x + tot f l
theorem tot_snoc (f : F7 → Int) : ∀ (l : List F7) (x : F7), tot f (l ++ [x]) = tot f l + f x
  | [], x => by simp [tot]
  | y :: l, x => by
    show f y + tot f (l ++ [x]) = f y + tot f l + f x
    rw [tot_snoc f l x]; omega
abbrev fP (x : F7) : Int := x.2.1
abbrev fI (x : F7) : Int := x.2.2.1
abbrev fF (x : F7) : Int := x.2.2.2.1
abbrev fp (x : F7) : Int := x.2.2.2.2.1
abbrev fi (x : F7) : Int := x.2.2.2.2.2.1
abbrev ff (x : F7) : Int := x.2.2.2.2.2.2
theorem sumTo_take (l : List F7) : ∀ k, k ≤ l.length → pl.sumTo l k = (0, tot fP (l.take k), tot fI (l.take k), tot fF (l.take k), tot fp (l.take k), tot fi (l.take k), tot ff (l.take k))
  | 0, _ => rfl
  | k + 1, h => by
    rw [pl.sumTo, sumTo_take l k (by omega), pl.take_snoc (by omega)]
    simp only [tot_snoc]
    rfl
theorem sums_tot {l : List F7} (h : pl.PV l) : pl.sums l = (0, tot fP l, tot fI l, tot fF l, tot fp l, tot fi l, tot ff l) := by
  rw [pl.sums_t (pl.pv_t h), sumTo_take l l.length (Nat.le_refl _), List.take_length]
theorem pin_mem {l : List F7} (h : pl.PV l) : ∀ x ∈ l, pl.Pin x := fun x hx => by
  obtain ⟨i, hi, rfl⟩ := getD_mem hx
  exact h.pin hi
/-- Cutting. -/
structure CutT (l m : List F7) (n r : Int) : Prop where
  r0 : 0 ≤ r
  r1 : r ≤ n
  P : tot fP m = tot fP l - (n - r)
  I : tot fI m = tot fI l
  F : tot fF m = tot fF l
  p : tot fp m = tot fp l
  i : tot fi m = tot fi l
  f : tot ff m = tot ff l
  z : r = 0 ∨ tot fP m = tot fp m
theorem cut_tot {n : Int} (hn : 0 ≤ n) : ∀ l : List F7, (∀ x ∈ l, pl.Pin x) → CutT l (pl.mr pl.cut n l).1 n (pl.mr pl.cut n l).2
  | [], _ => ⟨hn, Int.le_refl _, by simp [pl.mr, tot], rfl, rfl, rfl, rfl, rfl, .inr rfl⟩
  | x :: l, h => by
    obtain ⟨r0, r1, eP, eI, eF, ep, ei, ef, ez⟩ := cut_tot hn l fun y hy => h y (List.mem_cons_of_mem _ hy)
    have p := h x List.mem_cons_self
    have q1 := p.q1
    simp only [pl.mr]
    generalize pl.mr pl.cut n l = R at *
    obtain ⟨m, r⟩ := R
    unfold pl.cut
    constructor <;> simp only [tot, fP, fI, fF, fp, fi, ff] at * <;> omega
/-- Giving back. -/
structure BackT (l m : List F7) (n r : Int) : Prop where
  r0 : 0 ≤ r
  r1 : r ≤ n
  P : tot fP m = tot fP l - (n - r)
  I : tot fI m = tot fI l
  F : tot fF m = tot fF l
  p : tot fp m = tot fp l - (n - r)
  i : tot fi m = tot fi l
  f : tot ff m = tot ff l
  z : r = 0 ∨ tot fp m = 0
theorem back_tot {n : Int} (hn : 0 ≤ n) : ∀ l : List F7, (∀ x ∈ l, pl.Pin x) → BackT l (pl.mr pl.back n l).1 n (pl.mr pl.back n l).2
  | [], _ => ⟨hn, Int.le_refl _, by simp [pl.mr, tot], rfl, rfl, by simp [pl.mr, tot], rfl, rfl, .inr rfl⟩
  | x :: l, h => by
    obtain ⟨r0, r1, eP, eI, eF, ep, ei, ef, ez⟩ := back_tot hn l fun y hy => h y (List.mem_cons_of_mem _ hy)
    have p := h x List.mem_cons_self
    have q0 := p.q0
    simp only [pl.mr]
    generalize pl.mr pl.back n l = R at *
    obtain ⟨m, r⟩ := R
    unfold pl.back
    constructor <;> simp only [tot, fP, fI, fF, fp, fi, ff] at * <;> omega
/-- Late fees. -/
structure LateT (l m : List F7) (s r : Int) : Prop where
  P : tot fP m = tot fP l
  I : tot fI m = tot fI l
  F : tot fF m = tot fF l + (r - s)
  p : tot fp m = tot fp l
  i : tot fi m = tot fi l
  f : tot ff m = tot ff l
theorem late_F {d f g : Int} (x : F7) (s : Int) : (pl.late d f g s x).1.2.2.2.1 = x.2.2.2.1 + ((pl.late d f g s x).2 - s) ∧ (pl.late d f g s x).1.2.1 = x.2.1 ∧ (pl.late d f g s x).1.2.2.1 = x.2.2.1 ∧ (pl.late d f g s x).1.2.2.2.2 = x.2.2.2.2 := by
  cases h : pl.isLate d g x with
  | false => rw [late_f h]; refine ⟨by dsimp only; omega, rfl, rfl, rfl⟩
  | true =>
    rw [late_t h]
    have e : x.2.2.2.1 = 0 := by
      unfold pl.isLate at h
      simp only [Bool.and_eq_true, beq_iff_eq] at h
      exact h.1.2
    refine ⟨by dsimp only; omega, rfl, rfl, rfl⟩
theorem late_tot {d f g : Int} : ∀ (l : List F7) (s : Int), LateT l (pl.ml (pl.late d f g) s l).1 s (pl.ml (pl.late d f g) s l).2
  | [], s => ⟨rfl, rfl, by simp [pl.ml, tot], rfl, rfl, rfl⟩
  | x :: l, s => by
    obtain ⟨eP, eI, eF, ep, ei, ef⟩ := late_tot (d := d) (f := f) (g := g) l (pl.late d f g s x).2
    obtain ⟨h1, h2, h3, h4⟩ := late_F (d := d) (f := f) (g := g) x s
    simp only [pl.ml]
    generalize pl.ml (pl.late d f g) (pl.late d f g s x).2 l = R at *
    obtain ⟨m, r⟩ := R
    generalize pl.late d f g s x = y at *
    obtain ⟨⟨y0, y1, y2, y3, y4⟩, yr⟩ := y
    constructor <;> simp only [tot, fP, fI, fF, fp, fi, ff] at * <;> (try rw [h4]) <;> omega
/-- A second time there is no fee. -/
theorem late_again {d f g : Int} (x : F7) (s t : Int) : pl.late d f g t (pl.late d f g s x).1 = ((pl.late d f g s x).1, t) := by
  cases h : pl.isLate d g x with
  | false => rw [late_f h]; exact late_f h
  | true =>
    rw [late_t h]
    dsimp only
    by_cases e : f = 0
    · subst e
      have hz : x.2.2.2.1 = 0 := by
        unfold pl.isLate at h
        simp only [Bool.and_eq_true, beq_iff_eq] at h
        exact h.1.2
      have hx : ((x.1, x.2.1, x.2.2.1, (0 : Int), x.2.2.2.2.1, x.2.2.2.2.2.1, x.2.2.2.2.2.2) : F7) = x := by rw [← hz]
      rw [hx, late_t h, hx]; simp
    · refine late_f ?_
      unfold pl.isLate
      simp [e]
theorem late_twice {d f g : Int} : ∀ (l : List F7) (s t : Int), pl.ml (pl.late d f g) t (pl.ml (pl.late d f g) s l).1 = ((pl.ml (pl.late d f g) s l).1, t)
  | [], _, _ => rfl
  | x :: l, s, t => by
    simp only [pl.ml]
    rw [late_again]
    dsimp only
    rw [late_twice l]
/-- Paying. -/
structure PayT (l m : List F7) (s r : pl.S4) : Prop where
  r0 : 0 ≤ r.1
  r1 : r.1 ≤ s.1
  e : r.1 + r.2.1 + r.2.2.1 + r.2.2.2 = s.1 + s.2.1 + s.2.2.1 + s.2.2.2
  P : tot fP m = tot fP l
  I : tot fI m = tot fI l
  F : tot fF m = tot fF l
  p : tot fp m = tot fp l + (r.2.2.2 - s.2.2.2)
  i : tot fi m = tot fi l + (r.2.2.1 - s.2.2.1)
  f : tot ff m = tot ff l + (r.2.1 - s.2.1)
  z : r.1 = 0 ∨ (tot fP m = tot fp m ∧ tot fI m = tot fi m ∧ tot fF m = tot ff m)
theorem pay_tot : ∀ (l : List F7) (s : pl.S4), 0 ≤ s.1 → (∀ x ∈ l, pl.Pin x) → PayT l (pl.ml pl.pay s l).1 s (pl.ml pl.pay s l).2
  | [], s, hs, _ => ⟨hs, Int.le_refl _, rfl, rfl, rfl, rfl, by simp [pl.ml, tot], by simp [pl.ml, tot], by simp [pl.ml, tot], .inr ⟨rfl, rfl, rfl⟩⟩
  | x :: l, s, hs, h => by
    obtain ⟨⟨a1, a2, a3⟩, ⟨b1, b2, b3⟩, c1, c2, c3⟩ := pay_b (h x List.mem_cons_self) hs
    obtain ⟨r0, r1, e, eP, eI, eF, ep, ei, ef, ez⟩ := pay_tot l (pl.pay s x).2 (by unfold pl.pay; dsimp only; omega) fun y hy => h y (List.mem_cons_of_mem _ hy)
    have z1 : pl.pF s.1 x = s.1 ∨ pl.pF s.1 x = x.2.2.2.1 - x.2.2.2.2.2.2 := by unfold pl.pF; omega
    have z2 : pl.pI s.1 x = s.1 - pl.pF s.1 x ∨ pl.pI s.1 x = x.2.2.1 - x.2.2.2.2.2.1 := by unfold pl.pI; omega
    have z3 : pl.pP s.1 x = s.1 - pl.pF s.1 x - pl.pI s.1 x ∨ pl.pP s.1 x = x.2.1 - x.2.2.2.2.1 := by unfold pl.pP; omega
    simp only [pl.ml]
    generalize pl.ml pl.pay (pl.pay s x).2 l = R at *
    obtain ⟨m, r⟩ := R
    unfold pl.pay at *
    generalize pl.pF s.1 x = u at *
    generalize pl.pI s.1 x = v at *
    generalize pl.pP s.1 x = y at *
    dsimp only at *
    constructor
    case z =>
      simp only [tot, fP, fI, fF, fp, fi, ff] at *
      by_cases hr : r.1 = 0
      · exact .inl hr
      · obtain ⟨k1, k2, k3⟩ := ez.resolve_left hr
        exact .inr ⟨by omega, by omega, by omega⟩
    all_goals
      try simp only [tot, fP, fI, fF, fp, fi, ff] at *
      omega
end Go.Proofs.Ytmnmijiikjpdnaa.base
