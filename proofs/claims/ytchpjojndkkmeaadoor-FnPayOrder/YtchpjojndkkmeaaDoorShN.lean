/-
  Plain helpers of this seat's proofs: the contract of the program's own Shared, whole. Conditions: none.
-/
import Derived.Test.YtchpjojndkkmeaaDoorJSh
import Derived.Test.YtchpjojndkkmeaaDoorStb2
import Derived.Deep.Cut
namespace Go.Proofs.YtchpjojndkkmeaaDoor.shr
open Go.ChangeShapes Go.WideShapes Go.ChangeAt Go.RowKit

def WS (w : World) (zs : List Int) (e : Ending) (w' : World) : Prop :=
  ((zs.length ≤ 60 ∧ InR zs ∧ e = .returned (.int .i64 (sumW zs : Nat))) ∨ (¬ (zs.length ≤ 60 ∧ InR zs) ∧ e = .returned (.int .i64 0))) ∧ w = w'

set_option maxHeartbeats 1000000 in
theorem weightSum (w : World) (a : Option Addr) (cap g : Nat) (zs : List Int) (r : rows.Row w a cap g zs) (hn : zs.length ≤ 1048576) : Calls Tryd.prog 46 #[.slice a zs.length cap] w (WS w zs) := by
  have R := Lib.hid r
  have e1 := r.addr
  have m1 := r.room
  clear r
  by_cases h60 : zs.length ≤ 60
  · obtain ⟨n, hnz⟩ : ∃ n, n = zs.length := ⟨_, rfl⟩
    have HNZ := Lib.hid hnz
    rw [← hnz] at e1 m1 hn h60 ⊢
    clear hnz
    have t0 : decide ((60 : Int) < (n : Int)) = false := by simp; omega
    rcases Nat.eq_zero_or_pos n with rfl | hp
    · clear e1
      go_enter Tryd.func46, Tryd.ntmps46
      go_wp2
      go_loop [3, 11] (fun s i => i = .int .i64 0 ∧ s = .int .i64 0) (fun _ _ => 0)
      case atStart => exact ⟨rfl, rfl⟩
      case round =>
        obtain ⟨rfl, rfl⟩ := hrel
        go_wp2
        go_ret
        refine ⟨.inl ⟨by rw [← HNZ.out]; exact h60, fun i hi => ?_, ?_⟩, rfl⟩
        · rw [← HNZ.out] at hi; omega
        · unfold sumW; rw [← HNZ.out]; rfl
    · obtain rfl := e1 hp
      clear e1
      go_enter Tryd.func46, Tryd.ntmps46
      go_wp2
      go_loop [3, 11] (fun s i => ∃ k : Nat, k ≤ n ∧ i = .int .i64 k ∧ s = .int .i64 (alc.sm (wf zs) k : Nat) ∧ alc.sm (wf zs) k ≤ 60000000 ∧ ∀ j, j < k → 0 ≤ zs.getD j 0 ∧ zs.getD j 0 ≤ 1000000) (fun _ i => n - (intOf i).toNat)
      case atStart => exact ⟨0, by omega, rfl, rfl, by simp [alc.sm], fun j h => by omega⟩
      case round =>
        obtain ⟨k, hk, rfl, rfl, hb, hd⟩ := hrel
        have D := Lib.hid hd
        clear hd
        by_cases hlt : k < n
        · have x1 := R.out.cells k (by rw [← HNZ.out]; exact hlt)
          obtain ⟨z, hz⟩ : ∃ z, z = zs.getD k 0 := ⟨_, rfl⟩
          rw [← hz] at x1
          have HZ := Lib.hid hz
          clear hz
          have u1 : decide (k < n) = true := by simp; omega
          have z1 : (k : Int) < (n : Int) := by omega
          obtain ⟨m, hm⟩ : ∃ m, m = alc.sm (wf zs) k := ⟨_, rfl⟩
          rw [← hm] at hb ⊢
          have HM := Lib.hid hm
          clear hm
          by_cases c1 : z < 0
          · have u2 : decide (z < 0) = true := by simp; omega
            go_wp2
            go_ret
            exact ⟨.inr ⟨fun h => by have := h.2 k (by rw [← HNZ.out]; exact hlt); rw [← HZ.out] at this; omega, rfl⟩, rfl⟩
          · have u2 : decide (z < 0) = false := by simp; omega
            by_cases c2 : 1000000 < z
            · have u3 : decide (1000000 < z) = true := by simp; omega
              go_wp2
              go_ret
              exact ⟨.inr ⟨fun h => by have := h.2 k (by rw [← HNZ.out]; exact hlt); rw [← HZ.out] at this; omega, rfl⟩, rfl⟩
            · have u3 : decide (1000000 < z) = false := by simp; omega
              have v1 : 0 ≤ z := by omega
              have v2 : z ≤ 1000000 := by omega
              clear c1 c2
              go_wp2
              go_round
              case rel =>
                have ew : wf zs k = z.toNat := by unfold wf; rw [← HZ.out]
                have D2 : ∀ j, j < k + 1 → 0 ≤ zs.getD j 0 ∧ zs.getD j 0 ≤ 1000000 := fun j hj => by
                  by_cases e : j = k
                  · subst e; rw [← HZ.out]; omega
                  · exact D.out j (by omega)
                have bd := alc.sm_bd (f := wf zs) (c := 1000000) (n := k + 1) (fun i hi => by have := D2 i hi; unfold wf; omega)
                refine ⟨k + 1, by omega, by go_num, ?_, by omega, D2⟩
                rw [alc.sm_succ, ew, ← HM.out]
                congr 1
                omega
              case measure => simp [intOf]; omega
        · have u1 : decide (k < n) = false := by simp; omega
          obtain rfl : k = n := by omega
          go_wp2
          go_ret
          refine ⟨.inl ⟨by rw [← HNZ.out]; exact h60, fun i hi => D.out i (by rw [HNZ.out]; exact hi), ?_⟩, rfl⟩
          unfold sumW; rw [← HNZ.out]; rfl
  · obtain ⟨n, hnz⟩ : ∃ n, n = zs.length := ⟨_, rfl⟩
    have HNZ := Lib.hid hnz
    rw [← hnz] at e1 m1 hn h60 ⊢
    clear hnz e1
    have h60' : 60 < n := by omega
    have t0 : decide ((60 : Int) < (n : Int)) = true := by simp; omega
    go_enter Tryd.func46, Tryd.ntmps46
    go_wp2
    go_ret
    exact ⟨.inr ⟨fun h => by have := h.1; rw [← HNZ.out] at this; omega, rfl⟩, rfl⟩
end Go.Proofs.YtchpjojndkkmeaaDoor.shr

namespace Go.Proofs.YtchpjojndkkmeaaDoor.shr
open Go.ChangeShapes Go.WideShapes Go.ChangeAt Go.RowKit
open mrg (El)

/-- The row that is sorted, as it stands first. -/
def dOf (r : Nat → Nat) (n : Nat) : Array El := (Array.range n).map fun (k : Nat) => (((k : Nat) : Int), ((r k : Nat) : Int))
theorem dOf_size (r : Nat → Nat) (n : Nat) : (dOf r n).size = n := by simp [dOf]
theorem dOf_at (r : Nat → Nat) (n k : Nat) (hk : k < n) : mrg.at' (dOf r n) k = ((k : Int), (r k : Int)) := by
  unfold mrg.at' dOf
  rw [getElem!_pos _ k (by simpa using hk)]
  simp
theorem base_of {w : World} {g n : Nat} {B : Nat → Value} {r : Nat → Nat} (h : rows.Blk w g (n * 2) B) (e : ∀ j, j < n → B (j * 2) = .int .i64 j ∧ B (j * 2 + 1) = .int .i64 (r j : Nat)) (hn : n ≤ 1048576) : srt.Base w g 0 (dOf r n) := by
  refine ⟨fun t ht => ?_, h.lt, by rw [dOf_size]; exact hn⟩
  rw [Sort.size_flatK, dOf_size] at ht
  refine ⟨?_, h.free _⟩
  rw [Nat.zero_add, h.cell t ht, Sort.get_flatK _ _ _ _ (by rw [dOf_size]; exact ht)]
  have ek := e (t / 2) (by omega)
  have ea : (dOf r n)[t / 2]! = (((t / 2 : Nat) : Int), (r (t / 2) : Int)) := dOf_at r n (t / 2) (by omega)
  rw [ea]
  rcases Nat.mod_two_eq_zero_or_one t with m | m
  · rw [m, show B t = B (t / 2 * 2) by congr 1; omega, ek.1]; rfl
  · rw [m, show B t = B (t / 2 * 2 + 1) by congr 1; omega, ek.2]; rfl
/-- Beside its row the sort leaves everything. -/
theorem heap_sort (w : World) (blk off m k : Nat) (d : Array El) (os : Array Obj) (hk : k ≠ blk) (hl : k < w.heap.size) : (sortWorldK srt.enc 2 w blk off m d os).heap[k]? = w.heap[k]? := by
  unfold sortWorldK Sort.grow Sort.putRowK Sort.putRow Sort.mapBlock Sort.ahead
  rw [Array.getElem?_append_left (by simpa using hl), Array.getElem?_modify, if_neg (fun e => hk e.symm)]
theorem below_sort {W w : World} (blk off m : Nat) (d : Array El) (os : Array Obj) {B : Nat} (h : Below B W w) (hB : B ≤ blk) (hs : B ≤ w.heap.size) : Below B W (sortWorldK srt.enc 2 w blk off m d os) :=
  ⟨h.os, h.tape, h.output, Nat.le_trans h.size (size_sortWorldK_c srt.enc 2 w blk off m d os), fun k hk => (heap_sort w blk off m k d os (by omega) (by omega)).trans (h.block k hk)⟩

theorem info54 : (Tryd.prog.info? 74).map (fun i => (i.zero, i.size, i.bytes)) = some (some (.agg #[.int .i64 0, .int .i64 0]), 2, 16) := by kernel_rfl

/-- The first loop. -/
structure L1 (w wr : World) (g1 g2 n k : Nat) (q r : Nat → Nat) : Prop where
  below : Below w.heap.size w wr
  a : ∃ A, rows.Blk wr g1 n A ∧ ∀ j, j < k → A j = .int .i64 (q j : Nat)
  b : ∃ B, rows.Blk wr g2 (n * 2) B ∧ ∀ j, j < k → B (j * 2) = .int .i64 j ∧ B (j * 2 + 1) = .int .i64 (r j : Nat)
theorem L1.step {w wr : World} {g1 g2 n k : Nat} {q r : Nat → Nat} (h : L1 w wr g1 g2 n k q r) (hk : k < n) (h1 : w.heap.size ≤ g1) (h2 : w.heap.size ≤ g2) (hne : g1 ≠ g2) :
    L1 w (((wr.setCell ⟨g1, k, none⟩ (.int .i64 (q k : Nat))).setCell ⟨g2, k * 2, none⟩ (.int .i64 k)).setCell ⟨g2, k * 2 + 1, none⟩ (.int .i64 (r k : Nat))) g1 g2 n (k + 1) q r := by
  obtain ⟨A, hA, eA⟩ := h.a
  obtain ⟨B, hB, eB⟩ := h.b
  refine ⟨((h.below.setCell h1 _).setCell h2 _).setCell h2 _, ⟨_, ((hA.set hk _).other hne _).other hne _, fun j hj => ?_⟩, ⟨_, ((hB.other (Ne.symm hne) _).set (by omega) _).set (by omega) _, fun j hj => ?_⟩⟩
  · unfold rows.upd
    by_cases e : j = k
    · rw [if_pos e, e]
    · rw [if_neg e]; exact eA j (by omega)
  · unfold rows.upd
    by_cases e : j = k
    · subst e
      rw [if_neg (by omega), if_pos rfl, if_pos rfl]; exact ⟨rfl, rfl⟩
    · rw [if_neg (by omega), if_neg (by omega), if_neg (by omega), if_neg (by omega)]; exact eB j (by omega)
/-- The second loop. -/
structure L2 (w wr : World) (g1 g2 n k : Nat) (q : Nat → Nat) (d : Array El) : Prop where
  below : Below w.heap.size w wr
  a : ∃ A, rows.Blk wr g1 n A ∧ ∀ j, j < n → A j = .int .i64 (alc.got q (mrg.chosen (mrg.at' d) k) j : Nat)
  lt : g2 < wr.heap.size
  b : ∀ i, i < n → wr.cell? ⟨g2, i * 2, none⟩ = some (.int .i64 (mrg.at' d i).1) ∧ wr.cell? ⟨g2, i * 2 + 1, none⟩ = some (.int .i64 (mrg.at' d i).2)
theorem L2.step {w wr wr' : World} {g1 g2 n k i : Nat} {q r : Nat → Nat} {d : Array El} (h : L2 w wr g1 g2 n k q d) (R : mrg.Row r n (mrg.at' d)) (hk : k < n) (hi : (mrg.at' d k).1 = (i : Int)) (hin : i < n) (h1 : w.heap.size ≤ g1) (hne : g1 ≠ g2) (hb : Below wr.heap.size wr wr') :
    L2 w (wr'.setCell ⟨g1, i, none⟩ (.int .i64 ((q i : Nat) + 1))) g1 g2 n (k + 1) q d := by
  obtain ⟨A, hA, eA⟩ := h.a
  have hA' := hA.below hb hA.lt
  refine ⟨(h.below.trans (hb.mono h.below.size)).setCell h1 _, ⟨_, hA'.set hin _, fun j hj => ?_⟩, by simp [World.setCell]; exact Nat.lt_of_lt_of_le h.lt hb.size, fun j hj => ?_⟩
  · have fr := R.fresh hk
    rw [hi, Int.toNat_natCast] at fr
    unfold rows.upd
    have ec : mrg.chosen (mrg.at' d) (k + 1) j = if j = i then true else mrg.chosen (mrg.at' d) k j := by
      show alc.more _ _ _ = _
      rw [hi, Int.toNat_natCast]; rfl
    unfold alc.got
    rw [ec]
    by_cases e : j = i
    · subst e
      rw [if_pos rfl, if_pos rfl]
      congr 1
    · rw [if_neg e, if_neg e, eA j hj]; rfl
  · have c := h.b j hj
    exact ⟨(World.cell?_setCell_other wr' ⟨g1, i, none⟩ ⟨g2, j * 2, none⟩ _ (fun q => by injection q with q1 q2; exact hne q1)).trans ((hb.cell h.lt).trans c.1),
      (World.cell?_setCell_other wr' ⟨g1, i, none⟩ ⟨g2, j * 2 + 1, none⟩ _ (fun q => by injection q with q1 q2; exact hne q1)).trans ((hb.cell h.lt).trans c.2)⟩
theorem L2.alloc {w wr : World} {g1 g2 n k : Nat} {q : Nat → Nat} {d : Array El} (h : L2 w wr g1 g2 n k q d) (o : Obj) : L2 w (wr.alloc o) g1 g2 n k q d := by
  have hb := (Below.refl wr.heap.size wr).alloc (Nat.le_refl _) o
  obtain ⟨A, hA, eA⟩ := h.a
  exact ⟨h.below.trans (hb.mono h.below.size), ⟨A, hA.below hb hA.lt, eA⟩, Nat.lt_of_lt_of_le h.lt hb.size, fun j hj => ⟨(hb.cell h.lt).trans (h.b j hj).1, (hb.cell h.lt).trans (h.b j hj).2⟩⟩
theorem L2.val {w wr : World} {g1 g2 n k i : Nat} {q r : Nat → Nat} {d : Array El} (h : L2 w wr g1 g2 n k q d) (R : mrg.Row r n (mrg.at' d)) (hk : k < n) (hi : (mrg.at' d k).1 = (i : Int)) (hin : i < n) :
    wr.cell? ⟨g1, i, none⟩ = some (.int .i64 (q i : Nat)) ∧ wr.frozen? ⟨g1, i, none⟩ = false ∧ g1 < wr.heap.size := by
  obtain ⟨A, hA, eA⟩ := h.a
  have fr := R.fresh hk
  rw [hi, Int.toNat_natCast] at fr
  refine ⟨?_, hA.free i, hA.lt⟩
  rw [hA.cell i hin, eA i hin]
  unfold alc.got
  rw [fr]; rfl
theorem L2.start {w wr : World} {g1 g2 n m : Nat} {q r : Nat → Nat} {d : Array El} {os : Array Obj} (h : L1 w wr g1 g2 n n q r) (hd : d.size = n) (hn : n ≤ 1048576) (h2 : w.heap.size ≤ g2) (hne : g1 ≠ g2) : L2 w (sortWorldK srt.enc 2 wr g2 0 m d os) g1 g2 n 0 q d := by
  obtain ⟨A, hA, eA⟩ := h.a
  obtain ⟨B, hB, eB⟩ := h.b
  have bs := base_of hB eB hn
  have on := bs.on (n := m) (os := os) (dk := d) (by rw [hd, dOf_size])
  refine ⟨below_sort g2 0 m d os h.below h2 h.below.size, ⟨A, hA.keep (heap_sort wr g2 0 m g1 d os hne hA.lt) (size_sortWorldK_c srt.enc 2 wr g2 0 m d os), fun j hj => ?_⟩, on.blk, fun i hi => ?_⟩
  · rw [eA j hj]; rfl
  · have c := srt.cellsOf on.hold (i := i) (by omega)
    have c0 := c.c0
    have c1 := c.c1
    rw [Nat.zero_add] at c0 c1
    exact ⟨c0, c1⟩

theorem row_of {r : Nat → Nat} {n : Nat} {d : Array El} (hs : mrg.Srt 0 n (mrg.at' d)) (hf : mrg.Frm 0 n (mrg.at' (dOf r n)) (mrg.at' d)) : mrg.Row r n (mrg.at' d) := by
  refine ⟨hs, fun k hk => ?_⟩
  obtain ⟨k', h1, h2, e⟩ := hf.2 k (by omega) hk
  exact ⟨k', h2, by rw [e]; exact dOf_at r n k' h2⟩

set_option maxRecDepth 100000 in
set_option maxHeartbeats 4000000 in
theorem impl_yes (w : World) (a : Option Addr) (cap g : Nat) (t : Int) (zs : List Int) (rw0 : rows.Row w a cap g zs) (hg : 0 < zs.length → g < w.heap.size) (hG : Good t zs) : Calls Tryd.prog 27 #[.int .i64 t, .slice a zs.length cap] w (GotS w t zs) := by
  have KW := Lib.hid (weightSum w a cap g zs rw0 (by have := hG.2.2.1; omega))
  have RW := Lib.hid rw0
  have pos := hG.pos
  obtain rfl := rw0.addr pos
  have hgl := hg pos
  have m1 := rw0.room
  clear rw0 hg
  have AL := Lib.hid hG.alc
  obtain ⟨g0, g1', g2', g3, g4⟩ := hG
  obtain ⟨T, rfl⟩ := Int.eq_ofNat_of_zero_le g0
  have WB := Lib.hid (fun i hi => wf_bd g3 i hi)
  have SB := Lib.hid (sum_bd g3 g2' zs.length (Nat.le_refl _))
  have GG := Lib.hid (show Good (T : Int) zs from ⟨g0, g1', g2', g3, g4⟩)
  have IR := Lib.hid g3
  clear g3
  simp only [Int.toNat_natCast] at AL
  have SH : Hid (∀ l, (∃ S, alc.Dwn (rf T (sumW zs) (wf zs)) zs.length S (T - alc.sm (qf T (sumW zs) (wf zs)) zs.length) ∧ l = lst (alc.got (qf T (sumW zs) (wf zs)) S) zs.length) → Sh (T : Int) zs l) := Lib.hid fun l h => .inr ⟨GG.out, h⟩
  obtain ⟨n, hnz⟩ : ∃ n, n = zs.length := ⟨_, rfl⟩
  have HNZ := Lib.hid hnz
  obtain ⟨s, hs⟩ : ∃ s, s = sumW zs := ⟨_, rfl⟩
  have HS := Lib.hid hs
  rw [← hnz] at pos m1 g2' AL SH WB ⊢
  rw [← hs] at AL g4 SH
  have sb : s ≤ 60000000 := by have := SB.out; unfold sumW at hs; omega
  clear hnz hs SB
  obtain ⟨q, hq⟩ : ∃ q, q = qf T s (wf zs) := ⟨_, rfl⟩
  obtain ⟨r, hr⟩ : ∃ r, r = rf T s (wf zs) := ⟨_, rfl⟩
  rw [← hq, ← hr] at AL SH
  have QR := Lib.hid (And.intro hq hr)
  clear hq hr
  obtain ⟨L, hL⟩ : ∃ L, L = T - alc.sm q n := ⟨_, rfl⟩
  rw [← hL] at AL SH
  have HL := Lib.hid hL
  clear hL
  have lt0 : decide ((T : Int) < 0) = false := by simp
  have t1 : decide ((1000000000000 : Int) < (T : Int)) = false := by simp; omega
  have t2 : ((s : Int) == 0) = false := by simp; omega
  have fewL := AL.out.few pos
  obtain ⟨i2, hi2, hz20, hz21, hz22⟩ := info_parts rows.info2
  obtain ⟨i54, hi54, hz540, hz541, hz542⟩ := info_parts info54
  go_enter Tryd.func27, Tryd.ntmps27
  go_wp2_with fail
  rw [← HNZ.out] at KW
  refine KW.out.mono ?_
  rintro e w' ⟨hws, rfl⟩
  have he : e = .returned (.int .i64 (s : Int)) := by
    rcases hws with ⟨_, _, he⟩ | ⟨hn, _⟩
    · rw [he, ← HS.out]
    · exact (hn ⟨by rw [← HNZ.out]; exact g2', IR.out⟩).elim
  subst he
  clear hws KW
  go_wp2_with (at_make; first
    | refine wpList_make_full _ rfl _ _ 37 rfl w.heap.size 2 i2 (.int .i64 0) 1 Tryd.underlying37 hi2 hz20 hz21 _ _ _ _ n rfl rfl rfl rfl ?b2 ?b3 (Nat.le_refl _) ?_)
  case b2 => (try rw [hz22]); omega
  case b3 => unfold maxLen; omega
  intro w0 hown0 hgrow0
  obtain ⟨⟨A0, hA0, _⟩, hg0, _⟩ := rows.Blk.of_owns hown0
  rw [Nat.mul_one] at hA0
  have BL0 := Lib.hid hA0
  have B0 := Lib.hid ((Below.refl w.heap.size w).grown hgrow0 (Nat.le_refl _) (fun k h => by cases h))
  have w0l := hA0.lt
  clear hown0 hgrow0 hA0 hg0 hi2 hz20 hz21 hz22
  go_wp2_with (at_make; first
    | refine wpList_make_full _ rfl _ _ 72 rfl w.heap.size 74 i54 (.agg #[.int .i64 0, .int .i64 0]) 2 Tryd.underlying72 hi54 hz540 hz541 _ _ _ _ n rfl rfl rfl rfl ?b2 ?b3 (by omega) ?_)
  case b2 => (try rw [hz542]); omega
  case b3 => unfold maxLen; omega
  intro w1 hown1 hgrow1
  obtain ⟨⟨B1, hB1, _⟩, hg1, _⟩ := rows.Blk.of_owns hown1
  have BL1 := Lib.hid hB1
  have AL1 := Lib.hid (BL0.out.keep (hgrow1.block _ w0l (by simp)) hgrow1.size)
  have B1 := Lib.hid (B0.out.grown hgrow1 (by omega) (fun k h => by cases h))
  clear hown1 hgrow1 hB1 hg1 hi54 hz540 hz541 hz542
  obtain ⟨ga, hga⟩ : ∃ ga, ga = w.heap.size := ⟨_, rfl⟩
  obtain ⟨gb, hgb⟩ : ∃ gb, gb = w0.heap.size := ⟨_, rfl⟩
  have ne1 : ga ≠ gb := by omega
  have ne2 : gb ≠ ga := by omega
  have la : w.heap.size ≤ ga := by omega
  have lb : w.heap.size ≤ gb := by omega
  have ST := Lib.hid (show L1 w w1 ga gb n 0 q r from ⟨B1.out, ⟨A0, by rw [hga]; exact AL1.out, fun j h => by omega⟩, ⟨_, by rw [hgb]; exact BL1.out, fun j h => by omega⟩⟩)
  rw [← hga, ← hgb]
  clear hga hgb BL0 BL1 AL1 B0 B1
  go_wp2
  go_loopw [8, 34] (fun vl vi wr => ∃ k : Nat, k ≤ n ∧ vi = .int .i64 k ∧ vl = .int .i64 ((T : Int) - (alc.sm q k : Nat)) ∧ Hid (L1 w wr ga gb n k q r)) (fun _ vi _ => n - (intOf vi).toNat)
  case atStart => exact ⟨0, by omega, rfl, by simp [alc.sm], ST⟩
  case round =>
    obtain ⟨k, hk, rfl, rfl, H⟩ := hrel
    by_cases hlt : k < n
    · have x1 := (H.out.below.cell (p := ⟨g, k, none⟩) hgl).trans (RW.out.cells k (by rw [← HNZ.out]; exact hlt))
      obtain ⟨wb, we⟩ := WB.out k hlt
      rw [we] at x1
      obtain ⟨wk, hwk⟩ : ∃ wk, wk = wf zs k := ⟨_, rfl⟩
      rw [← hwk] at x1 wb
      have pb : T * wk ≤ 1000000000000000000 := Nat.le_trans (Nat.mul_le_mul (show T ≤ 1000000000000 by omega) wb) (by decide)
      obtain ⟨P, hP⟩ : ∃ P, P = T * wk := ⟨_, rfl⟩
      have e1 : wrap64 ((T : Int) * (wk : Int)) = (P : Int) := by
        rw [← Int.natCast_mul, ← hP]; unfold wrap64; omega
      rw [← hP] at pb
      obtain ⟨Q, hQ⟩ : ∃ Q, Q = q k := ⟨_, rfl⟩
      obtain ⟨R, hR⟩ : ∃ R, R = r k := ⟨_, rfl⟩
      have eQ : Q = P / s := by rw [hQ, QR.out.1, hP, hwk]; rfl
      have eR : R = P % s := by rw [hR, QR.out.2, hP, hwk]; rfl
      have e2 : (P : Int) / (s : Int) = (Q : Int) := by rw [eQ, Int.natCast_ediv]
      have e3 : (P : Int).tmod (s : Int) = (R : Int) := by rw [eR]; rfl
      have smk := alc.sm_pre (f := q) (n := n) (k := k + 1) (by omega)
      have smn := AL.out.lef
      rw [alc.sm_succ, ← hQ] at smk
      obtain ⟨m, hm⟩ : ∃ m, m = alc.sm q k := ⟨_, rfl⟩
      rw [← hm] at smk ⊢
      have m2 : m + Q ≤ T := by omega
      have HH := Lib.hid (And.intro hQ (And.intro hR hm))
      obtain ⟨A, hA, _⟩ := H.out.a
      obtain ⟨B, hB, _⟩ := H.out.b
      have y1 := hA.cell k hlt
      have y2 := hA.free k
      have y3 := hB.cell (k * 2) (by omega)
      have y4 := hB.cell (k * 2 + 1) (by omega)
      have y5 := hB.free (k * 2)
      have y6 := hB.free (k * 2 + 1)
      have u1 : decide (k < n) = true := by simp; omega
      have z1 : (k : Int) < (n : Int) := by omega
      clear hwk hP hQ hR hm eQ eR smk smn hA hB we
      go_wp2
      go_roundw
      case rel =>
        obtain ⟨hQ, hR, hm⟩ := HH.out
        refine ⟨k + 1, by omega, by go_num, ?_, ?_⟩
        · rw [alc.sm_succ, ← hQ, ← hm]
          congr 1
          omega
        · have st := H.out.step hlt la lb ne1
          rw [← hQ, ← hR] at st
          exact st
      case measure => simp [intOf]; omega
    · have u1 : decide (k < n) = false := by simp; omega
      obtain rfl : k = n := by omega
      have eL : (T : Int) - (alc.sm q k : Nat) = (L : Int) := by have := AL.out.lef; omega
      rw [eL]
      clear eL
      obtain ⟨B, hB, eB⟩ := H.out.b
      have KS := Lib.hid (srt.sortStable gb 0 k k (dOf r k) wr (base_of hB eB (by omega)) (dOf_size r k) pos (fun j hj => by rw [dOf_at r k j hj]))
      clear hB eB B
      go_wp2_with fail
      refine KS.out.mono ?_
      rintro e w2 ⟨rfl, m, d, os, hw2, hsd, hsr, hfr⟩
      have RR := Lib.hid (row_of hsr hfr)
      have ST2 := Lib.hid (L2.start (m := m) (os := os) H.out (hsd.trans (dOf_size r k)) (by omega) lb ne1)
      rw [← hw2] at ST2
      clear hw2 hsd hsr hfr KS H
      have z1 : (L : Int) ≤ (k : Int) := by omega
      have qb : Hid (∀ i, i < k → q i ≤ T) := Lib.hid fun i hi => by
        have := alc.sm_one (f := q) hi; have := AL.out.lef; omega
      go_wp2
      go_loopw [70] (fun vi wr => ∃ j : Nat, j ≤ L ∧ vi = .int .i64 j ∧ Hid (L2 w wr ga gb k j q d)) (fun vi _ => L - (intOf vi).toNat)
      case atStart => exact ⟨0, by omega, rfl, ST2⟩
      case round =>
        obtain ⟨j, hj, rfl, H⟩ := hrel
        by_cases hlt : j < L
        · obtain ⟨i, hi, ei⟩ := RR.out.el j (by omega)
          have e0 : (mrg.at' d j).1 = (i : Int) := by rw [ei]
          obtain ⟨c0, c1⟩ := H.out.b j (by omega)
          rw [ei] at c0 c1
          obtain ⟨v0, v1, v2⟩ := H.out.val RR.out (by omega) e0 hi
          have qi := qb.out i hi
          have STP := Lib.hid (fun wr' hb => H.out.step (wr' := wr') RR.out (show j < k by omega) e0 hi la ne1 hb)
          obtain ⟨Q, hQ⟩ : ∃ Q, Q = q i := ⟨_, rfl⟩
          rw [← hQ] at v0 qi STP
          obtain ⟨R, hR⟩ : ∃ R, R = r i := ⟨_, rfl⟩
          simp only [← hR] at c0 c1
          have n1 : ga ≠ wr.heap.size := by omega
          have n2 : wr.heap.size ≠ ga := by omega
          have u1 : decide (j < L) = true := by simp; omega
          have z2 : (j : Int) < (L : Int) := by omega
          have z3 : (i : Int) < (k : Int) := by omega
          clear hQ hR ei e0
          go_wp2
          go_roundw
          case rel => exact ⟨j + 1, by omega, by go_num, (STP.out wr (Below.refl _ _)).alloc _⟩
          case measure => simp [intOf]; omega
        · have u1 : decide (j < L) = false := by simp; omega
          obtain rfl : j = L := by omega
          go_wp2
          go_ret
          obtain ⟨A, hA, eA⟩ := H.out.a
          refine ⟨_, k, ga, lst (alc.got q (mrg.chosen (mrg.at' d) j)) k, by rw [lst_len]; rfl, hA.row (lst_len _ _) (Nat.le_refl _) (fun i hi => by rw [eA i hi, lst_get _ _ _ hi]), fun _ => ⟨la, hA.lt⟩, H.out.below, SH.out _ ⟨_, RR.out.dwn j (by omega), rfl⟩⟩
end Go.Proofs.YtchpjojndkkmeaaDoor.shr

namespace Go.Proofs.YtchpjojndkkmeaaDoor.shr
open Go.ChangeShapes Go.WideShapes Go.ChangeAt Go.RowKit

set_option maxHeartbeats 1000000 in
theorem impl_no (w : World) (a : Option Addr) (cap g : Nat) (t : Int) (zs : List Int) (rw0 : rows.Row w a cap g zs) (hn : zs.length ≤ 1048576) (hG : ¬ Good t zs) : Calls Tryd.prog 27 #[.int .i64 t, .slice a zs.length cap] w (GotS w t zs) := by
  have KW := Lib.hid (weightSum w a cap g zs rw0 hn)
  have GN := Lib.hid (got_none (w := w) hG (Below.refl _ _))
  have HG := Lib.hid hG
  obtain ⟨n, hnz⟩ : ∃ n, n = zs.length := ⟨_, rfl⟩
  rw [← hnz] at KW hn ⊢
  clear rw0 hG hnz
  go_enter Tryd.func27, Tryd.ntmps27
  go_wp2_with fail
  refine KW.out.mono ?_
  rintro e w' ⟨hws, rfl⟩
  have he : ∃ v : Nat, e = .returned (.int .i64 (v : Int)) ∧ (0 ≤ t → t ≤ 1000000000000 → v = 0) := by
    rcases hws with ⟨h1, h2, he⟩ | ⟨_, he⟩
    · refine ⟨_, he, fun h3 h4 => ?_⟩
      rcases Nat.eq_zero_or_pos (sumW zs) with z | p
      · exact z
      · exact (HG.out ⟨h3, h4, h1, h2, p⟩).elim
    · exact ⟨0, he, fun _ _ => rfl⟩
  obtain ⟨v, rfl, hv⟩ := he
  clear hws KW
  by_cases c1 : t < 0
  · have t1 : decide (t < 0) = true := by simp; omega
    clear hv
    go_wp2
    go_ret
    exact GN.out
  · have t1 : decide (t < 0) = false := by simp; omega
    by_cases c2 : 1000000000000 < t
    · have t2 : decide (1000000000000 < t) = true := by simp; omega
      clear hv
      go_wp2
      go_ret
      exact GN.out
    · have t2 : decide (1000000000000 < t) = false := by simp; omega
      obtain rfl := hv (by omega) (by omega)
      clear c1 c2 hv
      go_wp2
      go_ret
      exact GN.out
theorem impl (w : World) (a : Option Addr) (cap g : Nat) (t : Int) (zs : List Int) (r : rows.Row w a cap g zs) (hg : 0 < zs.length → g < w.heap.size) (hn : zs.length ≤ 1048576) : Calls Tryd.prog 27 #[.int .i64 t, .slice a zs.length cap] w (GotS w t zs) := by
  by_cases hG : Good t zs
  · exact impl_yes w a cap g t zs r hg hG
  · exact impl_no w a cap g t zs r hn hG
end Go.Proofs.YtchpjojndkkmeaaDoor.shr
