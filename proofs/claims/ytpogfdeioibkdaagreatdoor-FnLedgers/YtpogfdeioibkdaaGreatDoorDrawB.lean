/-
  Plain helpers of this seat's proofs: the contract of the function that draws a batch. Conditions: none.
-/
import Derived.Test.YtpogfdeioibkdaaGreatDoorDrawA
import Derived.WalkSmall
namespace Go.Proofs.YtpogfdeioibkdaaGreatDoor.draw
open Go.ChangeShapes Go.WideShapes Go.ChangeAt Go.RowKit
open led (F5 z5)
open five (Row At Blk)
theorem fl_cat : ∀ (l m : List F5), fl (l ++ m) = fl l ++ fl m
  | [], _ => rfl
  | x :: l, m => by show _ :: _ :: _ :: _ :: _ :: fl (l ++ m) = _; rw [fl_cat l m]; rfl
/-- A list as it is drawn: the reader goes on, the list lies in memory of its own and is never nil. -/
structure Wn (w wr : World) (b len : Nat) (v : Value) (l : List F5) : Prop where
  only : Only b w wr
  rd : Rd wr b len
  own : wr.ownsRow w.heap.size 36 5 v l.length (fl l)
  live : v ≠ .slice none 0 0
theorem Wn.next {w wr wr' : World} {b len : Nat} {v : Value} {l : List F5} (h : Wn w wr b len v l) (o : Only b wr wr') (r : Rd wr' b len) (hb : b < w.heap.size) : Wn w wr' b len v l :=
  ⟨h.only.trans o, r, owns_keep h.own fun g hg => o.block g (own_lt h.own g hg) (by have := own_ge h.own g hg; omega), h.live⟩
theorem Wn.alloc {w wr : World} {b len : Nat} {v : Value} {l : List F5} (h : Wn w wr b len v l) (o : Obj) : Wn w (wr.alloc o) b len v l := ⟨h.only.alloc o, h.rd.alloc o, h.own.alloc o, h.live⟩
theorem Wn.apps {w wr w1 : World} {b len : Nat} {v v1 : Value} {l : List F5} (h : Wn w wr b len v l) (zs : List F5) (o : Obj) (hb : b < w.heap.size) (hown : w1.ownsRow w.heap.size 36 5 v1 (l.length + zs.length) (fl l ++ fl zs)) (hgrow : (wr.alloc o).grownBy w1 v.ownBlock) (hn : ¬ v1 = .slice none 0 0) : Wn w w1 b len v1 (l ++ zs) := by
  have h1 := h.alloc o
  have bl : ∀ k, v.ownBlock = some k → w.heap.size ≤ k := own_ge h.own
  have bb : Below w.heap.size (wr.alloc o) w1 := ⟨hgrow.os, hgrow.tape, hgrow.output, hgrow.size, fun k hk => hgrow.block k (Nat.lt_of_lt_of_le hk h1.only.size) (fun e => by have := bl k e.symm; omega)⟩
  refine ⟨⟨bb.os.trans h1.only.os, bb.tape.trans h1.only.tape, bb.output.trans h1.only.output, Nat.le_trans h1.only.size bb.size, fun k hk hne => (bb.block k hk).trans (h1.only.block k hk hne)⟩, h1.rd.below bb hb, ?_, hn⟩
  rw [List.length_append, fl_cat]; exact hown
/-- A list of posts, drawn. -/
def GotP (w : World) (b len : Nat) (e : Ending) (w' : World) : Prop := ∃ a cap g, ∃ l : List F5, e = .returned (.slice a l.length cap) ∧ Row w' a cap g l ∧ (0 < l.length → w.heap.size ≤ g ∧ g < w'.heap.size) ∧ l.length ≤ 100 ∧ Only b w w' ∧ Rd w' b len
theorem Wn.got {w wr : World} {b len : Nat} {v : Value} {l : List F5} (h : Wn w wr b len v l) (hl : l.length ≤ 100) : GotP w b len (.returned v) wr := by
  obtain ⟨cap, g, rfl, R, G1, G2⟩ := of_owns5n h.own h.live
  exact ⟨_, cap, g, l, rfl, R, fun _ => ⟨G1, G2⟩, hl, h.only, h.rd⟩
/-- Cells that are numbers are a list. -/
theorem ints_list {w : World} {g n : Nat} {A : Nat → Value} (h : Blk w g (n * 5) A) (hi : ∀ k, k < n * 5 → ∃ z : Int, A k = .int .i64 z) : ∃ l : List F5, l.length = n ∧ Row w (some ⟨g, 0, none⟩) n g l := by
  have each : ∀ k : Nat, ∃ z : Int, k < n * 5 → A k = .int .i64 z := fun k => by
    by_cases hk : k < n * 5
    · obtain ⟨z, hz⟩ := hi k hk; exact ⟨z, fun _ => hz⟩
    · exact ⟨0, fun h => absurd h hk⟩
  obtain ⟨Z, hZ⟩ := Classical.axiomOfChoice each
  refine ⟨(List.range n).map fun i => (Z (i * 5), Z (i * 5 + 1), Z (i * 5 + 2), Z (i * 5 + 3), Z (i * 5 + 4)), by simp, h.row (by simp) (Nat.le_refl _) fun i hi => ?_⟩
  have e : ((List.range n).map fun i => (Z (i * 5), Z (i * 5 + 1), Z (i * 5 + 2), Z (i * 5 + 3), Z (i * 5 + 4))).getD i z5 = (Z (i * 5), Z (i * 5 + 1), Z (i * 5 + 2), Z (i * 5 + 3), Z (i * 5 + 4)) := by
    rw [List.getD_eq_getElem?_getD, List.getElem?_map, List.getElem?_range hi]; rfl
  rw [e]
  exact ⟨hZ _ (by omega), hZ _ (by omega), hZ _ (by omega), hZ _ (by omega), hZ _ (by omega)⟩
/-- A new slice that is being filled. -/
structure Fil (w wr : World) (b len g N : Nat) : Prop where
  only : Only b w wr
  rd : Rd wr b len
  blk : ∃ A, Blk wr g N A ∧ ∀ k, k < N → ∃ z : Int, A k = .int .i64 z
  ge : w.heap.size ≤ g
theorem Fil.set {w wr : World} {b len g N k : Nat} (h : Fil w wr b len g N) (hb : b < w.heap.size) (hk : k < N) (z : Int) : Fil w (wr.setCell ⟨g, k, none⟩ (.int .i64 z)) b len g N := by
  obtain ⟨A, hA, hi⟩ := h.blk
  refine ⟨⟨h.only.os, h.only.tape, h.only.output, by simp [World.setCell]; exact h.only.size, fun i hi hne => (Below.heap_setCell wr ⟨g, k, none⟩ _ i (by have := h.ge; show i ≠ g; omega)).trans (h.only.block i hi hne)⟩, h.rd.below (B := w.heap.size) ((Below.refl _ _).setCell (p := ⟨g, k, none⟩) h.ge _) hb, ⟨_, hA.set hk _, fun i h' => ?_⟩, h.ge⟩
  unfold five.upd
  split
  · exact ⟨z, rfl⟩
  · exact hi i h'
theorem news10 (w : World) (x y : F5) : ∀ j u, (fl [x, y])[j]? = some u → (w.alloc (.cells #[.int .i64 x.1, .int .i64 x.2.1, .int .i64 x.2.2.1, .int .i64 x.2.2.2.1, .int .i64 x.2.2.2.2, .int .i64 y.1, .int .i64 y.2.1, .int .i64 y.2.2.1, .int .i64 y.2.2.2.1, .int .i64 y.2.2.2.2] 36)).cell? ((⟨w.heap.size, 0, none⟩ : Addr).add j) = some u := by
  intro j u hj
  match j, hj with
  | 0, hj => simp [fl] at hj; subst hj; simp [Addr.add]
  | 1, hj => simp [fl] at hj; subst hj; simp [Addr.add]
  | 2, hj => simp [fl] at hj; subst hj; simp [Addr.add]
  | 3, hj => simp [fl] at hj; subst hj; simp [Addr.add]
  | 4, hj => simp [fl] at hj; subst hj; simp [Addr.add]
  | 5, hj => simp [fl] at hj; subst hj; simp [Addr.add]
  | 6, hj => simp [fl] at hj; subst hj; simp [Addr.add]
  | 7, hj => simp [fl] at hj; subst hj; simp [Addr.add]
  | 8, hj => simp [fl] at hj; subst hj; simp [Addr.add]
  | 9, hj => simp [fl] at hj; subst hj; simp [Addr.add]
  | k + 10, hj => simp [fl] at hj
theorem one10 (x y : F5) : ∀ u ∈ fl [x, y], u.oneCell' = true := by
  intro u hu; simp [fl] at hu; rcases hu with rfl | rfl | rfl | rfl | rfl | rfl | rfl | rfl | rfl | rfl <;> rfl
theorem zero_ints {n k : Nat} {v : Value} (h : (madeCells (Value.agg #[.int .i64 0, .int .i64 0, .int .i64 0, .int .i64 0, .int .i64 0]).cells n).toList[k]? = some v) : ∃ z : Int, v = .int .i64 z := by
  have hm := List.mem_of_getElem? h
  unfold madeCells at hm
  rw [Array.toList_map, List.mem_map] at hm
  obtain ⟨x, _, rfl⟩ := hm
  have hq : x % 5 < 5 := Nat.mod_lt _ (by omega)
  show ∃ z : Int, #[Value.int .i64 0, .int .i64 0, .int .i64 0, .int .i64 0, .int .i64 0][x % 5]! = .int .i64 z
  generalize x % 5 = q at hq
  match q, hq with
  | 0, _ => exact ⟨0, rfl⟩
  | 1, _ => exact ⟨0, rfl⟩
  | 2, _ => exact ⟨0, rfl⟩
  | 3, _ => exact ⟨0, rfl⟩
  | 4, _ => exact ⟨0, rfl⟩
set_option maxRecDepth 40000 in
set_option maxHeartbeats 8000000 in
theorem batch (w : World) (b len : Nat) (r : Rd w b len) : Calls Tryz.prog 43 #[.pointer (some ⟨b, 0, none⟩)] w (GotP w b len) := by
  have bl := r.lt
  have R := Lib.hid r
  clear r
  obtain ⟨i5, hi2, hz20, hz21, hz22⟩ := info_parts five.infoE
  have INF := Lib.hid (And.intro hi2 (And.intro hz20 (And.intro hz21 hz22)))
  clear hi2 hz20 hz21 hz22
  have W0 := Lib.hid (show Wn w (w.alloc (.cells #[] 36)) b len (.slice (some ⟨w.heap.size, 0, none⟩) 0 0) [] from
    ⟨(Only.refl b w).alloc _, R.out.alloc _, ⟨rfl, .inr ⟨w.heap.size, 0, #[], rfl, Nat.le_refl _, heap_alloc_new w _, Nat.le_refl _, Nat.zero_le _, rfl, rfl⟩⟩, fun h => by cases h⟩)
  go_enter Tryz.func43, Tryz.ntmps43
  go_wp2_with fail
  refine (below _ b len 4 W0.out.rd (by omega) (by omega)).mono ?_
  rintro e w1 ⟨c0, c1, c2, rfl, o1, r1⟩
  have W1 := Lib.hid (W0.out.next o1 r1 bl)
  clear o1 r1 W0
  obtain ⟨c, rfl⟩ := Int.eq_ofNat_of_zero_le c1
  go_wp2
  go_loopw [3, 4] (fun v vi wr => ∃ (k : Nat) (l : List F5), vi = .int .i64 k ∧ 2 * k + l.length ≤ 6 ∧ Hid (Wn w wr b len v l)) (fun _ vi _ => (intOf vi).toNat)
  case atStart => exact ⟨c, [], by go_num, by simp; omega, W1⟩
  case round =>
    obtain ⟨k, l, rfl, hk, H⟩ := hrel
    have hzl : l.length ≤ 6 := by omega
    by_cases h0 : 0 < k
    · have u1 : decide (0 < k) = true := by simp; omega
      obtain ⟨k, rfl⟩ : ∃ k', k = k' + 1 := ⟨k - 1, by omega⟩
      have kb : k ≤ 6 := by omega
      have HK := Lib.hid hk
      clear hk
      go_wp2_with fail
      refine (money wr b len H.out.rd).mono ?_
      rintro e w2 ⟨n, rfl, o2, r2⟩
      have W2 := Lib.hid (H.out.next o2 r2 bl)
      clear o2 r2 H
      go_wp2_with fail
      refine (cur w2 b len W2.out.rd).mono ?_
      rintro e w3 ⟨cu, cu1, cu2, rfl, o3, r3⟩
      have W3 := Lib.hid (W2.out.next o3 r3 bl)
      clear o3 r3 W2
      go_wp2_with fail
      refine (acct w3 b len W3.out.rd).mono ?_
      rintro e w4 ⟨x, y, z, _, _, _, rfl, o4, r4⟩
      have W4 := Lib.hid (W3.out.next o4 r4 bl)
      clear o4 r4 W3
      go_wp2_with fail
      refine (acct w4 b len W4.out.rd).mono ?_
      rintro e w5 ⟨x', y', z', _, _, _, rfl, o5, r5⟩
      have W5 := Lib.hid (W4.out.next o5 r5 bl)
      clear o5 r5 W4
      obtain ⟨m, hm⟩ : ∃ m, m = IntKind.i64.wrap (-n) := ⟨_, rfl⟩
      have hm1 : IntKind.i64.wrap (-n) = m := hm.symm
      have hm2 : wrap64 (-n) = m := by rw [← IntWalk.i64_left]; exact hm.symm
      obtain ⟨hi2, hz20, hz21, hz22⟩ := INF.out
      have szW := W5.out.only.size
      clear hm
      go_wp2_with (at_builtin; refine wpList_append_own_at _ rfl _ _ 24 rfl w.heap.size 36 i5 (.agg #[.int .i64 0, .int .i64 0, .int .i64 0, .int .i64 0, .int .i64 0]) 5 40 Tryz.underlying24 hi2 hz20 hz21 hz22 rfl (by decide) _ _ _ rfl (W5.out.own.alloc _) ⟨w5.heap.size, 0, none⟩ 2 2 (fl [(x, y, z, cu, n), (x', y', z', cu, m)]) rfl rfl (news10 w5 (x, y, z, cu, n) (x', y', z', cu, m)) (one10 (x, y, z, cu, n) (x', y', z', cu, m)) (by unfold maxLen; omega) (by omega) (by simp; omega) ?_)
      intro v6 w6 hown3 hgrow3 hnil _
      have W6 := Lib.hid (W5.out.apps [(x, y, z, cu, n), (x', y', z', cu, m)] _ bl hown3 hgrow3 hnil)
      clear hown3 hgrow3 hnil hi2 hz20 hz21 hz22 szW hm1 hm2
      go_wp2
      go_roundw
      case rel => exact ⟨k, l ++ [(x, y, z, cu, n), (x', y', z', cu, m)], by go_num, by have := HK.out; rw [List.length_append]; simp; omega, W6⟩
      case measure => simp [intOf]
    · obtain rfl : k = 0 := by omega
      go_wp2_with fail
      refine (below wr b len 20 H.out.rd (by omega) (by omega)).mono ?_
      rintro e w3 ⟨sw, s1, s2, rfl, o3, r3⟩
      have W3 := Lib.hid (H.out.next o3 r3 bl)
      clear o3 r3 H
      obtain rfl | rfl | rfl | hs : sw = 0 ∨ sw = 1 ∨ sw = 2 ∨ 3 ≤ sw := by omega
      · skip
        go_wp2_with fail
        refine (acct w3 b len W3.out.rd).mono ?_
        rintro e w4 ⟨x, y, z, _, _, _, rfl, o4, r4⟩
        have W4 := Lib.hid (W3.out.next o4 r4 bl)
        clear o4 r4 W3
        go_wp2_with fail
        refine (off w4 b len 0 5 W4.out.rd (by omega) (by omega) (by omega)).mono ?_
        rintro e w5 ⟨cu, _, rfl, o5, r5⟩
        have W5 := Lib.hid (W4.out.next o5 r5 bl)
        clear o5 r5 W4
        go_wp2_with fail
        refine (off w5 b len (-1000000000000) 1000000000000 W5.out.rd (by omega) (by omega) (by omega)).mono ?_
        rintro e w6 ⟨n, _, rfl, o6, r6⟩
        have W6 := Lib.hid (W5.out.next o6 r6 bl)
        clear o6 r6 W5
        obtain ⟨hi2, hz20, hz21, hz22⟩ := INF.out
        have szW := W6.out.only.size
        go_wp2_with (at_builtin; refine wpList_append_own_at _ rfl _ _ 24 rfl w.heap.size 36 i5 (.agg #[.int .i64 0, .int .i64 0, .int .i64 0, .int .i64 0, .int .i64 0]) 5 40 Tryz.underlying24 hi2 hz20 hz21 hz22 rfl (by decide) _ _ _ rfl (W6.out.own.alloc _) ⟨w6.heap.size, 0, none⟩ 1 1 (fl [(x, y, z, cu, n)]) rfl rfl (news5 w6 (x, y, z, cu, n)) (one5 (x, y, z, cu, n)) (by unfold maxLen; omega) (by omega) (by simp; omega) ?_)
        intro v7 w7 hown3 hgrow3 hnil _
        have W7 := Lib.hid (W6.out.apps [(x, y, z, cu, n)] _ bl hown3 hgrow3 hnil)
        clear hown3 hgrow3 hnil hi2 hz20 hz21 hz22 szW
        go_wp2
        go_ret
        exact W7.out.got (by rw [List.length_append]; simp; omega)
      · skip
        obtain ⟨hi2, hz20, hz21, hz22⟩ := INF.out
        have szW := W3.out.only.size
        go_wp2_with (at_builtin; refine wpList_append_own_at _ rfl _ _ 24 rfl w.heap.size 36 i5 (.agg #[.int .i64 0, .int .i64 0, .int .i64 0, .int .i64 0, .int .i64 0]) 5 40 Tryz.underlying24 hi2 hz20 hz21 hz22 rfl (by decide) _ _ _ rfl (W3.out.own.alloc _) ⟨w3.heap.size, 0, none⟩ 1 1 (fl [(3, 0, 1, 0, 1)]) rfl rfl (news5 w3 (3, 0, 1, 0, 1)) (one5 (3, 0, 1, 0, 1)) (by unfold maxLen; omega) (by omega) (by simp; omega) ?_)
        intro v7 w7 hown3 hgrow3 hnil _
        have W7 := Lib.hid (W3.out.apps [(3, 0, 1, 0, 1)] _ bl hown3 hgrow3 hnil)
        clear hown3 hgrow3 hnil hi2 hz20 hz21 hz22 szW
        go_wp2
        go_ret
        exact W7.out.got (by rw [List.length_append]; simp; omega)
      · skip
        go_wp2_with fail
        refine (below w3 b len 2 W3.out.rd (by omega) (by omega)).mono ?_
        rintro e w4 ⟨q, q1, q2, rfl, o4, r4⟩
        have W4 := Lib.hid (W3.out.next o4 r4 bl)
        clear o4 r4 W3
        obtain rfl | rfl : q = 0 ∨ q = 1 := by omega
        · skip
          obtain ⟨hi2, hz20, hz21, hz22⟩ := INF.out
          go_wp2_with (at_make; refine wpList_make_full _ rfl _ _ 24 rfl w4.heap.size 36 i5 (.agg #[.int .i64 0, .int .i64 0, .int .i64 0, .int .i64 0, .int .i64 0]) 5 Tryz.underlying24 hi2 hz20 hz21 _ _ _ _ 20 rfl rfl rfl rfl ?b2 ?b3 (Nat.le_refl _) ?_)
          case b2 => (try rw [hz22]); omega
          case b3 => unfold maxLen; omega
          intro w5 hown0 hgrow0
          obtain ⟨⟨A0, hA0, hv0⟩, hg0, _⟩ := Blk.of_owns hown0
          have F0 := Lib.hid (show Fil w w5 b len w4.heap.size (20 * 5) from by
            refine ⟨⟨hgrow0.os.trans W4.out.only.os, hgrow0.tape.trans W4.out.only.tape, hgrow0.output.trans W4.out.only.output, Nat.le_trans W4.out.only.size hgrow0.size, fun k hk hne => (hgrow0.block k (Nat.lt_of_lt_of_le hk W4.out.only.size) (fun e => by cases e)).trans (W4.out.only.block k hk hne)⟩, W4.out.rd.below (B := w4.heap.size) ⟨hgrow0.os, hgrow0.tape, hgrow0.output, hgrow0.size, fun k hk => hgrow0.block k hk (fun e => by cases e)⟩ W4.out.rd.lt, ⟨A0, hA0, fun k hk => ?_⟩, W4.out.only.size⟩
            have h := hv0 k hk
            exact zero_ints h)
          obtain ⟨g, hg⟩ : ∃ g, g = w4.heap.size := ⟨_, rfl⟩
          rw [← hg] at F0 ⊢
          clear hown0 hgrow0 hA0 hv0 hg0 hi2 hz20 hz21 hz22 hg
          go_wp2
          go_loopw [7] (fun vi wx => ∃ k : Nat, k ≤ 20 ∧ vi = .int .i64 k ∧ Hid (Fil w wx b len g (20 * 5))) (fun vi _ => 20 - (intOf vi).toNat)
          case atStart => exact ⟨0, by omega, rfl, F0⟩
          case round =>
            obtain ⟨k, hk, rfl, F⟩ := hrel
            by_cases hlt : k < 20
            · have z1 : (k : Int) < 20 := by omega
              have u2 : decide ((k : Int) < 20) = true := by simp; omega
              obtain ⟨A, hA, _⟩ := F.out.blk
              have c0 := hA.cell (k * 5) (by omega)
              have c1 := hA.cell (k * 5 + 1) (by omega)
              have c2 := hA.cell (k * 5 + 2) (by omega)
              have f0 := hA.free (k * 5)
              have f1 := hA.free (k * 5 + 1)
              have f2 := hA.free (k * 5 + 2)
              clear hA
              go_wp2
              go_roundw
              case rel => exact ⟨k + 1, by omega, by go_num, Lib.hid (((F.out.set bl (by omega) _).set bl (by omega) _).set bl (by omega) _)⟩
              case measure => simp [intOf]; omega
            · obtain rfl : k = 20 := by omega
              obtain ⟨A, hA, hi⟩ := F.out.blk
              obtain ⟨l', hl', R'⟩ := ints_list hA hi
              have RR := Lib.hid R'
              have HL := Lib.hid hl'
              have lt := Lib.hid hA.lt
              clear hA hi R' hl'
              go_wp2
              go_ret
              exact ⟨_, 20, g, l', by rw [HL.out]; rfl, RR.out, fun _ => ⟨F.out.ge, lt.out⟩, by rw [HL.out]; omega, F.out.only, F.out.rd⟩
        · skip
          obtain ⟨hi2, hz20, hz21, hz22⟩ := INF.out
          go_wp2_with (at_make; refine wpList_make_full _ rfl _ _ 24 rfl w4.heap.size 36 i5 (.agg #[.int .i64 0, .int .i64 0, .int .i64 0, .int .i64 0, .int .i64 0]) 5 Tryz.underlying24 hi2 hz20 hz21 _ _ _ _ 21 rfl rfl rfl rfl ?b2 ?b3 (Nat.le_refl _) ?_)
          case b2 => (try rw [hz22]); omega
          case b3 => unfold maxLen; omega
          intro w5 hown0 hgrow0
          obtain ⟨⟨A0, hA0, hv0⟩, hg0, _⟩ := Blk.of_owns hown0
          have F0 := Lib.hid (show Fil w w5 b len w4.heap.size (21 * 5) from by
            refine ⟨⟨hgrow0.os.trans W4.out.only.os, hgrow0.tape.trans W4.out.only.tape, hgrow0.output.trans W4.out.only.output, Nat.le_trans W4.out.only.size hgrow0.size, fun k hk hne => (hgrow0.block k (Nat.lt_of_lt_of_le hk W4.out.only.size) (fun e => by cases e)).trans (W4.out.only.block k hk hne)⟩, W4.out.rd.below (B := w4.heap.size) ⟨hgrow0.os, hgrow0.tape, hgrow0.output, hgrow0.size, fun k hk => hgrow0.block k hk (fun e => by cases e)⟩ W4.out.rd.lt, ⟨A0, hA0, fun k hk => ?_⟩, W4.out.only.size⟩
            have h := hv0 k hk
            exact zero_ints h)
          obtain ⟨g, hg⟩ : ∃ g, g = w4.heap.size := ⟨_, rfl⟩
          rw [← hg] at F0 ⊢
          clear hown0 hgrow0 hA0 hv0 hg0 hi2 hz20 hz21 hz22 hg
          go_wp2
          go_loopw [7] (fun vi wx => ∃ k : Nat, k ≤ 21 ∧ vi = .int .i64 k ∧ Hid (Fil w wx b len g (21 * 5))) (fun vi _ => 21 - (intOf vi).toNat)
          case atStart => exact ⟨0, by omega, rfl, F0⟩
          case round =>
            obtain ⟨k, hk, rfl, F⟩ := hrel
            by_cases hlt : k < 21
            · have z1 : (k : Int) < 21 := by omega
              have u2 : decide ((k : Int) < 21) = true := by simp; omega
              obtain ⟨A, hA, _⟩ := F.out.blk
              have c0 := hA.cell (k * 5) (by omega)
              have c1 := hA.cell (k * 5 + 1) (by omega)
              have c2 := hA.cell (k * 5 + 2) (by omega)
              have f0 := hA.free (k * 5)
              have f1 := hA.free (k * 5 + 1)
              have f2 := hA.free (k * 5 + 2)
              clear hA
              go_wp2
              go_roundw
              case rel => exact ⟨k + 1, by omega, by go_num, Lib.hid (((F.out.set bl (by omega) _).set bl (by omega) _).set bl (by omega) _)⟩
              case measure => simp [intOf]; omega
            · obtain rfl : k = 21 := by omega
              obtain ⟨A, hA, hi⟩ := F.out.blk
              obtain ⟨l', hl', R'⟩ := ints_list hA hi
              have RR := Lib.hid R'
              have HL := Lib.hid hl'
              have lt := Lib.hid hA.lt
              clear hA hi R' hl'
              go_wp2
              go_ret
              exact ⟨_, 21, g, l', by rw [HL.out]; rfl, RR.out, fun _ => ⟨F.out.ge, lt.out⟩, by rw [HL.out]; omega, F.out.only, F.out.rd⟩
      · have t0 : (sw == 0) = false := by simp; omega
        have t1 : (sw == 1) = false := by simp; omega
        have t2 : (sw == 2) = false := by simp; omega
        go_wp2
        go_ret
        exact W3.out.got (by omega)
end Go.Proofs.YtpogfdeioibkdaaGreatDoor.draw
