/-
  Plain helpers of this seat's proofs: contracts of the functions that draw the arguments of Shared. Conditions: none.
-/
import Derived.Test.YtjkghpfcjjnghaaDraw4
import Derived.Test.YtjkghpfcjjnghaaBlk
import Derived.Maps.AppendAt
namespace Go.Proofs.Ytjkghpfcjjnghaa.draw
open Go.ChangeShapes Go.WideShapes Go.ChangeAt Go.RowKit

def eight : Array Value := #[.int .i64 1, .int .i64 1, .int .i64 1, .int .i64 0, .int .i64 2, .int .i64 3, .int .i64 7, .int .i64 100]
theorem pick8 (k : Nat) (h : k < 8) : ∃ c : Int, eight[k]? = some (.int .i64 c) := by
  obtain rfl | rfl | rfl | rfl | rfl | rfl | rfl | rfl : k = 0 ∨ k = 1 ∨ k = 2 ∨ k = 3 ∨ k = 4 ∨ k = 5 ∨ k = 6 ∨ k = 7 := by omega
  all_goals exact ⟨_, rfl⟩

/-- The weights as they are drawn: the reader goes on, the list lies in memory of its own. -/
structure Ws (w wr : World) (b len : Nat) (v : Value) (zs : List Int) : Prop where
  only : Only b w wr
  rd : Rd wr b len
  own : wr.ownsRow w.heap.size 2 1 v zs.length (zs.map (Value.int .i64))
theorem owns_only {wr wr' : World} {b : Nat} {v : Value} {n : Nat} {xs : List Value} {B : Nat} (h : wr.ownsRow B 2 1 v n xs) (o : Only b wr wr') (hb : b < B) : wr'.ownsRow B 2 1 v n xs := by
  refine ⟨h.1, ?_⟩
  rcases h.2 with hn | ⟨g, cap, cur, rfl, hg, hh, rest⟩
  · exact .inl hn
  · exact .inr ⟨g, cap, cur, rfl, hg, by rw [o.block g (Array.getElem?_eq_some_iff.1 hh).1 (by omega)]; exact hh, rest⟩
theorem Ws.next {w wr wr' : World} {b len : Nat} {v : Value} {zs : List Int} (h : Ws w wr b len v zs) (o : Only b wr wr') (r : Rd wr' b len) (hb : b < w.heap.size) : Ws w wr' b len v zs :=
  ⟨h.only.trans o, r, owns_only h.own o hb⟩
theorem Ws.alloc {w wr : World} {b len : Nat} {v : Value} {zs : List Int} (h : Ws w wr b len v zs) (o : Obj) : Ws w (wr.alloc o) b len v zs :=
  ⟨h.only.alloc o, h.rd.alloc o, h.own.alloc o⟩
theorem Ws.app {w wr w1 : World} {b len : Nat} {v v1 : Value} {zs : List Int} {z : Int} (h : Ws w wr b len v zs) (hb : b < w.heap.size) (hown : w1.ownsRow w.heap.size 2 1 v1 (zs.length + 1) (zs.map (Value.int .i64) ++ [.int .i64 z])) (hgrow : wr.grownBy w1 v.ownBlock) : Ws w w1 b len v1 (zs ++ [z]) := by
  have bl : ∀ k, v.ownBlock = some k → w.heap.size ≤ k := fun k hk => by
    rcases h.own.2 with ⟨rfl, _⟩ | ⟨g, cap, cur, rfl, hg, _⟩
    · cases hk
    · cases hk; exact hg
  have bb : Below w.heap.size wr w1 := ⟨hgrow.os, hgrow.tape, hgrow.output, hgrow.size, fun k hk => hgrow.block k (Nat.lt_of_lt_of_le hk h.only.size) (fun e => by have := bl k e.symm; omega)⟩
  refine ⟨⟨bb.os.trans h.only.os, bb.tape.trans h.only.tape, bb.output.trans h.only.output, Nat.le_trans h.only.size bb.size, fun k hk hne => (bb.block k hk).trans (h.only.block k hk hne)⟩, h.rd.below bb hb, ?_⟩
  rw [List.length_append, List.map_append]; exact hown

def GotWs (w : World) (b len : Nat) (e : Ending) (w' : World) : Prop :=
  ∃ a cap g zs, e = .returned (.slice a (List.length zs) cap) ∧ rows.Row w' a cap g zs ∧ (0 < zs.length → w.heap.size ≤ g ∧ g < w'.heap.size) ∧ zs.length ≤ 100 ∧ Only b w w' ∧ Rd w' b len
theorem Ws.got {w wr : World} {b len : Nat} {v : Value} {zs : List Int} (h : Ws w wr b len v zs) (hl : zs.length ≤ 100) : GotWs w b len (.returned v) wr := by
  obtain ⟨a, cap, g, rfl, R, G⟩ := rows.of_owns h.own
  exact ⟨a, cap, g, zs, rfl, R, G, hl, h.only, h.rd⟩

theorem made_get (n k : Nat) (hk : k < n) : (madeCells #[Value.int .i64 0] n).toList[k]? = some (.int .i64 0) := by
  simp [madeCells, hk, Nat.mod_one]
/-- A list of zeros but for its head. -/
def five (n : Nat) : List Int := (List.range n).map fun k => if k = 0 then 5 else 0
theorem five_len (n : Nat) : (five n).length = n := by simp [five]
theorem five_get (n k : Nat) (hk : k < n) : (five n).getD k 0 = if k = 0 then 5 else 0 := by
  unfold five
  rw [List.getD_eq_getElem?_getD, List.getElem?_map, List.getElem?_range hk]; rfl
theorem got_five {w wr w1 : World} {b len n : Nat} (o : Only b w wr) (r : Rd wr b len) (hb : b < w.heap.size) (hn : n ≤ 100) (h0 : 0 < n) (hown : w1.ownsRow w.heap.size 2 1 (.slice (some ⟨wr.heap.size, 0, none⟩) n n) n (madeCells #[Value.int .i64 0] n).toList) (hgrow : wr.grownBy w1 none) :
    GotWs w b len (.returned (.slice (some ⟨wr.heap.size, 0, none⟩) n n)) (w1.setCell ⟨wr.heap.size, 0, none⟩ (.int .i64 5)) := by
  obtain ⟨⟨A, hA, eA⟩, hg, _⟩ := rows.Blk.of_owns hown
  rw [Nat.mul_one] at hA eA
  have bb : Below w.heap.size wr w1 := ⟨hgrow.os, hgrow.tape, hgrow.output, hgrow.size, fun k hk => hgrow.block k (Nat.lt_of_lt_of_le hk o.size) (by simp)⟩
  have bc : Below w.heap.size wr (w1.setCell ⟨wr.heap.size, 0, none⟩ (.int .i64 5)) := bb.setCell hg _
  have hA' := hA.set h0 (.int .i64 5)
  have R := hA'.row (cap := n) (zs := five n) (five_len n) (Nat.le_refl _) (fun k hk => by
    unfold rows.upd
    rw [five_get n k hk]
    by_cases e : k = 0
    · rw [if_pos e, if_pos e]
    · have := eA k hk
      rw [made_get n k hk] at this
      injection this with this
      rw [if_neg e, if_neg e, ← this])
  exact ⟨_, n, wr.heap.size, five n, by rw [five_len], R, fun _ => ⟨hg, hA'.lt⟩, by rw [five_len]; exact hn,
    ⟨bc.os.trans o.os, bc.tape.trans o.tape, bc.output.trans o.output, Nat.le_trans o.size bc.size, fun k hk hne => (bc.block k hk).trans (o.block k hk hne)⟩, r.below bc hb⟩

set_option maxHeartbeats 2000000 in
theorem weights (w : World) (b len : Nat) (r : Rd w b len) : Calls Try.prog 32 #[.pointer (some ⟨b, 0, none⟩)] w (GotWs w b len) := by
  have bl := r.lt
  have R := Lib.hid r
  clear r
  obtain ⟨i2, hi2, hz20, hz21, hz22⟩ := info_parts rows.info2
  have INF := Lib.hid (And.intro hi2 (And.intro hz20 (And.intro hz21 hz22)))
  clear hi2 hz20 hz21 hz22
  have W0 := Lib.hid (show Ws w (w.alloc (.cells #[] 2)) b len (.slice (some ⟨w.heap.size, 0, none⟩) 0 0) [] from
    ⟨(Only.refl b w).alloc _, R.out.alloc _, ⟨rfl, .inr ⟨w.heap.size, 0, #[], rfl, Nat.le_refl _, heap_alloc_new w _, Nat.le_refl _, Nat.zero_le _, rfl, rfl⟩⟩⟩)
  go_enter Try.func32, Try.ntmps32
  go_wp2_with fail
  refine (below _ b len 8 W0.out.rd (by omega) (by omega)).mono ?_
  rintro e w1 ⟨x, x1, x2, rfl, o1, r1⟩
  have W1 := Lib.hid (W0.out.next o1 r1 bl)
  clear o1 r1 W0
  obtain ⟨X, rfl⟩ := Int.eq_ofNat_of_zero_le x1
  go_wp2
  go_loopw [3, 4] (fun v vi wr => ∃ (k : Nat) (zs : List Int), vi = .int .i64 k ∧ k + zs.length ≤ 8 ∧ Hid (Ws w wr b len v zs)) (fun _ vi _ => (intOf vi).toNat)
  case atStart => exact ⟨X + 1, [], by first | go_num | (congr 1; omega), by simp; omega, W1⟩
  case round =>
    obtain ⟨k, zs, rfl, hk, H⟩ := hrel
    have hzl : zs.length ≤ 8 := by omega
    by_cases h0 : 0 < k
    · have u1 : decide (0 < k) = true := by simp; omega
      obtain ⟨k, rfl⟩ : ∃ k', k = k' + 1 := ⟨k - 1, by omega⟩
      have kb : k ≤ 8 := by omega
      have HK := Lib.hid hk
      have szw := H.out.only.size
      clear hk
      go_wp2_with fail
      refine (below _ b len 8 (H.out.rd.alloc _) (by omega) (by omega)).mono ?_
      rintro e w2 ⟨y, y1, y2, rfl, o2, r2⟩
      obtain ⟨Y, rfl⟩ := Int.eq_ofNat_of_zero_le y1
      obtain ⟨z, hz⟩ := pick8 Y (by omega)
      have hc := (((Tab.new eight 3 wr).only o2 (Nat.lt_of_lt_of_le bl szw)).2 Y).trans hz
      have W2 := Lib.hid ((H.out.alloc (.cells eight 3)).next o2 r2 bl)
      have y3 : (Y : Int) < 8 := by omega
      have sz2 := W2.out.only.size
      clear o2 r2 hz H y2
      obtain ⟨hi2, hz20, hz21, hz22⟩ := INF.out
      go_wp2_with (at_builtin; refine wpList_append_own_at _ rfl _ _ 29 rfl w.heap.size 2 i2 (.int .i64 0) 1 8 Try.underlying29 hi2 hz20 hz21 hz22 rfl (by decide) _ _ _ rfl (W2.out.own.alloc _) ⟨w2.heap.size, 0, none⟩ 1 1 [.int .i64 z] rfl rfl ?c1 ?c2 ?c3 ?c4 ?c5 ?_)
      case c1 =>
        intro j u hj
        match j, hj with
        | 0, hj => simp at hj; subst hj; simp [Addr.add]
      case c2 => intro u hu; simp at hu; subst hu; rfl
      case c3 => unfold maxLen; omega
      case c4 => omega
      case c5 => simp; omega
      intro v3 w3 hown3 hgrow3 _ _
      have W3 := Lib.hid ((W2.out.alloc _).app bl hown3 hgrow3)
      clear hown3 hgrow3 hi2 hz20 hz21 hz22 W2 hc
      go_wp2
      go_roundw
      case rel => exact ⟨k, zs ++ [z], by go_num, by have := HK.out; rw [List.length_append]; simp; omega, W3⟩
      case measure => simp [intOf]
    · obtain rfl : k = 0 := by omega
      have bl' := bl
      go_wp2_with fail
      refine (once wr b len 12 H.out.rd (by omega) (by omega)).mono ?_
      rintro e w2 ⟨t, rfl, o2, r2⟩
      have W2 := Lib.hid (H.out.next o2 r2 bl)
      clear o2 r2 H
      cases t
      · go_wp2_with fail
        refine (once w2 b len 30 W2.out.rd (by omega) (by omega)).mono ?_
        rintro e w4 ⟨t4, rfl, o4, r4⟩
        have W4 := Lib.hid (W2.out.next o4 r4 bl)
        clear o4 r4 W2
        cases t4
        · go_wp2
          go_ret
          exact W4.out.got (by omega)
        · go_wp2_with fail
          refine (below w4 b len 3 W4.out.rd (by omega) (by omega)).mono ?_
          rintro e w5 ⟨y, y1, y2, rfl, o5, r5⟩
          have O5 := Lib.hid (W4.out.only.trans o5)
          have R5 := Lib.hid r5
          clear o5 r5 W4
          obtain ⟨Y, rfl⟩ := Int.eq_ofNat_of_zero_le y1
          obtain ⟨hi2, hz20, hz21, hz22⟩ := INF.out
          have szw := O5.out.size
          go_wp2_with (at_make; refine wpList_make_full _ rfl _ _ 29 rfl w.heap.size 2 i2 (.int .i64 0) 1 Try.underlying29 hi2 hz20 hz21 _ _ _ _ (59 + Y) rfl rfl ?a1 ?a2 ?a3 ?a4 ?a5 ?_)
          case a1 => omega
          case a2 => omega
          case a3 => (try rw [hz22]); omega
          case a4 => unfold maxLen; omega
          case a5 => exact szw
          intro w6 hown6 hgrow6
          have FV := Lib.hid (got_five (n := 59 + Y) O5.out R5.out bl (by omega) (by omega) hown6 hgrow6)
          obtain ⟨⟨A, hA, _⟩, _, _⟩ := rows.Blk.of_owns hown6
          have c0 := hA.cell 0 (by omega)
          have c1 := hA.free 0
          have p0 : (0 : Int) < ((59 + Y : Nat) : Int) := by omega
          have p1 : 0 < 59 + Y := by omega
          clear hown6 hgrow6 hA hi2 hz20 hz21 hz22
          go_wp2
          go_ret
          exact FV.out
      · go_wp2_with fail
        refine (off w2 b len 0 1000000 W2.out.rd (by omega) (by omega) (by omega)).mono ?_
        rintro e w3 ⟨z, z1, rfl, o3, r3⟩
        have W3 := Lib.hid (W2.out.next o3 r3 bl)
        have sz3 := W3.out.only.size
        clear o3 r3 W2 z1
        obtain ⟨hi2, hz20, hz21, hz22⟩ := INF.out
        go_wp2_with (at_builtin; refine wpList_append_own_at _ rfl _ _ 29 rfl w.heap.size 2 i2 (.int .i64 0) 1 8 Try.underlying29 hi2 hz20 hz21 hz22 rfl (by decide) _ _ _ rfl (W3.out.own.alloc _) ⟨w3.heap.size, 0, none⟩ 1 1 [.int .i64 z] rfl rfl ?c1 ?c2 ?c3 ?c4 ?c5 ?_)
        case c1 =>
          intro j u hj
          match j, hj with
          | 0, hj => simp at hj; subst hj; simp [Addr.add]
        case c2 => intro u hu; simp at hu; subst hu; rfl
        case c3 => unfold maxLen; omega
        case c4 => omega
        case c5 => simp; omega
        intro v3' w3' hown3 hgrow3 _ _
        have W3' := Lib.hid ((W3.out.alloc _).app bl hown3 hgrow3)
        clear hown3 hgrow3 hi2 hz20 hz21 hz22 W3
        go_wp2_with fail
        refine (once w3' b len 30 W3'.out.rd (by omega) (by omega)).mono ?_
        rintro e w4 ⟨t4, rfl, o4, r4⟩
        have W4 := Lib.hid (W3'.out.next o4 r4 bl)
        clear o4 r4 W3'
        cases t4
        · go_wp2
          go_ret
          exact W4.out.got (by rw [List.length_append]; simp; omega)
        · go_wp2_with fail
          refine (below w4 b len 3 W4.out.rd (by omega) (by omega)).mono ?_
          rintro e w5 ⟨y, y1, y2, rfl, o5, r5⟩
          have O5 := Lib.hid (W4.out.only.trans o5)
          have R5 := Lib.hid r5
          clear o5 r5 W4
          obtain ⟨Y, rfl⟩ := Int.eq_ofNat_of_zero_le y1
          obtain ⟨hi2, hz20, hz21, hz22⟩ := INF.out
          have szw := O5.out.size
          go_wp2_with (at_make; refine wpList_make_full _ rfl _ _ 29 rfl w.heap.size 2 i2 (.int .i64 0) 1 Try.underlying29 hi2 hz20 hz21 _ _ _ _ (59 + Y) rfl rfl ?a1 ?a2 ?a3 ?a4 ?a5 ?_)
          case a1 => omega
          case a2 => omega
          case a3 => (try rw [hz22]); omega
          case a4 => unfold maxLen; omega
          case a5 => exact szw
          intro w6 hown6 hgrow6
          have FV := Lib.hid (got_five (n := 59 + Y) O5.out R5.out bl (by omega) (by omega) hown6 hgrow6)
          obtain ⟨⟨A, hA, _⟩, _, _⟩ := rows.Blk.of_owns hown6
          have c0 := hA.cell 0 (by omega)
          have c1 := hA.free 0
          have p0 : (0 : Int) < ((59 + Y : Nat) : Int) := by omega
          have p1 : 0 < 59 + Y := by omega
          clear hown6 hgrow6 hA hi2 hz20 hz21 hz22
          go_wp2
          go_ret
          exact FV.out

/-- A total and its weights, drawn. -/
def DrewS (w : World) (e : Ending) (w' : World) : Prop :=
  ∃ (t : Int) (a : Option Addr) (cap g : Nat) (zs : List Int), e = .returned (.tuple #[.int .i64 t, .slice a zs.length cap]) ∧ rows.Row w' a cap g zs ∧ (0 < zs.length → w.heap.size ≤ g ∧ g < w'.heap.size) ∧ zs.length ≤ 100 ∧ Below w.heap.size w w'
set_option maxHeartbeats 1000000 in
theorem drawShared (a : Option Addr) (len cap : Nat) (w : World) (hB : Bytes w a len) (h : len ≤ 1048576) : Calls Try.prog 14 #[.slice a len cap] w (DrewS w) := by
  have HB := Lib.hid hB
  clear hB
  go_enter Try.func14, Try.ntmps14
  go_wp2_with fail
  refine (openRd a len cap w HB.out h).mono ?_
  rintro e w0 ⟨rfl, r0, b0⟩
  have R0 := Lib.hid r0
  have B0 := Lib.hid b0
  clear r0 b0
  go_wp2_with fail
  refine (once w0 w.heap.size len 12 R0.out (by omega) (by omega)).mono ?_
  rintro e w1 ⟨t, rfl, o1, r1⟩
  have R1 := Lib.hid r1
  have O1 := Lib.hid o1
  clear r1 o1
  cases t
  · go_wp2_with fail
    refine (money w1 w.heap.size len R1.out).mono ?_
    rintro e w2 ⟨x, rfl, o2, r2⟩
    have R2 := Lib.hid r2
    have O2 := Lib.hid (O1.out.trans o2)
    clear r2 o2
    go_wp2_with fail
    refine (weights w2 w.heap.size len R2.out).mono ?_
    rintro e w3 ⟨a3, c3, g3, zs, rfl, row, G, hl, o3, r3⟩
    have ROW := Lib.hid row
    have GG := Lib.hid G
    have O3 := Lib.hid (O2.out.trans o3)
    have s0 := B0.out.size
    have s2 := O2.out.size
    clear row G o3 r3
    go_wp2
    go_ret2
    exact ⟨x, a3, c3, g3, zs, rfl, ROW.out, fun hp => ⟨by have := (GG.out hp).1; omega, (GG.out hp).2⟩, hl, back rfl B0.out O3.out⟩
  · go_wp2_with fail
    refine (off w1 w.heap.size len 0 1000000000000 R1.out (by omega) (by omega) (by omega)).mono ?_
    rintro e w2 ⟨x, x1, rfl, o2, r2⟩
    have R2 := Lib.hid r2
    have O2 := Lib.hid (O1.out.trans o2)
    clear r2 o2 x1
    go_wp2_with fail
    refine (weights w2 w.heap.size len R2.out).mono ?_
    rintro e w3 ⟨a3, c3, g3, zs, rfl, row, G, hl, o3, r3⟩
    have ROW := Lib.hid row
    have GG := Lib.hid G
    have O3 := Lib.hid (O2.out.trans o3)
    have s0 := B0.out.size
    have s2 := O2.out.size
    clear row G o3 r3
    go_wp2
    go_ret2
    exact ⟨x, a3, c3, g3, zs, rfl, ROW.out, fun hp => ⟨by have := (GG.out hp).1; omega, (GG.out hp).2⟩, hl, back rfl B0.out O3.out⟩
end Go.Proofs.Ytjkghpfcjjnghaa.draw
