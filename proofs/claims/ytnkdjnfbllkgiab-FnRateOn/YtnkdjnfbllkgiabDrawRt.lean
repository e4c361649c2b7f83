/-
  Plain helpers of this seat's proofs: the contract of the function that draws a list of rates. Conditions: none.
-/
import Derived.Test.YtnkdjnfbllkgiabDrawRs
namespace Go.Proofs.Ytnkdjnfbllkgiab.draw
open Go.ChangeShapes Go.WideShapes Go.ChangeAt Go.RowKit
open led (F5 z5)
open five (Row At Blk)
set_option maxRecDepth 40000 in
set_option maxHeartbeats 8000000 in
theorem rates (w : World) (b len : Nat) (r : Rd w b len) : Calls Try.prog 46 #[.pointer (some ⟨b, 0, none⟩)] w (GotRs w b len) := by
  have bl := r.lt
  have R := Lib.hid r
  clear r
  obtain ⟨i5, hi2, hz20, hz21, hz22⟩ := info_parts five.infoE
  have INF := Lib.hid (And.intro hi2 (And.intro hz20 (And.intro hz21 hz22)))
  clear hi2 hz20 hz21 hz22
  have W0 := Lib.hid (show Ws w (w.alloc (.cells #[] 25)) b len (.slice (some ⟨w.heap.size, 0, none⟩) 0 0) [] from
    ⟨(Only.refl b w).alloc _, R.out.alloc _, ⟨rfl, .inr ⟨w.heap.size, 0, #[], rfl, Nat.le_refl _, heap_alloc_new w _, Nat.le_refl _, Nat.zero_le _, rfl, rfl⟩⟩⟩)
  go_enter Try.func46, Try.ntmps46
  go_wp2_with fail
  refine (below _ b len 50 W0.out.rd (by omega) (by omega)).mono ?_
  rintro e w1 ⟨d0, d1, d2, rfl, o1, r1⟩
  have W1 := Lib.hid (W0.out.next o1 r1 bl)
  clear o1 r1 W0
  go_wp2_with fail
  refine (below w1 b len 8 W1.out.rd (by omega) (by omega)).mono ?_
  rintro e w2 ⟨c0, c1, c2, rfl, o2, r2⟩
  have W2 := Lib.hid (W1.out.next o2 r2 bl)
  clear o2 r2 W1
  obtain ⟨c, rfl⟩ := Int.eq_ofNat_of_zero_le c1
  go_wp2
  go_loopw [3, 4, 5] (fun v vd vi wr => ∃ (k : Nat) (day : Int) (l : List F5), vi = .int .i64 k ∧ vd = .int .i64 day ∧ 0 ≤ day ∧ day + 20 * (k : Int) ≤ 250 ∧ k + l.length ≤ 8 ∧ Hid (Ws w wr b len v l)) (fun _ _ vi _ => (intOf vi).toNat)
  case atStart => exact ⟨c, d0, [], by go_num, rfl, d1, by omega, by simp; omega, W2⟩
  case round =>
    obtain ⟨k, day, l, rfl, rfl, y1, y2, hk, H⟩ := hrel
    have hzl : l.length ≤ 8 := by omega
    by_cases h0 : 0 < k
    · have u1 : decide (0 < k) = true := by simp; omega
      obtain ⟨k, rfl⟩ : ∃ k', k = k' + 1 := ⟨k - 1, by omega⟩
      have kb : k ≤ 8 := by omega
      have HK := Lib.hid hk
      have HY := Lib.hid y2
      have y3 : day ≤ 250 := by omega
      clear hk y2
      go_wp2_with fail
      refine (rate wr b len day H.out.rd).mono ?_
      rintro e w3 ⟨x, rfl, o3, r3⟩
      have W3 := Lib.hid (H.out.next o3 r3 bl)
      clear o3 r3 H
      obtain ⟨hi2, hz20, hz21, hz22⟩ := INF.out
      have szW := W3.out.only.size
      go_wp2_with (at_builtin; refine wpList_append_own_at _ rfl _ _ 31 rfl w.heap.size 25 i5 (.agg #[.int .i64 0, .int .i64 0, .int .i64 0, .int .i64 0, .int .i64 0]) 5 40 Try.underlying31 hi2 hz20 hz21 hz22 rfl (by decide) _ _ _ rfl (W3.out.own.alloc _) ⟨w3.heap.size, 0, none⟩ 1 1 [.int .i64 x.1, .int .i64 x.2.1, .int .i64 x.2.2.1, .int .i64 x.2.2.2.1, .int .i64 x.2.2.2.2] rfl rfl ?c1 ?c2 ?c3 ?c4 ?c5 ?_)
      case c1 =>
        intro j u hj
        match j, hj with
        | 0, hj => simp at hj; subst hj; simp [Addr.add]
        | 1, hj => simp at hj; subst hj; simp [Addr.add]
        | 2, hj => simp at hj; subst hj; simp [Addr.add]
        | 3, hj => simp at hj; subst hj; simp [Addr.add]
        | 4, hj => simp at hj; subst hj; simp [Addr.add]
      case c2 => intro u hu; simp at hu; rcases hu with rfl | rfl | rfl | rfl | rfl <;> rfl
      case c3 => unfold maxLen; omega
      case c4 => omega
      case c5 => simp; omega
      intro v4 w4 hown3 hgrow3 _ _
      have W4 := Lib.hid ((W3.out.alloc (.cells #[.int .i64 x.1, .int .i64 x.2.1, .int .i64 x.2.2.1, .int .i64 x.2.2.2.1, .int .i64 x.2.2.2.2] 25)).app (z := (x.1, x.2.1, x.2.2.1, x.2.2.2.1, x.2.2.2.2)) bl hown3 hgrow3)
      clear hown3 hgrow3 hi2 hz20 hz21 hz22 szW
      go_wp2_with fail
      refine (below w4 b len 20 W4.out.rd (by omega) (by omega)).mono ?_
      rintro e w5 ⟨q, q1, q2, rfl, o5, r5⟩
      have W5 := Lib.hid (W4.out.next o5 r5 bl)
      clear o5 r5 W4 W3
      go_wp2
      go_roundw
      case rel => exact ⟨k, day + q, l ++ [(x.1, x.2.1, x.2.2.1, x.2.2.2.1, x.2.2.2.2)], by go_num, rfl, by omega, by have := HY.out; omega, by have := HK.out; rw [List.length_append]; simp; omega, W5⟩
      case measure => simp [intOf]
    · obtain rfl : k = 0 := by omega
      clear y2
      go_wp2_with fail
      refine (below wr b len 40 H.out.rd (by omega) (by omega)).mono ?_
      rintro e w3 ⟨sw, s1, s2, rfl, o3, r3⟩
      have W3 := Lib.hid (H.out.next o3 r3 bl)
      clear o3 r3 H
      obtain rfl | rfl | hs : sw = 0 ∨ sw = 1 ∨ ¬ (sw = 0 ∨ sw = 1) := by omega
      · go_wp2_with fail
        refine (rate w3 b len 0 W3.out.rd).mono ?_
        rintro e w4 ⟨x, rfl, o4, r4⟩
        have W4 := Lib.hid (W3.out.next o4 r4 bl)
        clear o4 r4 W3
        obtain ⟨hi2, hz20, hz21, hz22⟩ := INF.out
        have szW := W4.out.only.size
        go_wp2_with (at_builtin; refine wpList_append_own_at _ rfl _ _ 31 rfl w.heap.size 25 i5 (.agg #[.int .i64 0, .int .i64 0, .int .i64 0, .int .i64 0, .int .i64 0]) 5 40 Try.underlying31 hi2 hz20 hz21 hz22 rfl (by decide) _ _ _ rfl (W4.out.own.alloc _) ⟨w4.heap.size, 0, none⟩ 1 1 [.int .i64 x.1, .int .i64 x.2.1, .int .i64 x.2.2.1, .int .i64 x.2.2.2.1, .int .i64 x.2.2.2.2] rfl rfl ?c1 ?c2 ?c3 ?c4 ?c5 ?_)
        case c1 =>
          intro j u hj
          match j, hj with
          | 0, hj => simp at hj; subst hj; simp [Addr.add]
          | 1, hj => simp at hj; subst hj; simp [Addr.add]
          | 2, hj => simp at hj; subst hj; simp [Addr.add]
          | 3, hj => simp at hj; subst hj; simp [Addr.add]
          | 4, hj => simp at hj; subst hj; simp [Addr.add]
        case c2 => intro u hu; simp at hu; rcases hu with rfl | rfl | rfl | rfl | rfl <;> rfl
        case c3 => unfold maxLen; omega
        case c4 => omega
        case c5 => simp; omega
        intro v5 w5 hown3 hgrow3 _ _
        have W5 := Lib.hid ((W4.out.alloc (.cells #[.int .i64 x.1, .int .i64 x.2.1, .int .i64 x.2.2.1, .int .i64 x.2.2.2.1, .int .i64 x.2.2.2.2] 25)).app (z := (x.1, x.2.1, x.2.2.1, x.2.2.2.1, x.2.2.2.2)) bl hown3 hgrow3)
        clear hown3 hgrow3 hi2 hz20 hz21 hz22 szW
        go_wp2
        go_ret
        exact W5.out.got (by rw [List.length_append]; simp; omega)
      · clear hk
        go_wp2
        go_loopw [3, 6] (fun v vi wr => ∃ (k : Nat) (l : List F5), vi = .int .i64 k ∧ k ≤ 62 ∧ l.length ≤ 8 + k ∧ Hid (Ws w wr b len v l)) (fun _ vi _ => 62 - (intOf vi).toNat)
        case atStart => exact ⟨0, l, by go_num, by omega, by omega, W3⟩
        case round =>
          obtain ⟨k, l, rfl, hk, hl, H⟩ := hrel
          have hl8 : l.length ≤ 70 := by omega
          by_cases h1 : k < 62
          · have z1 : (k : Int) < 62 := by omega
            have u1 : decide ((k : Int) < 62) = true := by simp; omega
            have u1' : decide (k < 62) = true := by simp; omega
            obtain ⟨a0, cap0, g0, hv, _, _⟩ := of_owns5 H.out.own
            subst hv
            go_wp2_with fail
            refine (below wr b len 3 H.out.rd (by omega) (by omega)).mono ?_
            rintro e w5 ⟨q, q1, q2, rfl, o5, r5⟩
            have W5 := Lib.hid (H.out.next o5 r5 bl)
            clear o5 r5 H
            by_cases h2 : (l.length : Int) < 59 + q
            · have u2 : decide ((l.length : Int) < 59 + q) = true := by simp; omega
              obtain ⟨hi2, hz20, hz21, hz22⟩ := INF.out
              have szW := W5.out.only.size
              go_wp2_with (at_builtin; refine wpList_append_own_at _ rfl _ _ 31 rfl w.heap.size 25 i5 (.agg #[.int .i64 0, .int .i64 0, .int .i64 0, .int .i64 0, .int .i64 0]) 5 40 Try.underlying31 hi2 hz20 hz21 hz22 rfl (by decide) _ _ _ rfl (W5.out.own.alloc _) ⟨w5.heap.size, 0, none⟩ 1 1 [.int .i64 day, .int .i64 0, .int .i64 1, .int .i64 1, .int .i64 1] rfl rfl ?c1 ?c2 ?c3 ?c4 ?c5 ?_)
              case c1 =>
                intro j u hj
                match j, hj with
                | 0, hj => simp at hj; subst hj; simp [Addr.add]
                | 1, hj => simp at hj; subst hj; simp [Addr.add]
                | 2, hj => simp at hj; subst hj; simp [Addr.add]
                | 3, hj => simp at hj; subst hj; simp [Addr.add]
                | 4, hj => simp at hj; subst hj; simp [Addr.add]
              case c2 => intro u hu; simp at hu; rcases hu with rfl | rfl | rfl | rfl | rfl <;> rfl
              case c3 => unfold maxLen; omega
              case c4 => omega
              case c5 => simp; omega
              intro v6 w6 hown3 hgrow3 _ _
              have W6 := Lib.hid ((W5.out.alloc (.cells #[.int .i64 day, .int .i64 0, .int .i64 1, .int .i64 1, .int .i64 1] 25)).app (z := (day, 0, 1, 1, 1)) bl hown3 hgrow3)
              clear hown3 hgrow3 hi2 hz20 hz21 hz22 szW
              go_wp2
              go_roundw
              case rel => exact ⟨k + 1, l ++ [(day, 0, 1, 1, 1)], by go_num, by omega, by rw [List.length_append]; simp; omega, W6⟩
              case measure => simp [intOf]; omega
            · have u2 : decide ((l.length : Int) < 59 + q) = false := by simp; omega
              go_wp2
              go_ret
              exact W5.out.got (by omega)
          · obtain rfl : k = 62 := by omega
            go_wp2
            go_ret
            exact H.out.got (by omega)
      · have t0 : (sw == 0) = false := by simp; omega
        have t1 : (sw == 1) = false := by simp; omega
        go_wp2
        go_ret
        exact W3.out.got (by omega)
end Go.Proofs.Ytnkdjnfbllkgiab.draw
