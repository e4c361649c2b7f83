/-
  Plain helpers of this seat's proofs: the contract of the function that draws a ledger. Conditions: none.
-/
import Derived.Test.YtpogfdeioibkdaaGreatDoorPsS
import Derived.Test.YtpogfdeioibkdaaGreatDoorDrawB
namespace Go.Proofs.YtpogfdeioibkdaaGreatDoor.mp
open led (F5 Pst)
theorem pr_len (l b : List F5) : (pr l b).length ≤ 400 := by
  have h := pst l b
  by_cases q1 : led.LV l
  · by_cases q2 : led.BV b
    · by_cases q3 : led.ZV b
      · by_cases q4 : led.LV (led.puts l b)
        · rw [(h.c0 q1 q2 q3 q4).1]; exact q4.1
        · rw [(h.c4 q1 q2 q3 q4).1]; simp
      · rw [(h.c3 q1 q2 q3).1]; simp
    · rw [(h.c2 q1 q2).1]; simp
  · rw [(h.c1 q1).1]; simp
end Go.Proofs.YtpogfdeioibkdaaGreatDoor.mp

namespace Go.Proofs.YtpogfdeioibkdaaGreatDoor.draw
open Go.ChangeShapes Go.WideShapes Go.ChangeAt Go.RowKit
open led (F5 z5 nn wn)
open five (Row At Blk)
open mp (W4 pr pc)
theorem setN {w : World} {cap g : Nat} {x : F5} {t : List F5} (r : Row w (some ⟨g, 0, none⟩) cap g (x :: t)) (n : Int) : Row (w.setCell ⟨g, 4, none⟩ (.int .i64 n)) (some ⟨g, 0, none⟩) cap g (wn x n :: t) := by
  have ot : ∀ k v, k ≠ 4 → w.cell? ⟨g, k, none⟩ = some v → (w.setCell ⟨g, 4, none⟩ (.int .i64 n)).cell? ⟨g, k, none⟩ = some v := fun k v hk h =>
    (World.cell?_setCell_other w ⟨g, 4, none⟩ ⟨g, k, none⟩ _ (fun q => by injection q with q1 q2; omega)).trans h
  refine ⟨fun _ => rfl, by have := r.room; simpa using this, fun i hi => ?_, fun _ i => by rw [World.frozen?_setCell]; exact r.free (by simp) i⟩
  have c := r.cells i (by simpa using hi)
  cases i with
  | zero =>
    refine ⟨ot _ _ (by omega) c.c0, ot _ _ (by omega) c.c1, ot _ _ (by omega) c.c2, ot _ _ (by omega) c.c3, ?_⟩
    have h4 := c.c4
    simp only [Nat.zero_mul, Nat.zero_add] at h4 ⊢
    exact World.cell?_setCell_same' _ _ _ (by rw [h4]; rfl)
  | succ i => exact ⟨ot _ _ (by omega) c.c0, ot _ _ (by omega) c.c1, ot _ _ (by omega) c.c2, ot _ _ (by omega) c.c3, ot _ _ (by omega) c.c4⟩
/-- A ledger, drawn. -/
def GotL (w : World) (b len : Nat) (e : Ending) (w' : World) : Prop := ∃ cap g, ∃ l : List F5, e = .returned (.slice (some ⟨g, 0, none⟩) l.length cap) ∧ Row w' (some ⟨g, 0, none⟩) cap g l ∧ w.heap.size ≤ g ∧ g < w'.heap.size ∧ l.length ≤ 500 ∧ (∀ x ∈ l, W4 x) ∧ Only b w w' ∧ Rd w' b len
theorem Wn.gotL {w wr : World} {b len : Nat} {v : Value} {l : List F5} (h : Wn w wr b len v l) (hl : l.length ≤ 500) (hw : ∀ x ∈ l, W4 x) : GotL w b len (.returned v) wr := by
  obtain ⟨cap, g, rfl, R, G1, G2⟩ := of_owns5n h.own h.live
  exact ⟨cap, g, l, rfl, R, G1, G2, hl, hw, h.only, h.rd⟩
theorem lv_w4 {l : List F5} (h : led.LV l) : ∀ x ∈ l, W4 x := fun _ hx => W4.of_in (led.plok_in (led.LV_mem h hx).1)
theorem lv_nil : led.LV [] := ⟨by simp, fun i hi => absurd hi (by simp)⟩
/-- A ledger that is being filled up. -/
structure Pg (l : List F5) (k : Nat) : Prop where
  ss : led.SS l
  pl : ∀ x ∈ l, led.plok x = true
  nb : ∀ x ∈ l, -(1000000000000000 + (k : Int)) ≤ nn x ∧ nn x ≤ 1000000000000000 + (k : Int)
  ln : l.length ≤ 402
theorem Pg.of {l : List F5} (h : led.LV l) (k : Nat) : Pg l k := ⟨led.LV_SS h, fun _ hx => (led.LV_mem h hx).1, fun x hx => by have := led.inR_iff.1 (led.LV_mem h hx).2.2; omega, by have := h.1; omega⟩
def fp (k : Nat) : F5 := (1, 100 + (k : Int), 1, 0, 1)
theorem fp_ok {k : Nat} (hk : k ≤ 500) : led.plok (fp k) = true := by
  unfold led.plok fp led.acct
  rw [if_pos (.inl rfl), Bool.and_eq_true, Bool.and_eq_true, led.inR_iff, led.inR_iff, led.inR_iff]
  dsimp only
  omega
theorem put_plok : ∀ {l : List F5} {p : F5}, (∀ x ∈ l, led.plok x = true) → led.plok p = true → ∀ x ∈ led.put l p, led.plok x = true
  | [], p, _, hp, x, hx => by
    unfold led.put at hx; split at hx
    · simp at hx
    · simp at hx; rw [hx]; exact hp
  | y :: l, p, h, hp, x, hx => by
    unfold led.put at hx
    split at hx
    · rcases List.mem_cons.1 hx with rfl | hx
      · exact h x (by simp)
      · exact put_plok (fun z hz => h z (by simp [hz])) hp x hx
    · split at hx
      · split at hx
        · exact h x (by simp [hx])
        · rcases List.mem_cons.1 hx with rfl | hx
          · exact hp
          · exact h x (by simp [hx])
      · split at hx
        · exact h x hx
        · rcases List.mem_cons.1 hx with rfl | hx
          · exact hp
          · exact h x hx
theorem Pg.put {l : List F5} {k : Nat} (h : Pg l k) (hk : k ≤ 500) (hl : l.length ≤ 401) : Pg (led.put l (fp k)) (k + 1) := by
  refine ⟨led.put_SS h.ss, fun x hx => ?_, fun x hx => ?_, by have := led.put_len l (fp k); omega⟩
  · have ok0 : ∀ y ∈ led.put l (fp k), led.plok y = true := put_plok (fun y hy => h.pl y hy) (fp_ok hk)
    exact ok0 x hx
  · have := mp.put_bound (B := 1) (by omega) h.nb (by show -1 ≤ (1 : Int) ∧ (1 : Int) ≤ 1; omega) x hx
    omega
/-- Behind a call that lays new blocks alone. -/
theorem Wn.below {w wr wr' : World} {b len : Nat} {v : Value} {l : List F5} (h : Wn w wr b len v l) (k : Below wr.heap.size wr wr') (hb : b < w.heap.size) : Wn w wr' b len v l :=
  h.next (Only.of_below k) (h.rd.below k h.rd.lt) hb
set_option maxRecDepth 40000 in
set_option maxHeartbeats 8000000 in
theorem ledger (w : World) (b len : Nat) (r : Rd w b len) : Calls Tryz.prog 18 #[.pointer (some ⟨b, 0, none⟩)] w (GotL w b len) := by
  have bl := r.lt
  have R := Lib.hid r
  clear r
  obtain ⟨i5, hi2, hz20, hz21, hz22⟩ := info_parts five.infoE
  have INF := Lib.hid (And.intro hi2 (And.intro hz20 (And.intro hz21 hz22)))
  clear hi2 hz20 hz21 hz22
  have W0 := Lib.hid (show Wn w (w.alloc (.cells #[] 36)) b len (.slice (some ⟨w.heap.size, 0, none⟩) 0 0) [] from
    ⟨(Only.refl b w).alloc _, R.out.alloc _, ⟨rfl, .inr ⟨w.heap.size, 0, #[], rfl, Nat.le_refl _, heap_alloc_new w _, Nat.le_refl _, Nat.zero_le _, rfl, rfl⟩⟩, fun h => by cases h⟩)
  go_enter Tryz.func18, Tryz.ntmps18
  go_wp2_with fail
  refine (size _ b len W0.out.rd).mono ?_
  rintro e w1 ⟨c0, c1, c2, rfl, o1, r1⟩
  have W1 := Lib.hid (W0.out.next o1 r1 bl)
  clear o1 r1 W0
  obtain ⟨c, rfl⟩ := Int.eq_ofNat_of_zero_le (show 0 ≤ c0 by omega)
  go_wp2
  go_loopw [3, 4] (fun v vi wr => ∃ (k : Nat) (l : List F5), vi = .int .i64 k ∧ k ≤ 8 ∧ Hid (led.LV l) ∧ Hid (Wn w wr b len v l)) (fun _ vi _ => (intOf vi).toNat)
  case atStart => exact ⟨c, [], by go_num, by omega, Lib.hid lv_nil, W1⟩
  case round =>
    obtain ⟨k, l, rfl, hk, LVL, H⟩ := hrel
    have ll := LVL.out.1
    by_cases h0 : 0 < k
    · have u1 : decide (0 < k) = true := by simp; omega
      obtain ⟨k, rfl⟩ : ∃ k', k = k' + 1 := ⟨k - 1, by omega⟩
      go_wp2_with fail
      refine (batch wr b len H.out.rd).mono ?_
      rintro e w2 ⟨ab, cb, gb, bt, rfl, rb, GB, hlb, o2, r2⟩
      have W2 := Lib.hid (H.out.next o2 r2 bl)
      obtain ⟨cl, gl, hv, RL, gl1, gl2⟩ := of_owns5n W2.out.own W2.out.live
      subst hv
      have CP := Lib.hid (mp.psS2 w2 ab cl cb gl gb l bt RL gl2 rb (by omega) (by omega))
      have PS := Lib.hid (mp.pst l bt)
      have room := RL.room
      clear o2 r2 H RL rb GB
      obtain ⟨cd, hcd⟩ : ∃ cd, cd = pc l bt := ⟨_, rfl⟩
      unfold mp.Psd2 at CP
      rw [← hcd] at CP PS
      clear hcd
      go_wp2_with fail
      refine CP.out.mono ?_
      rintro e w3 ⟨v3, rfl, h1, h2, b3⟩
      have W3 := Lib.hid (W2.out.below b3 bl)
      by_cases hc : cd = 0
      · obtain ⟨ow, lv3⟩ := h1 hc
        have N3 := Lib.hid (show Wn w w3 b len v3 (pr l bt) from ⟨W3.out.only, W3.out.rd, mp.own_mono ow W2.out.only.size, lv3⟩)
        have LV3 := Lib.hid (show led.LV (pr l bt) from by have := PS.out; rw [hc] at this; exact this.zero.2.2.2.1)
        have t1 : (cd == 0) = true := by simp [hc]
        clear h1 h2 b3 hc ow lv3 PS
        go_wp2
        go_roundw
        case rel => exact ⟨k, pr l bt, by go_num, by omega, LV3, N3⟩
        case measure => simp [intOf]
      · have t1 : (cd == 0) = false := by simp [hc]
        clear h1 h2 b3 hc PS
        go_wp2
        go_roundw
        case rel => exact ⟨k, l, by go_num, by omega, LVL, W3⟩
        case measure => simp [intOf]
    · obtain rfl : k = 0 := by omega
      go_wp2_with fail
      refine (below wr b len 30 H.out.rd (by omega) (by omega)).mono ?_
      rintro e w3 ⟨sw, s1, s2, rfl, o3, r3⟩
      have W3 := Lib.hid (H.out.next o3 r3 bl)
      clear o3 r3 H
      obtain rfl | rfl | rfl | hs : sw = 0 ∨ sw = 1 ∨ sw = 2 ∨ 3 ≤ sw := by omega
      · go_wp2_with fail
        refine (acct w3 b len W3.out.rd).mono ?_
        rintro e w4 ⟨x, y, z, wx, wy, wz, rfl, o4, r4⟩
        have W4h := Lib.hid (W3.out.next o4 r4 bl)
        have WX := Lib.hid (And.intro wx (And.intro wy wz))
        clear o4 r4 W3 wx wy wz
        go_wp2_with fail
        refine (off w4 b len 0 5 W4h.out.rd (by omega) (by omega) (by omega)).mono ?_
        rintro e w5 ⟨cu, wc, rfl, o5, r5⟩
        have W5 := Lib.hid (W4h.out.next o5 r5 bl)
        have WC := Lib.hid wc
        clear o5 r5 W4h wc
        go_wp2_with fail
        refine (off w5 b len (-1) 1 W5.out.rd (by omega) (by omega) (by omega)).mono ?_
        rintro e w6 ⟨n, _, rfl, o6, r6⟩
        have W6 := Lib.hid (W5.out.next o6 r6 bl)
        clear o6 r6 W5
        obtain ⟨hi2, hz20, hz21, hz22⟩ := INF.out
        have szW := W6.out.only.size
        go_wp2_with (at_builtin; refine wpList_append_own_at _ rfl _ _ 24 rfl w.heap.size 36 i5 (.agg #[.int .i64 0, .int .i64 0, .int .i64 0, .int .i64 0, .int .i64 0]) 5 40 Tryz.underlying24 hi2 hz20 hz21 hz22 rfl (by decide) _ _ _ rfl (W6.out.own.alloc _) ⟨w6.heap.size, 0, none⟩ 1 1 (fl [(x, y, z, cu, n)]) rfl rfl (news5 w6 (x, y, z, cu, n)) (one5 (x, y, z, cu, n)) (by unfold maxLen; omega) (by omega) (by simp; omega) ?_)
        intro v7 w7 hown3 hgrow3 hnil _
        have W7 := Lib.hid (W6.out.apps [(x, y, z, cu, n)] _ bl hown3 hgrow3 hnil)
        clear hown3 hgrow3 hnil hi2 hz20 hz21 hz22 szW
        go_wp2
        go_ret
        exact W7.out.gotL (by rw [List.length_append]; simp; omega) (fun q hq => by
          rcases List.mem_append.1 hq with hq | hq
          · exact lv_w4 LVL.out q hq
          · simp at hq; subst hq; exact ⟨WX.out.1, WX.out.2.1, WX.out.2.2, WC.out⟩)
      · go_wp2
        go_loopw [3, 7] (fun v vi wx => ∃ (k : Nat) (l : List F5), vi = .int .i64 k ∧ k ≤ 402 ∧ Hid (Pg l k) ∧ Hid (Wn w wx b len v l)) (fun _ vi _ => 402 - (intOf vi).toNat)
        case atStart => exact ⟨1, l, by go_num, by omega, Lib.hid (Pg.of LVL.out 1), W3⟩
        case round =>
          obtain ⟨k, l, rfl, hk, PG, H⟩ := hrel
          have ll := PG.out.ln
          by_cases h1 : k < 402
          · have z1 : (k : Int) < 402 := by omega
            have u1 : decide ((k : Int) < 402) = true := by simp; omega
            have u1' : decide (k < 402) = true := by simp; omega
            obtain ⟨cl, gl, hv, RL, gl1, gl2⟩ := of_owns5n H.out.own H.out.live
            subst hv
            clear RL
            go_wp2_with fail
            refine (below wr b len 4 H.out.rd (by omega) (by omega)).mono ?_
            rintro e w5 ⟨q, q1, q2, rfl, o5, r5⟩
            have W5 := Lib.hid (H.out.next o5 r5 bl)
            clear o5 r5 H
            by_cases h2 : (l.length : Int) < 398 + q
            · have u2 : decide ((l.length : Int) < 398 + q) = true := by simp; omega
              obtain ⟨cl', gl', hv', RL', gl1', gl2'⟩ := of_owns5n W5.out.own W5.out.live
              injection hv' with e1 e2 e3
              injection e1 with e1
              injection e1 with e1
              subst e1 e3
              have PGn := Lib.hid (PG.out.put (by omega) (by omega))
              have CP := Lib.hid (mp.putS w5 _ cl gl l (fp k) RL' PG.out.ss (fun i hi => PG.out.pl _ (led.getD_mem hi)) (fun i hi => by have := PG.out.nb _ (led.getD_mem hi); omega) (fp_ok (by omega)) (by show -100000000000000000 ≤ (1 : Int) ∧ (1 : Int) ≤ 100000000000000000; omega) (by omega))
              unfold fp at CP
              dsimp only at CP
              have room := RL'.room
              clear RL' h2
              go_wp2_with fail
              refine CP.out.mono ?_
              rintro e w6 ⟨c6, g6, rfl, _, _, _, b6, ow6⟩
              have W6 := Lib.hid (show Wn w w6 b len _ (led.put l (fp k)) from ⟨(W5.out.below b6 bl).only, (W5.out.below b6 bl).rd, mp.own_mono ow6 W5.out.only.size, fun h => by cases h⟩)
              clear b6 ow6 W5
              go_wp2
              go_roundw
              case rel => exact ⟨k + 1, led.put l (fp k), by go_num, by omega, PGn, W6⟩
              case measure => simp [intOf]; omega
            · have u2 : decide ((l.length : Int) < 398 + q) = false := by simp; omega
              clear h2
              go_wp2
              go_ret
              exact W5.out.gotL (by omega) fun x hx => W4.of_in (led.plok_in (PG.out.pl x hx))
          · obtain rfl : k = 402 := by omega
            go_wp2
            go_ret
            exact H.out.gotL (by omega) fun x hx => W4.of_in (led.plok_in (PG.out.pl x hx))
      · obtain ⟨cl, gl, hv, RL, gl1, gl2⟩ := of_owns5n W3.out.own W3.out.live
        subst hv
        clear RL
        by_cases h1 : 0 < l.length
        · have u2 : decide (0 < l.length) = true := by simp; omega
          go_wp2_with fail
          refine (off w3 b len (-1000000000000000) 1000000000000000 W3.out.rd (by omega) (by omega) (by omega)).mono ?_
          rintro e w4 ⟨n, _, rfl, o4, r4⟩
          have W4h := Lib.hid (W3.out.next o4 r4 bl)
          clear o4 r4 W3
          obtain ⟨cl', gl', hv', RL', gl1', gl2'⟩ := of_owns5n W4h.out.own W4h.out.live
          injection hv' with e1 e2 e3
          injection e1 with e1
          injection e1 with e1
          subst e1 e3
          have c4 := (RL'.cells 0 h1).c4
          have f4 := RL'.free h1 4
          have room := RL'.room
          simp only [Nat.zero_mul, Nat.zero_add] at c4
          obtain ⟨x, t, rfl⟩ : ∃ x t, l = x :: t := by
            cases l with
            | nil => simp at h1
            | cons x t => exact ⟨x, t, rfl⟩
          have RS := Lib.hid (setN RL' n)
          have WW := Lib.hid (lv_w4 LVL.out)
          have OS := Lib.hid (show Only b w (w4.setCell ⟨gl, 4, none⟩ (.int .i64 n)) from ⟨W4h.out.only.os, W4h.out.only.tape, W4h.out.only.output, by simp [World.setCell]; exact W4h.out.only.size, fun i hi hne => (Below.heap_setCell w4 ⟨gl, 4, none⟩ _ i (by show i ≠ gl; omega)).trans (W4h.out.only.block i hi hne)⟩)
          have RDS := Lib.hid (W4h.out.rd.below (B := w.heap.size) ((Below.refl w.heap.size w4).setCell (p := ⟨gl, 4, none⟩) gl1 (.int .i64 n)) bl)
          have SZ := Lib.hid (show gl < (w4.setCell ⟨gl, 4, none⟩ (.int .i64 n)).heap.size from by simp [World.setCell]; exact gl2')
          clear RL' LVL W4h
          go_wp2
          go_ret
          exact ⟨cl, gl, wn x n :: t, rfl, RS.out, gl1, SZ.out, by have := ll; simp only [List.length_cons] at this ⊢; omega, fun q hq => by
            rcases List.mem_cons.1 hq with rfl | hq
            · exact (WW.out x (by simp)).same (led.same_wn x n)
            · exact WW.out q (by simp [hq]), OS.out, RDS.out⟩
        · have u2 : decide (0 < l.length) = false := by rw [decide_eq_false_iff_not]; exact h1
          go_wp2
          go_ret
          exact W3.out.gotL (by omega) (lv_w4 LVL.out)
      · have t0 : (sw == 0) = false := by simp; omega
        have t1 : (sw == 1) = false := by simp; omega
        have t2 : (sw == 2) = false := by simp; omega
        go_wp2
        go_ret
        exact W3.out.gotL (by omega) (lv_w4 LVL.out)
end Go.Proofs.YtpogfdeioibkdaaGreatDoor.draw
