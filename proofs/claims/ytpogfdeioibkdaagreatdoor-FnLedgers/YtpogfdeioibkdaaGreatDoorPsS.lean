/-
  Plain helpers of this seat's proofs: the contract of the model's Posted. Conditions: none.
-/
import Derived.Test.YtpogfdeioibkdaaGreatDoorPsI
import Derived.Test.YtpogfdeioibkdaaGreatDoorPutS
namespace Go.Proofs.YtpogfdeioibkdaaGreatDoor.base
open Go.ChangeShapes Go.WideShapes Go.ChangeAt Go.RowKit
open led (F5 z5 nn)
open five (Row At)
theorem csk_bk {b : List F5} (c : Nat) : ∀ {k : Nat}, Bk b k → -(1000000000000 * (k : Int)) ≤ led.csk b c k ∧ led.csk b c k ≤ 1000000000000 * (k : Int)
  | 0, _ => by simp [led.csk]
  | k + 1, h => by
    have h1 := csk_bk c (k := k) fun i hi => h i (by omega)
    have h2 := led.inR_iff.1 (h k (by omega)).2
    rw [led.csk]
    split <;> omega
/-- The code of a batch. -/
structure Bco (b : List F5) (c : Int) : Prop where
  c2 : ¬ led.BV b → c = 2
  c3 : led.BV b → ¬ led.ZV b → c = 3
  c0 : led.BV b → led.ZV b → c = 0
theorem bco2 {b : List F5} (h : ¬ led.BV b) : Bco b 2 := ⟨fun _ => rfl, fun q => absurd q h, fun q => absurd q h⟩
theorem bco3 {b : List F5} (q : led.BV b) (h : ¬ led.ZV b) : Bco b 3 := ⟨fun n => absurd q n, fun _ _ => rfl, fun _ q => absurd q h⟩
theorem bco0 {b : List F5} (q : led.BV b) (h : led.ZV b) : Bco b 0 := ⟨fun n => absurd q n, fun _ n => absurd h n, fun _ _ => rfl⟩
def Coded (w : World) (b : List F5) (e : Ending) (w' : World) : Prop := ∃ c, e = .returned (.int .i64 c) ∧ Bco b c ∧ Below w.heap.size w w'
set_option maxRecDepth 40000 in
set_option maxHeartbeats 4000000 in
theorem bvS (w : World) (a : Option Addr) (cap g : Nat) (l : List F5) (r : Row w a cap g l) (hn : l.length ≤ 1048577) : Calls Tryz.prog 70 #[.slice a l.length cap] w (Coded w l) := by
  have R := Lib.hid r
  have e1 := r.addr
  have m1 := r.room
  clear r
  obtain ⟨n, hnz⟩ : ∃ n, n = l.length := ⟨_, rfl⟩
  rw [← hnz] at hn e1 m1 ⊢
  have HNZ := Lib.hid hnz
  clear hnz
  by_cases h20 : 20 < n
  · have t1 : decide ((20 : Int) < (n : Int)) = true := by simp; omega
    have E := Lib.hid (show ¬ led.BV l from fun h => by have := h.1; rw [← HNZ.out] at this; omega)
    clear e1
    go_enter Tryz.func70, Tryz.ntmps70
    go_wp2
    go_ret
    exact ⟨2, rfl, bco2 E.out, Below.refl _ _⟩
  · have t1 : decide ((20 : Int) < (n : Int)) = false := by simp; omega
    obtain ⟨i0, hi, hz0, hz1, hz2⟩ := info_parts infoI
    go_enter Tryz.func70, Tryz.ntmps70
    go_wp2_with (at_make; refine wpList_make_full _ rfl _ _ 99 rfl w.heap.size 2 i0 (.int .i64 0) 1 Tryz.underlying99 hi hz0 hz1 _ _ _ _ 6 rfl rfl rfl rfl ?b2 ?b3 (Nat.le_refl _) ?_)
    case b2 => (try rw [hz2]); omega
    case b3 => unfold maxLen; omega
    intro w0 hown0 hgrow0
    obtain ⟨⟨A0, hA0, hv0⟩, hg0, _⟩ := five.Blk.of_owns hown0
    have BL0 := Lib.hid hA0
    have Z0 := Lib.hid (show ∀ j, j < 6 → A0 j = .int .i64 (led.csk l j 0) from fun j hj => by
      have := hv0 j (by omega)
      rw [toList_madeCells_one, List.getElem?_replicate, if_pos (by omega)] at this
      exact (Option.some.inj this).symm)
    have B0 := Lib.hid ((Below.refl w.heap.size w).grown hgrow0 (Nat.le_refl _) (fun k h => by cases h))
    clear hown0 hgrow0 hA0 hg0 hi hz0 hz1 hz2 hv0
    go_wp2
    go_loopw [4] (fun iv wr => Hid (Below w.heap.size w wr) ∧ ∃ (k : Nat) (A : Nat → Value), k ≤ n ∧ iv = .int .i64 k ∧ Hid (five.Blk wr w.heap.size 6 A) ∧ Hid (∀ j, j < 6 → A j = .int .i64 (led.csk l j k)) ∧ Hid (Bk l k)) (fun iv _ => n - (intOf iv).toNat)
    case atStart => exact ⟨B0, 0, A0, by omega, rfl, BL0, Z0, Lib.hid fun i hi => absurd hi (by omega)⟩
    case round =>
      obtain ⟨BB, k, A, hk, rfl, AA, DD, OK⟩ := hrel
      by_cases hlt : k < n
      · have HLT := Lib.hid (show k < l.length from by rw [← HNZ.out]; exact hlt)
        obtain rfl := e1 (by omega)
        have gl := R.out.lt (by rw [← HNZ.out]; omega)
        have GL := Lib.hid gl
        have Q1 := Lib.hid ((R.out.cells k HLT.out).keep (BB.out.block g gl))
        obtain ⟨x, hx⟩ : ∃ x, x = l.getD k z5 := ⟨_, rfl⟩
        rw [← hx] at Q1
        have HX := Lib.hid hx
        clear hx gl e1
        obtain ⟨x1, x2, x3, x4, x5⟩ := Q1.out
        have z1 : (k : Int) < (n : Int) := by omega
        have u1 : decide (k < n) = true := by simp; omega
        have CA := Lib.hid (acctS x.1 x.2.1 x.2.2.1 wr)
        cases ha : led.acct x.1 x.2.1 x.2.2.1 with
        | false =>
          have E := Lib.hid (show ¬ led.BV l from fun h => by have := (h.2 k HLT.out).1; rw [← HX.out] at this; unfold led.plok at this; rw [ha] at this; cases this)
          rw [ha] at CA
          clear ha
          go_wp2_with fail
          refine CA.out.mono ?_
          rintro e w2 ⟨rfl, b2⟩
          have B2 := Lib.hid (five.Grew.step BB.out (Nat.le_refl _) b2)
          clear b2
          go_wp2
          go_ret
          exact ⟨2, rfl, bco2 E.out, B2.out⟩
        | true =>
          have HA := Lib.hid ha
          rw [ha] at CA
          clear ha
          go_wp2_with fail
          refine CA.out.mono ?_
          rintro e w2 ⟨rfl, b2⟩
          have B2 := Lib.hid (five.Grew.step BB.out (Nat.le_refl _) b2)
          have A2 := Lib.hid (AA.out.below b2.below AA.out.lt)
          have Q2 := Lib.hid (Q1.out.keep (w' := w2) (b2.below.block g Q1.out.lt))
          clear b2 x1 x2 x3 x4 x5
          obtain ⟨x1, x2, x3, x4, x5⟩ := Q2.out
          have CC := fun W => curS x.2.2.2.1 W
          cases hc : led.inR x.2.2.2.1 0 5 with
          | false =>
            have E := Lib.hid (show ¬ led.BV l from fun h => by have := (h.2 k HLT.out).1; rw [← HX.out] at this; unfold led.plok at this; rw [hc, Bool.and_false] at this; cases this)
            rw [hc] at CC
            clear hc
            go_wp2_with fail
            refine (CC _).mono ?_
            rintro e w3 ⟨rfl, rfl⟩
            clear CC
            go_wp2
            go_ret
            exact ⟨2, rfl, bco2 E.out, B2.out⟩
          | true =>
            have HC0 := Lib.hid hc
            have cur := led.inR_iff.1 hc
            rw [hc] at CC
            clear hc
            go_wp2_with fail
            refine (CC _).mono ?_
            rintro e w3 ⟨rfl, rfl⟩
            clear CC
            have CM := fun W => amtS x.2.2.2.2 W
            cases hm : led.inR x.2.2.2.2 (-1000000000000) 1000000000000 with
            | false =>
              have E := Lib.hid (show ¬ led.BV l from fun h => by have := (h.2 k HLT.out).2; rw [← HX.out] at this; unfold nn at this; rw [hm] at this; cases this)
              rw [hm] at CM
              clear hm cur
              go_wp2_with fail
              refine (CM _).mono ?_
              rintro e w3 ⟨rfl, rfl⟩
              clear CM
              go_wp2
              go_ret
              exact ⟨2, rfl, bco2 E.out, B2.out⟩
            | true =>
              have OK1 := Lib.hid (show Bk l (k + 1) from fun i hi => by
                rcases Nat.lt_succ_iff_lt_or_eq.1 hi with h | rfl
                · exact OK.out i h
                · rw [← HX.out]; exact ⟨by unfold led.plok; rw [HA.out, HC0.out]; rfl, hm⟩)
              have f0 := led.inR_iff.1 hm
              have f1 := f0.1
              have f2 := f0.2
              rw [hm] at CM
              clear hm f0
              go_wp2_with fail
              refine (CM _).mono ?_
              rintro e w3 ⟨rfl, rfl⟩
              clear CM
              obtain ⟨c, hc⟩ : ∃ c : Nat, x.2.2.2.1 = (c : Int) := Int.eq_ofNat_of_zero_le cur.1
              have c5 : c < 6 := by omega
              have sb := csk_bk (b := l) c OK.out
              obtain ⟨s, hs⟩ : ∃ s, s = led.csk l c k := ⟨_, rfl⟩
              rw [← hs] at sb
              have s1 : -20000000000000 ≤ s := by omega
              have s2 : s ≤ 20000000000000 := by omega
              have HS := Lib.hid hs
              clear sb hs cur
              rw [hc] at x4
              have HC := Lib.hid hc
              clear hc
              have o1 := (A2.out.cell c c5).trans (congrArg some (DD.out c c5))
              rw [← HS.out] at o1
              have o2 := A2.out.free c
              have c6 : (c : Int) < 6 := by omega
              have NXT := Lib.hid (show ∀ j, j < 6 → five.upd A c (.int .i64 (s + x.2.2.2.2)) j = .int .i64 (led.csk l j (k + 1)) from fun j hj => by
                unfold five.upd
                rw [led.csk, ← HX.out, HC.out]
                by_cases e : j = c
                · subst e; rw [if_pos rfl, if_pos rfl, HS.out]; rfl
                · rw [if_neg e, if_neg (by omega), DD.out j hj, Int.add_zero])
              have mixed : Tryz.prog.follows .mixedOrders = true := Tryz.checked.mixed
              go_wp2_with fail
              go_still_tail 21, mixed
              change wpList _ _ _ _ _ w2.drew
              have A3 := Lib.hid (A2.out.keep (w' := w2.drew) rfl (Nat.le_refl _))
              have B3 := Lib.hid B2.out.drew
              have o1 := (A3.out.cell c c5).trans (congrArg some (DD.out c c5))
              have o2 := A3.out.free c
              clear x1 x2 x3 x4 x5
              generalize w2.drew = w4 at A3 B3 o1 o2 ⊢
              go_wp2
              go_roundw
              case rel => exact ⟨Lib.hid (B3.out.setCell (p := ⟨w.heap.size, c, none⟩) (Nat.le_refl _) _), k + 1, _, by omega, by go_num, Lib.hid (A3.out.set c5 _), NXT, OK1⟩
              case measure => simp [intOf]; omega
      · have u1 : decide (k < n) = false := by simp; omega
        obtain rfl : k = n := by omega
        have BVT := Lib.hid (show led.BV l from ⟨by rw [← HNZ.out]; omega, fun i hi => OK.out i (by rw [HNZ.out]; exact hi)⟩)
        clear e1
        go_wp2
        go_loopw [5] (fun iv wx => wx = wr ∧ ∃ j : Nat, j ≤ 6 ∧ iv = .int .i64 j ∧ Hid (∀ i, i < j → led.csk l i l.length = 0)) (fun iv _ => 6 - (intOf iv).toNat)
        case atStart => exact ⟨rfl, 0, by omega, rfl, Lib.hid fun i hi => absurd hi (by omega)⟩
        case round =>
          obtain ⟨rfl, j, hj, rfl, ZZ⟩ := hrel
          by_cases hl6 : j < 6
          · have o1 := (AA.out.cell j hl6).trans (congrArg some (DD.out j hl6))
            obtain ⟨s, hs⟩ : ∃ s, s = led.csk l j k := ⟨_, rfl⟩
            rw [← hs] at o1
            have HS := Lib.hid (show s = led.csk l j l.length from by rw [hs, HNZ.out])
            clear hs
            have u2 : decide ((j : Int) < 6) = true := by simp; omega
            have z2 : (j : Int) < 6 := by omega
            by_cases h0 : s = 0
            · have NX := Lib.hid (show ∀ i, i < j + 1 → led.csk l i l.length = 0 from fun i hi => by
                rcases Nat.lt_succ_iff_lt_or_eq.1 hi with h | rfl
                · exact ZZ.out i h
                · rw [← HS.out]; exact h0)
              have t0 : (s != 0) = false := by simp [h0]
              clear h0
              go_wp2
              go_roundw
              case rel => exact ⟨trivial, j + 1, by omega, by go_num, NX⟩
              case measure => simp [intOf]; omega
            · have NZ := Lib.hid (mp.zv_not hl6 (by rw [← HS.out]; exact h0))
              have t0 : (s != 0) = true := by simp [h0]
              clear h0
              go_wp2
              go_ret
              exact ⟨3, rfl, bco3 BVT.out NZ.out, BB.out⟩
          · obtain rfl : j = 6 := by omega
            have ZT := Lib.hid (mp.zv_of ZZ.out)
            go_wp2
            go_ret
            exact ⟨0, rfl, bco0 BVT.out ZT.out, BB.out⟩
end Go.Proofs.YtpogfdeioibkdaaGreatDoor.base

namespace Go.Proofs.YtpogfdeioibkdaaGreatDoor.draw
open Go.ChangeShapes Go.WideShapes Go.ChangeAt Go.RowKit
open led (F5 z5)
open five (Row At Blk)
theorem fl_len (l : List F5) : (fl l).length = l.length * 5 := by
  induction l with
  | nil => rfl
  | cons x l ih => show (fl l).length + 1 + 1 + 1 + 1 + 1 = _; rw [ih, List.length_cons]; omega
theorem fl_one : ∀ (l : List F5), ∀ u ∈ fl l, u.oneCell' = true
  | [], u, h => by simp [fl] at h
  | x :: l, u, h => by
    simp only [fl, List.mem_cons] at h
    rcases h with rfl | rfl | rfl | rfl | rfl | h
    all_goals first | rfl | exact fl_one l u h
theorem add0 (g j : Nat) : (⟨g, 0, none⟩ : Addr).add j = ⟨g, j, none⟩ := by
  unfold Addr.add
  by_cases h : j = 0 <;> simp [h]
theorem fl_news {w : World} {g : Nat} {l : List F5} (hc : ∀ i, i < l.length → At w g (i * 5) (l.getD i z5)) : ∀ j u, (fl l)[j]? = some u → w.cell? ((⟨g, 0, none⟩ : Addr).add j) = some u := by
  intro j u hj
  rw [add0]
  have hlt : j < l.length * 5 := by rw [← fl_len]; exact (List.getElem?_eq_some_iff.1 hj).1
  have e : j / 5 * 5 + j % 5 = j := by omega
  have m : j % 5 < 5 := Nat.mod_lt _ (by omega)
  have h1 := fl_get l (j / 5) (j % 5) (by omega) m
  have ha := hc (j / 5) (by omega)
  have key : w.cell? ⟨g, j / 5 * 5 + j % 5, none⟩ = some (cz (l.getD (j / 5) z5) (j % 5)) := by
    generalize j % 5 = k at m
    match k, m with
    | 0, _ => exact ha.c0
    | 1, _ => exact ha.c1
    | 2, _ => exact ha.c2
    | 3, _ => exact ha.c3
    | 4, _ => exact ha.c4
  rw [e] at h1 key
  rw [hj] at h1
  rw [key, ← h1]
end Go.Proofs.YtpogfdeioibkdaaGreatDoor.draw
namespace Go.Proofs.YtpogfdeioibkdaaGreatDoor.mp
open Go.ChangeShapes Go.WideShapes Go.ChangeAt Go.RowKit
open led (F5 z5 nn wn Pst puts put)
open five (Row At Blk)
theorem put_bound {m B : Int} : ∀ {L : List F5} {p : F5}, 0 ≤ m → (∀ x ∈ L, -m ≤ nn x ∧ nn x ≤ m) → -B ≤ nn p ∧ nn p ≤ B → ∀ x ∈ put L p, -(m + B) ≤ nn x ∧ nn x ≤ m + B
  | [], p, hm, _, hp, x, hx => by
    unfold put at hx
    split at hx
    · simp at hx
    · simp at hx; rw [hx]; omega
  | y :: l, p, hm, h, hp, x, hx => by
    have hy := h y (by simp)
    unfold put at hx
    split at hx
    · rcases List.mem_cons.1 hx with rfl | hx
      · omega
      · exact put_bound hm (fun z hz => h z (by simp [hz])) hp x hx
    · split at hx
      · split at hx
        · have := h x (by simp [hx]); omega
        · rcases List.mem_cons.1 hx with rfl | hx
          · rw [led.nn_wn]; omega
          · have := h x (by simp [hx]); omega
      · split at hx
        · have := h x hx; omega
        · rcases List.mem_cons.1 hx with rfl | hx
          · omega
          · have := h x hx; omega
/-- The first k posts of a batch, put one by one. -/
def pk (l b : List F5) (k : Nat) : List F5 := puts l (b.take k)
theorem pk_zero (l b : List F5) : pk l b 0 = l := by simp [pk, puts]
theorem pk_all (l b : List F5) : pk l b b.length = puts l b := by unfold pk; rw [List.take_length]
theorem pk_succ (l : List F5) {b : List F5} {k : Nat} (h : k < b.length) : pk l b (k + 1) = put (pk l b k) (b.getD k z5) := by
  unfold pk puts
  rw [led.take_succ5 h, List.foldl_append]; rfl
theorem pk_len (l : List F5) {b : List F5} {k : Nat} (hk : k ≤ b.length) : (pk l b k).length ≤ l.length + k := by
  have := led.puts_len (b.take k) l
  have e : (b.take k).length = k := by simp; omega
  unfold pk
  omega
theorem pk_ss {l : List F5} (h : led.LV l) (b : List F5) (k : Nat) : led.SS (pk l b k) := led.puts_SS (led.LV_SS h)
theorem pk_plok {l b : List F5} (h : led.LV l) (hb : led.BV b) (k : Nat) : ∀ x ∈ pk l b k, led.plok x = true := fun x hx =>
  (led.puts_ok (l := l) (b := b.take k) (fun _ hx => ⟨(led.LV_mem h hx).1, (led.LV_mem h hx).2.1⟩) (fun _ hx => (led.BV_mem hb (List.mem_of_mem_take hx)).1) x hx).1
theorem pk_bound {l b : List F5} (h : led.LV l) (hb : led.BV b) : ∀ k, k ≤ b.length → ∀ x ∈ pk l b k, -(1000000000000000 + 1000000000000 * (k : Int)) ≤ nn x ∧ nn x ≤ 1000000000000000 + 1000000000000 * (k : Int)
  | 0, _, x, hx => by
    rw [pk_zero] at hx
    have := led.inR_iff.1 (led.LV_mem h hx).2.2
    omega
  | k + 1, hk, x, hx => by
    rw [pk_succ l (by omega)] at hx
    have := put_bound (B := 1000000000000) (by omega) (pk_bound h hb k (by omega)) (led.inR_iff.1 (hb.2 k (by omega)).2) x hx
    omega
theorem bco_pst {l b : List F5} {c : Int} (h : led.LV l) (hc : base.Bco b c) : (c = 2 → Pst l b [] 2) ∧ (c = 3 → Pst l b [] 3) ∧ (c = 0 → led.BV b ∧ led.ZV b) ∧ (c = 2 ∨ c = 3 ∨ c = 0) := by
  by_cases q2 : led.BV b
  · by_cases q3 : led.ZV b
    · have e := hc.c0 q2 q3
      subst e
      exact ⟨fun h => by omega, fun h => by omega, fun _ => ⟨q2, q3⟩, by omega⟩
    · have e := hc.c3 q2 q3
      subst e
      exact ⟨fun h => by omega, fun _ => led.mk3 h q2 q3, fun h => by omega, by omega⟩
  · have e := hc.c2 q2
    subst e
    exact ⟨fun _ => led.mk2 h q2, fun h => by omega, fun h => by omega, by omega⟩
/-- The list as it stands behind k posts. -/
def Pk (w wr : World) (l b : List F5) (k : Nat) (v : Value) : Prop := ∃ cap g, v = .slice (some ⟨g, 0, none⟩) (pk l b k).length cap ∧ Row wr (some ⟨g, 0, none⟩) cap g (pk l b k) ∧ w.heap.size ≤ g ∧ g < wr.heap.size ∧ wr.ownsRow w.heap.size 36 5 v (pk l b k).length (draw.fl (pk l b k))
/-- The list and the code; with code 0 the list is owned and not nil. -/
def Psd2 (w : World) (l b : List F5) (e : Ending) (w' : World) : Prop := ∃ v, e = .returned (.tuple #[v, .int .i64 (pc l b)]) ∧ (pc l b = 0 → w'.ownsRow w.heap.size 36 5 v (pr l b).length (draw.fl (pr l b)) ∧ v ≠ .slice none 0 0) ∧ (pc l b ≠ 0 → v = .slice none 0 0 ∧ pr l b = []) ∧ Below w.heap.size w w'
theorem psd2_no {w w' : World} {l b : List F5} {c : Int} (h : Pst l b [] c) (hc : c ≠ 0) (hb : Below w.heap.size w w') : Psd2 w l b (.returned (.tuple #[.slice none 0 0, .int .i64 c])) w' := by
  obtain ⟨h1, h2⟩ := pst_is h
  exact ⟨_, by rw [h2], fun q => absurd (h2.symm.trans q) hc, fun _ => ⟨rfl, h1⟩, hb⟩
theorem psd2_yes {w w' : World} {l b r : List F5} {v : Value} (h : Pst l b r 0) (ho : w'.ownsRow w.heap.size 36 5 v r.length (draw.fl r)) (hv : v ≠ .slice none 0 0) (hb : Below w.heap.size w w') : Psd2 w l b (.returned (.tuple #[v, .int .i64 0])) w' := by
  obtain ⟨e1, e2⟩ := pst_is h
  exact ⟨v, by rw [e2], fun _ => ⟨by rw [e1]; exact ho, hv⟩, fun q => absurd e2 q, hb⟩
theorem Psd2.weak {w w' : World} {l b : List F5} {e : Ending} (h : Psd2 w l b e w') : Psd w l b e w' := by
  obtain ⟨v, he, h1, h2, hb⟩ := h
  by_cases q : pc l b = 0
  · obtain ⟨ho, hv⟩ := h1 q
    obtain ⟨cap, g, rfl, R, g1, g2⟩ := draw.of_owns5n ho hv
    exact ⟨_, cap, g, he, R, fun _ => ⟨g1, g2⟩, hb⟩
  · obtain ⟨rfl, e1⟩ := h2 q
    exact ⟨none, 0, 0, by rw [he, e1]; rfl, by rw [e1]; exact Row.nil w', fun hp => absurd hp (by rw [e1]; simp), hb⟩
set_option maxRecDepth 40000 in
set_option maxHeartbeats 8000000 in
theorem psS2 (w : World) (a' : Option Addr) (cap cap' g g' : Nat) (l b : List F5) (r : Row w (some ⟨g, 0, none⟩) cap g l) (hg : g < w.heap.size) (r' : Row w a' cap' g' b) (hn : l.length ≤ 1048577) (hn' : b.length ≤ 1048577) :
    Calls Tryz.prog 42 #[.slice (some ⟨g, 0, none⟩) l.length cap, .slice a' b.length cap'] w (Psd2 w l b) := by
  have R := Lib.hid r
  have R' := Lib.hid r'
  have KL := Lib.hid (show ∀ w', Below w.heap.size w w' → Row w' (some ⟨g, 0, none⟩) cap g l from fun w' hb => R.out.keep fun h => hb.block g (R.out.lt h))
  have KB := Lib.hid (show ∀ w', Below w.heap.size w w' → Row w' a' cap' g' b from fun w' hb => R'.out.keep fun h => hb.block g' (R'.out.lt h))
  have CL := Lib.hid (base.lgS w _ cap g l r hn)
  have CB := Lib.hid (show ∀ w', Below w.heap.size w w' → _ from fun w' hb => base.bvS w' a' cap' g' b (KB.out w' hb) hn')
  have m1 := r.room
  have e1 := r'.addr
  have m2 := r'.room
  clear r r'
  cases hv : led.lv l with
  | false =>
    have P := Lib.hid (led.mk1 (b := b) (led.lv_not.1 hv))
    rw [hv] at CL
    clear hv e1
    go_enter Tryz.func42, Tryz.ntmps42
    go_wp2_with fail
    refine CL.out.mono ?_
    rintro e w1 ⟨rfl, b1⟩
    have B1 := Lib.hid b1
    clear b1
    go_wp2
    go_ret2
    exact psd2_no P.out (by decide) B1.out
  | true =>
    have LVT := Lib.hid (led.lv_iff.1 hv)
    have ll := LVT.out.1
    rw [hv] at CL
    clear hv
    obtain ⟨i5, hi, hz0, hz1, hz2⟩ := info_parts five.infoE
    go_enter Tryz.func42, Tryz.ntmps42
    go_wp2_with fail
    refine CL.out.mono ?_
    rintro e w1 ⟨rfl, b1⟩
    have B1 := Lib.hid b1
    clear b1
    go_wp2_with fail
    refine (CB.out w1 B1.out).mono ?_
    rintro e w2 ⟨c, rfl, hc, b2⟩
    have B2 := Lib.hid (B1.out.trans (b2.mono B1.out.size))
    have BC := bco_pst LVT.out hc
    clear b2 hc
    rcases BC.2.2.2 with rfl | rfl | rfl
    · have P := Lib.hid (BC.1 rfl)
      clear BC e1
      go_wp2
      go_ret2
      exact psd2_no P.out (by decide) B2.out
    · have P := Lib.hid (BC.2.1 rfl)
      clear BC e1
      go_wp2
      go_ret2
      exact psd2_no P.out (by decide) B2.out
    · have BVT := Lib.hid (BC.2.2.1 rfl).1
      have ZVT := Lib.hid (BC.2.2.1 rfl).2
      have lb := BVT.out.1
      have g2 : g < w2.heap.size := Nat.lt_of_lt_of_le hg B2.out.size
      have R2 := Lib.hid (KL.out w2 B2.out)
      have OW := Lib.hid (show (w2.alloc (.cells #[] 36)).ownsRow w2.heap.size 36 5 (.slice (some ⟨w2.heap.size, 0, none⟩) 0 0) 0 [] from ⟨rfl, .inr ⟨w2.heap.size, 0, #[], rfl, Nat.le_refl _, heap_alloc_new w2 _, Nat.le_refl _, Nat.zero_le _, rfl, rfl⟩⟩)
      have NEWS := Lib.hid (draw.fl_news (w := w2.alloc (.cells #[] 36)) (g := g) (l := l) fun i hi => (R2.out.cells i hi).keep (Below.heap_alloc w2 _ g g2))
      have fll := draw.fl_len l
      clear BC
      go_wp2_with (at_builtin; refine wpList_append_own_at _ rfl _ _ 24 rfl w2.heap.size 36 i5 (.agg #[.int .i64 0, .int .i64 0, .int .i64 0, .int .i64 0, .int .i64 0]) 5 40 Tryz.underlying24 hi hz0 hz1 hz2 rfl (by decide) _ _ _ rfl OW.out ⟨g, 0, none⟩ l.length cap (draw.fl l) rfl fll NEWS.out (draw.fl_one l) (by unfold maxLen; omega) (by omega) (by simp) ?_)
      intro v3 w3 hown3 hgrow3 hnil3 _
      obtain ⟨c3, g3, hv3, R3, q1, q2⟩ := draw.of_owns5n hown3 hnil3
      subst hv3
      have B3 := Lib.hid (show Below w.heap.size w w3 from (B2.out.alloc B2.out.size _).grown hgrow3 (by simp; have := B2.out.size; omega) (fun j hj => by cases hj; exact B2.out.size))
      have P3 := Lib.hid (show Pk w w3 l b 0 (.slice (some ⟨g3, 0, none⟩) l.length c3) from ⟨c3, g3, by rw [pk_zero], by rw [pk_zero]; exact R3, Nat.le_trans B2.out.size q1, q2, by rw [pk_zero]; exact own_mono hown3 B2.out.size⟩)
      obtain ⟨n, hnz⟩ : ∃ n, n = b.length := ⟨_, rfl⟩
      rw [← hnz] at lb e1 m2 ⊢
      have HNZ := Lib.hid hnz
      clear hnz hown3 hgrow3 hnil3 R3 q1 q2 fll hi hz0 hz1 hz2
      go_wp2
      go_loopw [7, 8] (fun v vi wr => ∃ k : Nat, k ≤ n ∧ vi = .int .i64 k ∧ Hid (Pk w wr l b k v) ∧ Hid (Below w.heap.size w wr)) (fun _ vi _ => n - (intOf vi).toNat)
      case atStart => exact ⟨0, by omega, rfl, P3, B3⟩
      case round =>
        obtain ⟨k, hk, rfl, PK, BB⟩ := hrel
        have lpk := pk_len l (b := b) (k := k) (by rw [← HNZ.out]; exact hk)
        obtain ⟨ck, gk, hvk, RK, q1, q2, ok0⟩ := PK.out
        subst hvk
        by_cases hlt : k < n
        · have HLT := Lib.hid (show k < b.length from by rw [← HNZ.out]; exact hlt)
          obtain rfl := e1 (by omega)
          have NX := Lib.hid (pk_succ l HLT.out)
          have qx := (KB.out wr BB.out).cells k HLT.out
          obtain ⟨x, hx⟩ : ∃ x, x = b.getD k z5 := ⟨_, rfl⟩
          have bx := BVT.out.2 k HLT.out
          rw [← hx] at qx NX bx
          have bx2 := led.inR_iff.1 bx.2
          have SSk := pk_ss LVT.out b k
          have PLk := pk_plok LVT.out BVT.out k
          have BDk := pk_bound LVT.out BVT.out k (Nat.le_of_lt HLT.out)
          obtain ⟨L, hL⟩ : ∃ L, L = pk l b k := ⟨_, rfl⟩
          rw [← hL] at RK lpk NX SSk PLk BDk ⊢
          have CP := Lib.hid (putS wr _ ck gk L x RK SSk (fun i hi => PLk _ (led.getD_mem hi)) (fun i hi => by have := BDk _ (led.getD_mem hi); omega) bx.1 (by omega) (by omega))
          have rm := RK.room
          obtain ⟨x1, x2, x3, x4, x5⟩ := qx
          have z1 : (k : Int) < (n : Int) := by omega
          have u1 : decide (k < n) = true := by simp; omega
          clear hx bx bx2 SSk PLk BDk RK hL e1 PK ok0
          go_wp2_with fail
          refine CP.out.mono ?_
          rintro e w5 ⟨c5, g5, rfl, R5, h1, h2, b5, ow5⟩
          have B5 := Lib.hid (BB.out.trans (b5.mono BB.out.size))
          have P5 := Lib.hid (show Pk w w5 l b (k + 1) (.slice (some ⟨g5, 0, none⟩) (put L x).length c5) from ⟨c5, g5, by rw [NX.out], by rw [NX.out]; exact R5, Nat.le_trans BB.out.size h1, h2, by rw [NX.out]; exact own_mono ow5 BB.out.size⟩)
          clear R5 h1 h2 b5 ow5 x1 x2 x3 x4 x5
          go_wp2
          go_roundw
          case rel => exact ⟨k + 1, by omega, by go_num, P5, B5⟩
          case measure => simp [intOf]; omega
        · obtain rfl : k = n := by omega
          have u1 : decide (k < k) = false := by simp
          have PU := Lib.hid (show pk l b k = puts l b from by rw [HNZ.out, pk_all])
          obtain ⟨L, hL⟩ : ∃ L, L = pk l b k := ⟨_, rfl⟩
          rw [← hL] at RK lpk PU ok0 ⊢
          have OK0 := Lib.hid ok0
          have CK := Lib.hid (base.lgS wr _ ck gk L RK (by omega))
          clear e1 hL RK PK ok0
          cases hv : led.lv L with
          | false =>
            have P := Lib.hid (led.mk4 LVT.out BVT.out ZVT.out (by rw [← PU.out]; exact led.lv_not.1 hv))
            rw [hv] at CK
            clear hv
            go_wp2_with fail
            refine CK.out.mono ?_
            rintro e w7 ⟨rfl, b7⟩
            have B7 := Lib.hid (BB.out.trans (b7.mono BB.out.size))
            clear b7
            go_wp2
            go_ret2
            exact psd2_no P.out (by decide) B7.out
          | true =>
            have P := Lib.hid (show Pst l b L 0 from by rw [PU.out]; exact led.mk0 LVT.out BVT.out ZVT.out (by rw [← PU.out]; exact led.lv_iff.1 hv))
            rw [hv] at CK
            clear hv
            go_wp2_with fail
            refine CK.out.mono ?_
            rintro e w7 ⟨rfl, b7⟩
            have B7 := Lib.hid (BB.out.trans (b7.mono BB.out.size))
            have R7 := Lib.hid (draw.owns_keep (wr' := w7) OK0.out fun j hj => b7.block j (draw.own_lt OK0.out j hj))
            clear b7
            go_wp2
            go_ret2
            exact psd2_yes P.out R7.out (fun h => by cases h) B7.out
theorem psS (w : World) (a' : Option Addr) (cap cap' g g' : Nat) (l b : List F5) (r : Row w (some ⟨g, 0, none⟩) cap g l) (hg : g < w.heap.size) (r' : Row w a' cap' g' b) (hn : l.length ≤ 1048577) (hn' : b.length ≤ 1048577) :
    Calls Tryz.prog 42 #[.slice (some ⟨g, 0, none⟩) l.length cap, .slice a' b.length cap'] w (Psd w l b) :=
  (psS2 w a' cap cap' g g' l b r hg r' hn hn').mono fun _ _ h => h.weak
end Go.Proofs.YtpogfdeioibkdaaGreatDoor.mp
