/-
  Plain helpers of this seat's proofs: what both sides read as a ledger; the model's function. Conditions: none.
-/
import Derived.Test.YtpogfdeioibkdaaGreatDoorLns
import Derived.Test.YtpogfdeioibkdaaGreatDoorRps
import Derived.Test.YtpogfdeioibkdaaGreatDoorLtt
import Derived.Test.YtpogfdeioibkdaaGreatDoorFl
namespace Go.Proofs.YtpogfdeioibkdaaGreatDoor.ptm
open Go.ChangeShapes Go.WideShapes Go.ChangeAt Go.RowKit
open led (F5 z5)
open five (Row)
def ps (ls : List (List UInt8)) : List F5 := ls.map fun x => (rd x).1
def okl (ls : List (List UInt8)) : Bool := ls.all fun x => (rd x).2
noncomputable def rl (s : List UInt8) : List F5 × Bool := if okl (ln s).1 = true ∧ (ln s).2 = true ∧ led.lv (ps (ln s).1) = true then (ps (ln s).1, true) else ([], false)
theorem okl_iff {ls : List (List UInt8)} : okl ls = true ↔ ∀ x ∈ ls, (rd x).2 = true := by unfold okl; simp
theorem ps_ptx {ls : List (List UInt8)} (h : okl ls = true) : (ps ls).map ptx = ls := by
  unfold ps
  rw [List.map_map]
  have : ∀ x ∈ ls, (ptx ∘ fun x => (rd x).1) x = x := fun x hx => (rd_yes (okl_iff.1 h x hx)).2
  rw [List.map_congr_left this]
  simp
/-- With all lines read, the text of what was read is the text again exactly if it is a ledger and the last line is ended. -/
theorem ltx_back {s : List UInt8} (h : okl (ln s).1 = true) (he : (ln s).2 = true) : ltx (ps (ln s).1) = s := by
  have e := ln_join s he
  have p := ps_ptx h
  unfold ltx
  have : ∀ l : List F5, (l.map fun x => ptx x ++ [10]) = (l.map ptx).map (· ++ [10]) := fun l => by rw [List.map_map]; rfl
  rw [this, p]
  exact e
theorem rl_yes {s : List UInt8} (h1 : okl (ln s).1 = true) (h2 : (ln s).2 = true) (h3 : led.lv (ps (ln s).1) = true) : rl s = (ps (ln s).1, true) := if_pos ⟨h1, h2, h3⟩
theorem rl_no {s : List UInt8} (h : ¬ (okl (ln s).1 = true ∧ (ln s).2 = true ∧ led.lv (ps (ln s).1) = true)) : rl s = ([], false) := if_neg h
theorem rl_long {s : List UInt8} (h : 30000 < s.length) : rl s = ([], false) := by
  refine rl_no ?_
  rintro ⟨h1, h2, h3⟩
  have e := ltx_back h1 h2
  have l1 := lv_len h3
  have l2 := ltx_len (l := ps (ln s).1) (fun k hk => fine_pok h3 hk) _ (Nat.le_refl _)
  rw [List.take_of_length_le (Nat.le_refl _), e] at l2
  omega
theorem ltxt_eq {s : List UInt8} (h : okl (ln s).1 = true) : (ltxt (ps (ln s).1) = s) ↔ ((ln s).2 = true ∧ led.lv (ps (ln s).1) = true) := by
  constructor
  · intro e
    unfold ltxt at e
    cases hv : led.lv (ps (ln s).1) with
    | true =>
      rw [hv, if_pos rfl] at e
      have q := ln_ltx (ps (ln s).1)
      rw [e] at q
      exact ⟨by rw [q], rfl⟩
    | false =>
      rw [hv, if_neg (by simp)] at e
      rw [← e] at hv
      exfalso
      have : led.lv [] = true := led.lv_t ⟨by simp, fun i hi => by simp at hi⟩
      rw [show ps (ln []).1 = [] from rfl, this] at hv
      cases hv
  · rintro ⟨h2, h3⟩
    unfold ltxt
    rw [if_pos h3]
    exact ltx_back h h2
def GotR (s : List UInt8) (w : World) (e : Ending) (w' : World) : Prop := ∃ a cap g, e = .returned (.tuple #[.slice a (rl s).1.length cap, .bool (rl s).2]) ∧ Row w' a cap g (rl s).1 ∧ (0 < (rl s).1.length → w.heap.size ≤ g ∧ g < w'.heap.size) ∧ Below w.heap.size w w'
theorem gotR_no {s : List UInt8} {w w' : World} (h : rl s = ([], false)) (hb : Below w.heap.size w w') : GotR s w (.returned (.tuple #[.slice none 0 0, .bool false])) w' :=
  ⟨none, 0, 0, by rw [h]; rfl, by rw [h]; exact Row.nil w', by rw [h]; exact fun h => absurd h (by simp), hb⟩
theorem own_new5 (w : World) : (w.alloc (.cells #[] 36)).ownsRow w.heap.size 36 5 (.slice (some ⟨w.heap.size, 0, none⟩) 0 0) 0 [] := by
  refine ⟨rfl, .inr ⟨w.heap.size, 0, #[], rfl, Nat.le_refl _, ?_, Nat.le_refl _, Nat.zero_le _, rfl, rfl⟩⟩
  show (w.heap.push _)[w.heap.size]? = _
  simp
theorem ps_snoc (ls : List (List UInt8)) (x : List UInt8) : ps (ls ++ [x]) = ps ls ++ [(rd x).1] := by simp [ps]
theorem ps_len (ls : List (List UInt8)) : (ps ls).length = ls.length := by simp [ps]
set_option maxRecDepth 20000 in
set_option maxHeartbeats 8000000 in
theorem rlS (s : List UInt8) (w : World) (hz : s.length ≤ 1048576) : Calls Tryz.prog 9 #[.string ⟨s.toArray⟩] w (GotR s w) := by
  by_cases hlong : 30000 < s.length
  · have N := Lib.hid (rl_long hlong)
    have t1 : decide ((30000 : Int) < (s.length : Int)) = true := by simp; omega
    have t1' : decide (30000 < s.length) = true := by simp; omega
    go_enter Tryz.func9, Tryz.ntmps9
    go_wp2
    go_ret2
    exact gotR_no N.out (Below.refl _ _)
  · have t1 : decide ((30000 : Int) < (s.length : Int)) = false := by simp; omega
    have t1' : decide (30000 < s.length) = false := by simp; omega
    have LS := Lib.hid (linesS s w hz)
    have YE := Lib.hid (fun h1 h2 h3 => rl_yes (s := s) h1 h2 h3)
    have NO := Lib.hid (fun h => rl_no (s := s) h)
    have LL := Lib.hid (show (ln s).1.length ≤ 30000 from Nat.le_trans (ln_len s) (by omega))
    have WL := Lib.hid (show ∀ x ∈ (ln s).1, x.length ≤ 1048576 from by
      have key : ∀ (l : List UInt8) (x : List UInt8), x ∈ (ln l).1 → x.length ≤ l.length := by
        intro l
        induction l with
        | nil => intro x h; simp [ln] at h
        | cons b l ih =>
          intro x h
          simp only [ln] at h
          split at h
          · rcases List.mem_cons.1 h with h | h
            · subst h; simp
            · have := ih x h; simp; omega
          · cases q : (ln l).1 with
            | nil => rw [q] at h; simp at h; subst h; simp
            | cons v r =>
              rw [q] at h
              rcases List.mem_cons.1 h with h | h
              · subst h; have := ih v (by rw [q]; simp); simp; omega
              · have := ih x (by rw [q]; exact List.mem_cons_of_mem _ h); simp; omega
      exact fun x hx => Nat.le_trans (key s x hx) hz)
    obtain ⟨ls, hls⟩ : ∃ ls, ls = (ln s).1 := ⟨_, rfl⟩
    obtain ⟨en, hen⟩ : ∃ en, en = (ln s).2 := ⟨_, rfl⟩
    unfold GotL at LS
    rw [← hls, ← hen] at LS
    rw [← hls] at LL WL
    rw [← hls, ← hen] at YE NO
    obtain ⟨n, hn⟩ : ∃ n, n = ls.length := ⟨_, rfl⟩
    have HN := Lib.hid hn
    have nl : n ≤ 30000 := by rw [hn]; exact LL.out
    obtain ⟨i0, hi, hz0, hz1, hz2⟩ := info_parts five.infoE
    clear hls hen hn hlong hz
    go_enter Tryz.func9, Tryz.ntmps9
    go_wp2_with fail
    refine LS.out.mono ?_
    rintro e w1 ⟨v, rfl, own, b1⟩
    obtain ⟨a, cap, g, rfl, row, hg⟩ := of_owns own
    rw [← HN.out] at row hg ⊢
    have RW := Lib.hid row
    have HG := Lib.hid hg
    have B1 := Lib.hid b1
    have sz1 := b1.size
    have ea := row.addr
    have er := row.room
    have ON := Lib.hid (own_new5 w1)
    have B2 := Lib.hid (B1.out.alloc sz1 (.cells #[] 36))
    have zA : (w1.alloc (.cells #[] 36)).heap.size = w1.heap.size + 1 := World.size_alloc _ _
    have SM := Lib.hid (show Below w1.heap.size w1 (w1.alloc (.cells #[] 36)) from (Below.refl _ _).alloc (Nat.le_refl _) _)
    clear own b1 row hg LS
    go_wp2
    go_loopw [6, 7] (fun o i wr => Below w.heap.size w wr ∧ Below w1.heap.size w1 wr ∧ ∃ k : Nat, k ≤ n ∧ i = .int .i64 k ∧ wr.ownsRow w1.heap.size 36 5 o k (draw.fl (ps (ls.take k))) ∧ o ≠ .slice none 0 0 ∧ okl (ls.take k) = true) (fun _ i _ => n - (intOf i).toNat)
    case atStart => exact ⟨B2.out, SM.out, 0, by omega, rfl, ON.out, (by intro h; cases h), rfl⟩
    case round =>
      obtain ⟨hB, hB1, k, hk, rfl, hown, hne, hok⟩ := hrel
      have BB := Lib.hid hB
      have BC := Lib.hid hB1
      have OWN := Lib.hid hown
      have NE := Lib.hid hne
      have OK := Lib.hid hok
      have hsz := hB.size
      have hsz1 := hB1.size
      clear hB hB1 hown hne hok ON B2 SM
      by_cases hlt : k < n
      · have u1 : decide (k < n) = true := by simp; omega
        have z1 : (k : Int) < (n : Int) := by omega
        have ee := ea (by omega)
        subst ee
        have gl := (HG.out (by omega)).2
        have q1 := (BC.out.cell (p := ⟨g, k, none⟩) (by show g < _; omega)).trans (RW.out.cells k hlt)
        obtain ⟨x, hx⟩ : ∃ x, x = ls.getD k [] := ⟨_, rfl⟩
        rw [← hx] at q1
        have hm : x ∈ ls := by
          have h : k < ls.length := by rw [← HN.out]; exact hlt
          rw [hx, List.getD_eq_getElem?_getD, List.getElem?_eq_getElem h]
          exact List.getElem_mem h
        have TK := Lib.hid (show ls.take (k + 1) = ls.take k ++ [x] from by
          have h : k < ls.length := by rw [← HN.out]; exact hlt
          rw [List.take_add_one, List.getElem?_eq_getElem h, hx, List.getD_eq_getElem?_getD, List.getElem?_eq_getElem h]
          rfl)
        have MX := Lib.hid hm
        have RD := Lib.hid (fun W => readS x W (WL.out x hm))
        rw [rd_same] at RD
        obtain ⟨p, hp⟩ : ∃ p, p = (rd x).1 := ⟨_, rfl⟩
        obtain ⟨t, ht⟩ : ∃ t, t = (rd x).2 := ⟨_, rfl⟩
        rw [← hp, ← ht] at RD
        have HP := Lib.hid hp
        have HT := Lib.hid ht
        unfold pv at RD
        clear hx hm hp ht
        go_wp2_with fail
        refine (RD.out _).mono ?_
        rintro e w2 ⟨rfl, b2⟩
        have B3 := Lib.hid (BB.out.trans (b2.mono BB.out.size))
        have C3 := Lib.hid (BC.out.trans (b2.mono BC.out.size))
        have O3 := Lib.hid (own_bel OWN.out b2)
        have z3 := b2.size
        clear b2 q1 BB BC OWN
        have PBX := Lib.hid (PF.new w2 p 36)
        have BX := Lib.hid (B3.out.alloc B3.out.size (.cells #[.int .i64 p.1, .int .i64 p.2.1, .int .i64 p.2.2.1, .int .i64 p.2.2.2.1, .int .i64 p.2.2.2.2] 36))
        have CX := Lib.hid (C3.out.alloc C3.out.size (.cells #[.int .i64 p.1, .int .i64 p.2.1, .int .i64 p.2.2.1, .int .i64 p.2.2.2.1, .int .i64 p.2.2.2.2] 36))
        have OX := Lib.hid (own_bel O3.out ((Below.refl w2.heap.size w2).alloc (Nat.le_refl _) (.cells #[.int .i64 p.1, .int .i64 p.2.1, .int .i64 p.2.2.1, .int .i64 p.2.2.2.1, .int .i64 p.2.2.2.2] 36)))
        have zX : (w2.alloc (.cells #[.int .i64 p.1, .int .i64 p.2.1, .int .i64 p.2.2.1, .int .i64 p.2.2.2.1, .int .i64 p.2.2.2.2] 36)).heap.size = w2.heap.size + 1 := World.size_alloc _ _
        cases t with
        | false =>
          have N := Lib.hid (NO.out (fun q => by have := okl_iff.1 q.1 x MX.out; rw [← HT.out] at this; cases this))
          go_wp2
          go_ret2
          exact gotR_no N.out BX.out
        | true =>
          obtain ⟨v0, v1, v2, v3, v4⟩ := PBX.out.pb
          have mm : k + 1 ≤ maxLen := by unfold maxLen; omega
          clear PBX B3 C3 O3
          go_wp2_with (at_builtin; refine wpList_append_own _ rfl _ _ 24 rfl w1.heap.size 36 i0 (.agg #[.int .i64 0, .int .i64 0, .int .i64 0, .int .i64 0, .int .i64 0]) 5 40 Tryz.underlying24 hi hz0 hz1 hz2 rfl (by decide) _ _ _ rfl (OX.out.alloc _) ⟨w2.heap.size + 1, 0, none⟩ 1 1 [.int .i64 p.1, .int .i64 p.2.1, .int .i64 p.2.2.1, .int .i64 p.2.2.2.1, .int .i64 p.2.2.2.2] rfl rfl ?c1 ?c2 ?c3 ?c4 ?c5 ?_)
          case c1 => have q := draw.news5 (w2.alloc (.cells #[.int .i64 p.1, .int .i64 p.2.1, .int .i64 p.2.2.1, .int .i64 p.2.2.2.1, .int .i64 p.2.2.2.2] 36)) p; rw [zX] at q; exact q
          case c2 => exact draw.one5 p
          case c3 => exact mm
          case c4 => omega
          case c5 => simp; omega
          intro v' w5 hown' hgrow hnil
          have OWN2 := Lib.hid (show w5.ownsRow w1.heap.size 36 5 v' (k + 1) (draw.fl (ps (ls.take (k + 1)))) from by rw [TK.out, ps_snoc, draw.fl_app, ← HP.out]; exact hown')
          have NE2 := Lib.hid (show v' ≠ .slice none 0 0 from hnil)
          have B5 := Lib.hid ((BX.out.alloc BX.out.size _).grown hgrow (by simp; omega) (fun j hj => by have := draw.own_ge OX.out j hj; omega))
          have C5 := Lib.hid ((CX.out.alloc CX.out.size _).grown hgrow (by simp; omega) (fun j hj => draw.own_ge OX.out j hj))
          have OK2 := Lib.hid (show okl (ls.take (k + 1)) = true from by
            rw [TK.out]
            refine okl_iff.2 fun y hy => ?_
            rcases List.mem_append.1 hy with hy | hy
            · exact okl_iff.1 OK.out y hy
            · rw [List.mem_singleton.1 hy, ← HT.out])
          clear hown' hgrow hnil v0 v1 v2 v3 v4
          go_wp2
          go_roundw
          case rel => exact ⟨B5.out, C5.out, k + 1, by omega, by go_num, OWN2.out, NE2.out, OK2.out⟩
          case measure => simp [intOf]; omega
      · have u1 : decide (k < n) = false := by simp; omega
        obtain rfl : k = n := by omega
        have full : ls.take k = ls := List.take_of_length_le (by rw [← HN.out]; exact Nat.le_refl _)
        rw [full] at OWN OK
        have PL := ps_len ls
        rw [← HN.out] at PL
        obtain ⟨co, go, rfl, RO, lo, up⟩ := draw.of_owns5n (l := ps ls) (by rw [PL]; exact OWN.out) NE.out
        have RR := Lib.hid RO
        have LG := Lib.hid (base.lgS wr (some ⟨go, 0, none⟩) co go (ps ls) RO (by omega))
        rw [PL] at LG ⊢
        clear RO OWN NE full
        cases en with
        | false =>
          have N := Lib.hid (NO.out (fun q => by cases q.2.1))
          go_wp2
          go_ret2
          exact gotR_no N.out BB.out
        | true =>
          go_wp2_with fail
          refine LG.out.mono ?_
          rintro e w6 ⟨rfl, b6⟩
          have B6 := Lib.hid (BB.out.trans (b6.mono BB.out.size))
          have R6 := Lib.hid (RR.out.keep (w' := w6) (fun _ => b6.block go up))
          have z6 := b6.size
          clear b6
          cases hv : led.lv (ps ls) with
          | false =>
            have N := Lib.hid (NO.out (fun q => by rw [hv] at q; cases q.2.2))
            go_wp2
            go_ret2
            exact gotR_no N.out B6.out
          | true =>
            have Y := Lib.hid (YE.out OK.out (by trivial) hv)
            go_wp2
            go_ret2
            exact ⟨_, co, go, by rw [Y.out]; show _ = Ending.returned (.tuple #[.slice _ (ps ls).length co, _]); rw [PL]; rfl, by rw [Y.out]; exact R6.out, fun _ => by rw [Y.out] at *; omega, B6.out⟩
end Go.Proofs.YtpogfdeioibkdaaGreatDoor.ptm
