/-
  Plain helpers of this seat's proofs: the contract of the landed function that reads a ledger. Conditions: none.
-/
import Derived.Test.YtpogfdeioibkdaaDoorRlk
namespace Go.Proofs.YtpogfdeioibkdaaDoor.ptm
open Go.ChangeShapes Go.WideShapes Go.ChangeAt Go.RowKit
open led (F5 z5)
open five (Row)
open Go.Shelf
attribute [local go_sem] Oper.semAt_some
set_option maxRecDepth 100000 in
set_option maxHeartbeats 8000000 in
theorem rlI (L : List UInt8) (w : World) (hL : L.length ≤ 1048576) (cu : cur.Cur w) (po : Pow w) (hw : 2 < w.heap.size) (mx : Int) (hm : w.cell? ⟨1, 0, none⟩ = some (.int .i64 mx)) :
    Calls Tryd.prog 23 #[.string ⟨L.toArray⟩] w (GotR L w) := by
  have lt := cu.lt
  have RP := Lib.hid (fun (x : List UInt8) W (hx : x.length ≤ 1048576) (hb : Below w.heap.size w W) => readI x W hx (cu.below hb lt) (Pow.below po hb hw) (Nat.lt_of_lt_of_le hw hb.size) mx ((hb.cell (p := ⟨1, 0, none⟩) (by show 1 < _; omega)).trans hm))
  have LT := Lib.hid (fun W (hb : Below w.heap.size w W) a c g l (r : Row W a c g l) (hn : l.length ≤ 1048577) => ltI W a c g l r hn (cu.below hb lt) (Pow.below po hb hw) (Nat.lt_of_lt_of_le hw hb.size))
  clear cu po hw hm lt
  refine (callsIn_wide (n := 8)).1 ?_
  have hro : Fence.wide.round = none := rfl
  have hw1 : Fence.wide.fn 57 := trivial
  have hw2 : Fence.wide.fn 20 := trivial
  refine callsIn_of_wp_marks Tryd.func23 rfl trivial ?_ hro
  simp only [Tryd.ntmps23, List.size_toArray, List.length_cons, List.length_nil, Nat.reduceAdd, Nat.reduceSub, Array.replicate_succ, Array.replicate_zero, List.push_toArray, List.append_toArray, List.nil_append, List.cons_append]
  gi_wp2_with fail
  refine (callsIn_wide.2 (linC _ _)).mono ?_
  rintro e w3 ⟨rfl, rfl⟩
  gi_wp2_with fail
  change Code.wpIn _ _ _ _ _ { tmps := #[.string ⟨L.toArray⟩, undef, .pointer (some ⟨w.heap.size, 0, none⟩), .pointer (some ⟨w.heap.size + 1, 0, none⟩), .pointer (some ⟨w.heap.size + 3, 0, none⟩), undef, undef, undef, .slice (some ⟨w.heap.size + 2, 0, none⟩) 0 0, .string ⟨L.toArray⟩, .func (.func 78) #[] #[.pointer (some ⟨w.heap.size + 4, 0, none⟩)], undef, undef, undef, undef, undef, undef, undef, undef, undef, undef, undef, undef, undef, undef, undef, undef, undef, undef], defers := [] } (W0 w L)
  have IV := Lib.hid (RI.start w L)
  have zW := W0_size w L
  have cB := (cell_heap (W0_heap w L).2.2.2.2).1
  have fB := (cell_heap (W0_heap w L).2.2.2.2).2
  generalize W0 w L = WW at IV zW cB fB ⊢
  obtain ⟨i0, hi, hz0, hz1, hz2⟩ := info_parts five.infoE
  refine rf.rangeB hro (by omega) (gf := 78) (lb := #[.pointer (some ⟨w.heap.size + 4, 0, none⟩)]) rfl trivial (enters_of Tryd.func78 (by kernel_rfl) rfl)
    (lnIt 7 (by omega) (w.heap.size + 4) L hL) (by omega) cB fB (fun _ => rfl)
    (fun pre W => RI w pre W)
    (fun c _ W => c = .ret ∧ RY w L W)
    (fun x a' _ => a' = { tmps := #[.string ⟨L.toArray⟩, undef, .pointer (some ⟨w.heap.size, 0, none⟩), .pointer (some ⟨w.heap.size + 1, 0, none⟩), .pointer (some ⟨w.heap.size + 3, 0, none⟩), .string ⟨x.toArray⟩, undef, undef, .slice (some ⟨w.heap.size + 2, 0, none⟩) 0 0, .string ⟨L.toArray⟩, .func (.func 78) #[] #[.pointer (some ⟨w.heap.size + 4, 0, none⟩)], .string ⟨x.toArray⟩, undef, undef, undef, undef, undef, undef, undef, undef, undef, undef, undef, undef, undef, undef, undef, undef, undef], defers := [] })
    (fun s A B row hs hg hr => hs.grown hg (fun r e => ⟨by have := (hr r e).1; omega, (hr r e).2⟩))
    (fun _ s A B row hs hg hr => ⟨hs.1, hs.2.grown hg (fun r e => ⟨by have := (hr r e).1; omega, (hr r e).2⟩)⟩)
    (fun x a' s A B row hs hg hr => hs)
    (fun pre W v h => h.setB v)
    IV.out ?assign ?body ?done ?stop
  case assign =>
    rintro lp pre x W K hI hV hK
    dsimp only [encL]
    gi_wp2
    exact hK _ _ (KeepsFrom.refl _ _) rfl hI rfl
  case body =>
    rintro lp pre x a' W hI ⟨post, hV⟩ rfl
    have xm : x ∈ pc L := by rw [hV]; simp
    have xl := pc_word L x xm
    have pl : pre.length + 1 ≤ L.length := by
      have := pc_len L
      rw [hV] at this
      simp at this
      omega
    have TR := Lib.hid (show ∀ W, Calls Tryd.prog 58 #[.string ⟨x.toArray⟩, .string ⟨#[10]⟩] W (fun e w' => e = .returned (.string ⟨(tr x).toArray⟩) ∧ W = w') from fun W => (Tryd.strings_TrimSuffix ⟨x.toArray⟩ ⟨#[10]⟩ W (by show x.length ≤ _; omega)).mono (fun _ _ q => ⟨q.1, q.2.symm⟩))
    have RQ := Lib.hid (RP.out (tr x) W (Nat.le_trans (tr_le x) (by omega)) hI.bw)
    have MEM := Lib.hid (show tr x ∈ (ln L).1 from by rw [← pc_tr]; exact List.mem_map_of_mem xm)
    have INV := Lib.hid hI
    obtain ⟨v, hc, own, hne, hk⟩ := hI.li
    obtain ⟨ao, n', cap, rfl⟩ : ∃ ao n' cap, v = .slice ao n' cap := by
      rcases own.2 with ⟨hv, _⟩ | ⟨g, cap, cur, hv, _⟩
      · exact ⟨_, _, _, hv⟩
      · exact ⟨_, _, _, hv⟩
    have OWN := Lib.hid own
    have HC := Lib.hid hc
    have hz := hI.sz
    have NO := Lib.hid (fun h => rl_no (s := L) h)
    have f3 := Lib.hid hI.f3
    obtain ⟨p, hp⟩ : ∃ p, p = (rd (tr x)).1 := ⟨_, rfl⟩
    rw [← hp] at RQ
    have HP := Lib.hid hp
    clear hI hV own hc hne hk hp xm
    cases ht : (rd (tr x)).2 with
    | false =>
      rw [ht] at RQ
      unfold pv at RQ
      have N := Lib.hid (NO.out (fun q => by have := okl_iff.1 q.1 _ MEM.out; rw [ht] at this; cases this))
      gi_wp2_with (first
        | (refine ⟨trivial, ?_⟩; gi_at_call 58; refine (CallsIn.inRound lp (callsIn_wide.2 (TR.out _))).mono ?_; rintro e w' ⟨rfl, rfl⟩)
        | (refine ⟨trivial, ?_⟩; gi_at_call 12; refine (CallsIn.inRound lp (callsIn_wide.2 RQ.out)).mono ?_; rintro e w1 ⟨rfl, b1⟩; have I1 := Lib.hid ((INV.out.stay b1).stay ((Below.refl w1.heap.size w1).alloc (Nat.le_refl _) (.cells #[.int .i64 p.1, .int .i64 p.2.1, .int .i64 p.2.2.1, .int .i64 p.2.2.2.1, .int .i64 p.2.2.2.2] 27))); have y0 := I1.out.r0; have y1 := I1.out.f0; have y2 := I1.out.r1; have y3 := I1.out.f1; have B1 := Lib.hid b1; clear b1))
      exact ⟨kf _ B1.out (((KeepsOthers.alloc _ _).trans (KeepsOthers.setCell _ _ _)).trans (KeepsOthers.setCell _ _ _)), rfl, RY.of I1.out N.out⟩
    | true =>
      rw [ht] at RQ
      unfold pv at RQ
      have mm : pre.length + 1 ≤ maxLen := by unfold maxLen; omega
      have bb : (pre.length + 1) * 40 ≤ 140737488355328 := by omega
      gi_wp2_with (first
        | (refine ⟨trivial, ?_⟩; gi_at_call 58; refine (CallsIn.inRound lp (callsIn_wide.2 (TR.out _))).mono ?_; rintro e w' ⟨rfl, rfl⟩)
        | (refine ⟨trivial, ?_⟩; gi_at_call 12; refine (CallsIn.inRound lp (callsIn_wide.2 RQ.out)).mono ?_; rintro e w1 ⟨rfl, b1⟩; have BXX := Lib.hid ((show Below W.heap.size W (w1.alloc (.cells #[.int .i64 p.1, .int .i64 p.2.1, .int .i64 p.2.2.1, .int .i64 p.2.2.2.1, .int .i64 p.2.2.2.2] 27)) from b1.alloc b1.size _)); have c3 := (World.cell?_of_block (w := W) (a := ⟨w.heap.size + 3, 0, none⟩) (BXX.out.block (w.heap.size + 3) (by omega))).trans HC.out; have OX := Lib.hid (own_bel OWN.out BXX.out); have PBX := Lib.hid (PF.new w1 p 27); have v0 := PBX.out.pb.c0; have v1 := PBX.out.pb.c1; have v2 := PBX.out.pb.c2; have v3 := PBX.out.pb.c3; have v4 := PBX.out.pb.c4; have z1 := b1.size; have zX : (w1.alloc (.cells #[.int .i64 p.1, .int .i64 p.2.1, .int .i64 p.2.2.1, .int .i64 p.2.2.2.1, .int .i64 p.2.2.2.2] 27)).heap.size = w1.heap.size + 1 := World.size_alloc _ _; clear b1)
        | (gi_at_builtin; refine wpListIn_append_own_at _ rfl _ _ 43 rfl (w.heap.size + 2) 27 i0 (.agg #[.int .i64 0, .int .i64 0, .int .i64 0, .int .i64 0, .int .i64 0]) 5 40 Tryd.underlying43 hi hz0 hz1 hz2 rfl (by decide) _ _ _ rfl (OX.out.alloc _) ⟨w1.heap.size + 1, 0, none⟩ 1 1 [.int .i64 p.1, .int .i64 p.2.1, .int .i64 p.2.2.1, .int .i64 p.2.2.2.1, .int .i64 p.2.2.2.2] rfl rfl ?c1 ?c2 ?c3 ?c4 ?c5 ?_))
      case c1 => have q := draw.news5 (w1.alloc (.cells #[.int .i64 p.1, .int .i64 p.2.1, .int .i64 p.2.2.1, .int .i64 p.2.2.2.1, .int .i64 p.2.2.2.2] 27)) p; rw [zX] at q; exact q
      case c2 => exact draw.one5 p
      case c3 => exact mm
      case c4 => exact bb
      case c5 => simp; omega
      intro v' w5 hown' hgrow hnil hat
      have hn' : v' ≠ .slice none 0 0 := hnil
      obtain ⟨ao', n'', cap', rfl⟩ : ∃ ao n' cap, v' = .slice ao n' cap := by
        rcases hown'.2 with ⟨hv, _⟩ | ⟨g, cap, cur, hv, _⟩
        · exact ⟨_, _, _, hv⟩
        · exact ⟨_, _, _, hv⟩
      have ST := Lib.hid (RI.step (x := x) WW.heap.size INV.out HP.out ht HC.out BXX.out hgrow hn' hown' (by rw [World.size_alloc, zX]; exact hat))
      have e3 : w5.cell? ⟨w.heap.size + 3, 0, none⟩ = some (.slice ao n' cap) ∧ w5.frozen? ⟨w.heap.size + 3, 0, none⟩ = false := by
        obtain ⟨v', hc', _, _, hk'⟩ := INV.out.li
        have hvv := Option.some.inj (hc'.symm.trans HC.out)
        subst hvv
        have e : w5.heap[w.heap.size + 3]? = W.heap[w.heap.size + 3]? := by
          rw [hgrow.block (w.heap.size + 3) (by simp; omega) (fun e => by have := hk' _ e.symm; omega), Below.heap_alloc _ _ _ (by omega)]
          exact BXX.out.block _ (by omega)
        exact ⟨(World.cell?_of_block (w := W) (a := ⟨_, 0, none⟩) e).trans HC.out, (World.frozen?_of_block (w := W) (a := ⟨_, 0, none⟩) e).trans f3.out⟩
      obtain ⟨e31, e32⟩ := e3
      clear hown' hgrow hnil hat c3 v0 v1 v2 v3 v4
      gi_wp2
      exact ⟨ST.out.1, ST.out.2.1, ST.out.2.2⟩
  case done =>
    rintro xs W D hD hK rfl hI
    obtain ⟨v, hc, own, hne, hk⟩ := hI.li
    have PT := pc_tr L
    have lp : (pc L).length = (ps (ln L).1).length := by rw [ps_len, ← PT, List.length_map]
    rw [PT, lp] at own
    obtain ⟨co, go, rfl, RO, lo, up⟩ := draw.of_owns5n (l := ps (ln L).1) own hne
    have OK := Lib.hid (show okl (ln L).1 = true from by have := hI.ok; rwa [PT] at this)
    have EQ := Lib.hid (ltxt_eq OK.out)
    have RR := Lib.hid RO
    have LG := Lib.hid (LT.out W hI.bw (some ⟨go, 0, none⟩) co go (ps (ln L).1) RO (by rw [ps_len]; have := ln_len L; omega))
    have HI := Lib.hid hI
    have HC := Lib.hid hc
    have HD := Lib.hid hK
    have zs := hI.sz
    have YE := Lib.hid (fun h2 h3 => rl_yes (s := L) OK.out h2 h3)
    have NO := Lib.hid (fun h => rl_no (s := L) h)
    clear own hne hk RO hI
    obtain ⟨n, hn⟩ : ∃ n, n = (ps (ln L).1).length := ⟨_, rfl⟩
    have HN := Lib.hid hn
    rw [← hn] at LG hc HC
    clear hn PT lp
    obtain ⟨tx, htx⟩ : ∃ tx, tx = ltxt (ps (ln L).1) := ⟨_, rfl⟩
    have HTX := Lib.hid htx
    rw [← htx] at LG EQ
    clear htx hK
    gi_wp2_with fail
    refine (callsIn_wide.2 LG.out).mono ?_
    rintro e w6 ⟨rfl, b6⟩
    have I6 := Lib.hid (HI.out.stay b6)
    have D6 := Lib.hid ((b6.block D (Array.getElem?_eq_some_iff.1 HD.out).1).trans HD.out)
    have c6 := (World.cell?_of_block (w := W) (a := ⟨w.heap.size + 3, 0, none⟩) (b6.block (w.heap.size + 3) (by omega))).trans HC.out
    have R6 := Lib.hid (RR.out.keep (w' := w6) (fun _ => b6.block go up))
    have z6 := b6.size
    have y0 := I6.out.r0
    have y1 := I6.out.f0
    have y2 := I6.out.r1
    have y3 := I6.out.f1
    clear b6 hc
    cases hq : (tx == L) with
    | true =>
      have q2 : tx = L := by simpa using hq
      obtain ⟨h2, h3⟩ := (EQ.out).1 q2
      have Y := Lib.hid (YE.out h2 h3)
      have c0 : (w6.setCell ⟨w.heap.size, 0, none⟩ (.slice (some ⟨go, 0, none⟩) n co)).cell? ⟨w.heap.size, 0, none⟩ = some (.slice (some ⟨go, 0, none⟩) n co) := World.cell?_setCell_same' _ _ _ (by rw [y0]; rfl)
      have c1 : (w6.setCell ⟨w.heap.size, 0, none⟩ (.slice (some ⟨go, 0, none⟩) n co)).cell? ⟨w.heap.size + 1, 0, none⟩ = some (.bool false) := (World.cell?_setCell_far _ _ _ _ (by show w.heap.size ≠ w.heap.size + 1; omega)).trans y2
      have d0 := Lib.hid ((World.cell?_setCell_far (w6.setCell ⟨w.heap.size, 0, none⟩ (.slice (some ⟨go, 0, none⟩) n co)) ⟨w.heap.size + 1, 0, none⟩ ⟨w.heap.size, 0, none⟩ (.bool true) (by show w.heap.size + 1 ≠ w.heap.size; omega)).trans c0)
      have d1 := Lib.hid (World.cell?_setCell_same' (w6.setCell ⟨w.heap.size, 0, none⟩ (.slice (some ⟨go, 0, none⟩) n co)) ⟨w.heap.size + 1, 0, none⟩ (.bool true) (by rw [c1]; rfl))
      have BZ := Lib.hid ((I6.out.bw.setCell (p := ⟨w.heap.size, 0, none⟩) (Nat.le_refl _) (.slice (some ⟨go, 0, none⟩) n co)).setCell (p := ⟨w.heap.size + 1, 0, none⟩) (by show w.heap.size ≤ w.heap.size + 1; omega) (.bool true))
      have far : ∀ k, w.heap.size + 1 < k → ((w6.setCell ⟨w.heap.size, 0, none⟩ (.slice (some ⟨go, 0, none⟩) n co)).setCell ⟨w.heap.size + 1, 0, none⟩ (.bool true)).heap[k]? = w6.heap[k]? := fun k hk => (Below.heap_setCell _ ⟨w.heap.size + 1, 0, none⟩ _ k (by show k ≠ w.heap.size + 1; omega)).trans (Below.heap_setCell w6 ⟨w.heap.size, 0, none⟩ _ k (by show k ≠ w.heap.size; omega))
      have DX := Lib.hid ((far D (by omega)).trans D6.out)
      have RZ := Lib.hid (R6.out.keep (fun _ => far go (by omega)))
      have GD := Lib.hid (show 0 < (ps (ln L).1).length → go ≠ D from fun h e => by
        obtain ⟨o, ho, hoc⟩ := cells_of_cell (R6.out.cells 0 h).c0
        rw [show (⟨go, 0 * 5, none⟩ : Addr).block = D from e, D6.out] at ho
        cases ho
        cases hoc)
      have sZ : ((w6.setCell ⟨w.heap.size, 0, none⟩ (.slice (some ⟨go, 0, none⟩) n co)).setCell ⟨w.heap.size + 1, 0, none⟩ (.bool true)).heap.size = w6.heap.size := by rw [World.size_setCell, World.size_setCell]
      clear c0 c1 far q2
      gi_wp2
      generalize (w6.setCell ⟨w.heap.size, 0, none⟩ (.slice (some ⟨go, 0, none⟩) n co)).setCell ⟨w.heap.size + 1, 0, none⟩ (.bool true) = WZ at d0 d1 BZ DX RZ sZ ⊢
      refine ⟨by simp, .inl ⟨_, _, rfl, run_takeDeferred DX.out, ?_⟩⟩
      have p0 := fun o => put_cell (D := D) o d0.out (by omega)
      have p1 := fun o => put_cell (D := D) o d1.out (by omega)
      refine ⟨.tuple #[.slice (some ⟨go, 0, none⟩) n co, .bool true], by simp [results, Tryd.f23, go_sem, p0, p1], some ⟨go, 0, none⟩, co, go, ?_, ?_, ?_, below_put BZ.out (by omega) _⟩
      · rw [Y.out]
        show _ = Ending.returned (.tuple #[.slice _ (ps (ln L).1).length co, _])
        rw [← HN.out]
      · rw [Y.out]
        exact RZ.out.keep (fun h => World.putObj_heap_other (GD.out h))
      · intro _
        refine ⟨by omega, ?_⟩
        rw [show (World.putObj WZ D _).heap.size = WZ.heap.size from by simp [World.putObj]]
        omega
    | false =>
      have N := Lib.hid (NO.out (fun q => by
        have := (EQ.out).2 ⟨q.2.1, q.2.2⟩
        rw [this] at hq
        simp at hq))
      have RYY := Lib.hid (RY.of I6.out N.out)
      have DX := Lib.hid (show ((w6.setCell ⟨w.heap.size, 0, none⟩ (.slice none 0 0)).setCell ⟨w.heap.size + 1, 0, none⟩ (.bool false)).heap[D]? = _ from ((Below.heap_setCell _ ⟨w.heap.size + 1, 0, none⟩ _ D (by show D ≠ w.heap.size + 1; omega)).trans (Below.heap_setCell w6 ⟨w.heap.size, 0, none⟩ _ D (by show D ≠ w.heap.size; omega))).trans D6.out)
      gi_wp2
      generalize (w6.setCell ⟨w.heap.size, 0, none⟩ (.slice none 0 0)).setCell ⟨w.heap.size + 1, 0, none⟩ (.bool false) = WZ at RYY DX ⊢
      refine ⟨by simp, .inl ⟨_, _, rfl, run_takeDeferred DX.out, ?_⟩⟩
      have p0 := fun o => put_cell (D := D) o RYY.out.r0 (by omega)
      have p1 := fun o => put_cell (D := D) o RYY.out.r1 (by omega)
      exact ⟨.tuple #[.slice none 0 0, .bool false], by simp [results, Tryd.f23, go_sem, p0, p1], gotR_no N.out (below_put RYY.out.bw (by omega) _)⟩
  case stop =>
    rintro c pre W D hD hK ⟨rfl, hY⟩
    gi_wp2
    refine ⟨by simp, .inl ⟨_, _, rfl, run_takeDeferred hK, ?_⟩⟩
    have p0 := fun o => put_cell (D := D) o hY.r0 (by omega)
    have p1 := fun o => put_cell (D := D) o hY.r1 (by omega)
    exact ⟨.tuple #[.slice none 0 0, .bool false], by simp [results, Tryd.f23, go_sem, p0, p1], gotR_no hY.no (below_put hY.bw (by omega) _)⟩
end Go.Proofs.YtpogfdeioibkdaaDoor.ptm
