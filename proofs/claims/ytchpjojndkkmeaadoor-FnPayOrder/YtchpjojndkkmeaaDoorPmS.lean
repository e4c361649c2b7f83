/-
  Plain helpers of this seat's proofs: the contract of the model's PlanMade. Conditions: none.
-/
import Derived.Test.YtchpjojndkkmeaaDoorPm
import Derived.Test.YtchpjojndkkmeaaDoorJSh
import Derived.Test.YtchpjojndkkmeaaDoorFl7
import Derived.Test.YtchpjojndkkmeaaDoorSm
import Derived.Test.YtchpjojndkkmeaaDoorCp7
import Derived.Maps.AppendAt
import Derived.Deep.RegionLaw
import Derived.Deep.RegionHeld3
import Derived.StillTailTactics
namespace Go.Proofs.YtchpjojndkkmeaaDoor.base
open Go.ChangeShapes Go.WideShapes Go.ChangeAt Go.RowKit
open seven (F7 zz Row At)
open pl (inR prOk pok)
open gen
theorem step_own {P : Program} {ops : Array Oper} {o : Oper} {a : Act} {w : World} {K : Act → World → Prop} {Q : Exit → Act → World → Prop} {E : Prop} (hgd : o.guard = none) (s x : Operand) (t : TypeId)
    (ho : o.op = .call { callee := .builtin .append, args := #[s, x], argTypes := #[t, t] })
    (B : Nat) (e : TypeId) (i : TypeInfo) (z : Value) (size bytes : Nat) (ht : P.underlying t = some (.slice e)) (hi : P.info? e = some i) (hz : i.zero = some z)
    (hsize : i.size = size) (hby : i.bytes = bytes) (hzs : z.cells.size = size) (hsz : 0 < size)
    (v : Value) (n : Nat) (xs : List Value) (hs : a.eval s = v) (hown : w.ownsRow B e size v n xs)
    (ad : Addr) (m c : Nat) (news : List Value) (hx : a.eval x = .slice (some ad) m c) (hl : news.length = m * size) (hnews : ∀ j u, news[j]? = some u → w.cell? (ad.add j) = some u) (h1 : ∀ u ∈ news, u.oneCell' = true)
    (h63 : n + m ≤ maxLen) (hbytes : (n + m) * bytes ≤ 140737488355328) (hbase : B ≤ w.heap.size)
    (h : ∀ v' w', w'.ownsRow B e size v' (n + m) (xs ++ news) → w.grownBy w' v.ownBlock → (v' = .slice none 0 0 ↔ v = .slice none 0 0 ∧ m = 0) → K (a.put o.dst v') w') :
    if Region.wanted o (yielded ops a.tmps) = true then Oper.wp P o a w K Q else E := by
  have hw : Region.wanted o (yielded ops a.tmps) = true := by simp [Region.wanted, hgd]
  rw [if_pos hw]
  obtain ⟨v', w', hr, h2, h3, h4, _⟩ := run_append_own_at (P := P) w B t o.type e i z size bytes ht hi hz hsize hby hzs hsz v n xs hown ad m c news hl hnews h1 h63 hbytes hbase
  unfold Oper.wp execOp
  simp only [ho, resolve, invoke, builtin, Sem.run_bind, Sem.run_pure, Result.andThen_ok, List.map_toArray, List.map_cons, List.map_nil, hs, hx, hr]
  exact h v' w' h2 h3 h4
/-- A list of Parts in memory of its own, and whether there is one. -/
def GotP (w : World) (P : List F7) (b : Bool) (e : Ending) (w' : World) : Prop := ∃ a cap g, e = .returned (.tuple #[.slice a P.length cap, .bool b]) ∧ Row w' a cap g P ∧ (0 < P.length → w.heap.size ≤ g ∧ g < w'.heap.size) ∧ Below w.heap.size w w'
theorem rows_empty (w : World) : (w.alloc (.cells #[] 2)).ownsRow w.heap.size 2 1 (.slice (some ⟨w.heap.size, 0, none⟩) 0 0) 0 [] := by
  refine ⟨rfl, .inr ⟨w.heap.size, 0, #[], rfl, Nat.le_refl _, ?_, Nat.le_refl _, Nat.zero_le _, rfl, rfl⟩⟩
  show (w.heap.push _)[w.heap.size]? = _
  simp
set_option maxRecDepth 100000 in
set_option maxHeartbeats 8000000 in
theorem pmS (t n d r : Int) (w : World) : Calls Tryd.prog 6 #[.int .i64 t, .int .i64 n, .int .i64 d, .int .i64 r] w (GotP w (pm.pmL t n d r) (pm.okB t n d r)) := by
  obtain ⟨P, hP⟩ : ∃ P, P = pm.pmL t n d r := ⟨_, rfl⟩
  obtain ⟨K, hK⟩ : ∃ K, K = pm.okB t n d r := ⟨_, rfl⟩
  rw [← hP, ← hK]
  have HP := Lib.hid hP
  have HK := Lib.hid hK
  clear hP hK
  have NO := Lib.hid (show ¬ pm.Ok t n d r → ∀ w', Below w.heap.size w w' → GotP w P K (.returned (.tuple #[.slice none 0 0, .bool false])) w' from fun h w' hb => by
    rw [HP.out, HK.out, pm.pm_no h, pm.okB_f h]; exact ⟨none, 0, 0, rfl, Row.nil w', fun h => absurd h (by simp), hb⟩)
  have CD := Lib.hid (mf.dueS d n w)
  obtain ⟨zs, hzs⟩ : ∃ zs, zs = mf.dz d n := ⟨_, rfl⟩
  rw [← hzs] at CD
  have HZ := Lib.hid hzs
  clear hzs
  have CT := Lib.hid (inB t 1 1000000000000)
  have CR := Lib.hid (inB r 0 10000)
  go_enter Tryd.func6, Tryd.ntmps6
  go_wp2_with fail
  refine CD.out.mono ?_
  rintro e w1 ⟨a0, c0, g0, rfl, r0, G0, b1⟩
  have R0 := Lib.hid r0
  have B1 := Lib.hid b1
  have GG0 := Lib.hid G0
  have zl : zs.length ≤ 24 := by rw [HZ.out]; exact mf.dz_len d n
  have rm0 := r0.room
  obtain ⟨nz, hnz⟩ : ∃ nz, nz = zs.length := ⟨_, rfl⟩
  rw [← hnz] at zl rm0 ⊢
  have HNZ := Lib.hid hnz
  clear r0 b1 hnz G0 CD
  cases ht : inR t 1 1000000000000 with
  | false =>
    rw [ht] at CT
    have NN := Lib.hid (NO.out (fun k => by have := pl.inR_not.1 ht; have := k.t0; have := k.t1; omega) w1 B1.out)
    clear ht
    go_wp2_with fail
    refine (CT.out _).mono ?_
    rintro e w' ⟨rfl, rfl⟩
    go_wp2
    go_ret2
    exact NN.out
  | true =>
    rw [ht] at CT
    obtain ⟨t0, t1⟩ := pl.inR_iff.1 ht
    clear ht
    cases hr : inR r 0 10000 with
    | false =>
      rw [hr] at CR
      have NN := Lib.hid (NO.out (fun k => by have := pl.inR_not.1 hr; have := k.r0; have := k.r1; omega) w1 B1.out)
      clear hr
      go_wp2_with fail
      refine (CT.out _).mono ?_
      rintro e w' ⟨rfl, rfl⟩
      go_wp2_with fail
      refine (CR.out _).mono ?_
      rintro e w' ⟨rfl, rfl⟩
      go_wp2
      go_ret2
      exact NN.out
    | true =>
      rw [hr] at CR
      obtain ⟨r0, r1⟩ := pl.inR_iff.1 hr
      clear hr
      by_cases hz : nz = 0
      · have u0 : ((nz : Int) == 0) = true := by simp [hz]
        have NN := Lib.hid (NO.out (fun k => by
          have := (mf.dz_yes k.dz).1
          rw [← HZ.out, ← HNZ.out] at this
          have := k.n1; omega) w1 B1.out)
        clear hz
        go_wp2_with fail
        refine (CT.out _).mono ?_
        rintro e w' ⟨rfl, rfl⟩
        go_wp2_with fail
        refine (CR.out _).mono ?_
        rintro e w' ⟨rfl, rfl⟩
        go_wp2
        go_ret2
        exact NN.out
      · have DZ : mf.Dz d n := mf.dz_pos (by rw [← HZ.out, ← HNZ.out]; omega)
        obtain ⟨N, rfl⟩ := Int.eq_ofNat_of_zero_le (show 0 ≤ n by have := DZ.1; omega)
        obtain ⟨R, rfl⟩ := Int.eq_ofNat_of_zero_le r0
        have N1 : 1 ≤ N := by have := DZ.1; omega
        have N2 : N ≤ 24 := by have := DZ.2.1; omega
        have DY := mf.dz_yes DZ
        rw [← HZ.out, Int.toNat_natCast] at DY
        have en : nz = N := by rw [HNZ.out]; exact DY.1
        have DV := Lib.hid DY.2
        have HDZ := Lib.hid DZ
        clear DY DZ
        subst en
        have u0 : ((nz : Int) == 0) = false := by simp; omega
        have R1 : R ≤ 10000 := by omega
        obtain ⟨p, hp⟩ : ∃ p, p = R * nz := ⟨_, rfl⟩
        have pb : p ≤ 240000 := by rw [hp]; exact Nat.le_trans (Nat.mul_le_mul R1 N2) (by omega)
        have ep : (R : Int) * (nz : Int) = (p : Int) := by rw [hp, Int.natCast_mul]
        have HPP := Lib.hid ep
        clear hp hz r0 r1
        have CM := Lib.hid (fun w0 => md.spec t (p : Int) 120000 w0)
        obtain ⟨J, hJ⟩ : ∃ J, J = md.val t (p : Int) 120000 := ⟨_, rfl⟩
        unfold md.Ans at CM
        rw [← hJ] at CM
        have HJ := Lib.hid hJ
        clear hJ
        go_wp2_with fail
        refine (CT.out _).mono ?_
        rintro e w' ⟨rfl, rfl⟩
        go_wp2_with fail
        refine (CR.out _).mono ?_
        rintro e w' ⟨rfl, rfl⟩
        go_wp2_with fail
        refine (CM.out _).mono ?_
        rintro e w2 ⟨rfl, b2⟩
        have B2 := Lib.hid (B1.out.trans (b2.mono B1.out.size))
        have z2 := b2.size
        have R2 := Lib.hid (R0.out.keep (w' := w2) fun h => b2.block g0 (GG0.out h).2)
        clear b2 CM CT CR ep
        cases hm : md.ok t (p : Int) 120000 with
        | false =>
          have NN := Lib.hid (NO.out (fun k => by have := k.md; rw [HPP.out, hm] at this; cases this) w2 B2.out)
          clear hm
          go_wp2
          go_ret2
          exact NN.out
        | true =>
          have OK := Lib.hid (show pm.Ok t (nz : Int) d (R : Int) from ⟨t0, t1, by omega, by omega, HDZ.out, by rw [HPP.out]; exact hm⟩)
          have JB := pm.intr_bd OK.out
          unfold pm.intr at JB
          rw [HPP.out, ← HJ.out] at JB
          obtain ⟨J0, J1⟩ := JB
          have YP := Lib.hid (HP.out.trans (pm.pm_yes OK.out))
          have YK := Lib.hid (HK.out.trans (pm.okB_t OK.out))
          clear hm
          have wsz2 := B2.out.size
          have ST := Lib.hid (rows_empty w2)
          have BS := Lib.hid ((Below.refl w2.heap.size w2).alloc (Nat.le_refl _) (.cells #[] 2))
          obtain ⟨i0, hi, hz0, hz1, hz2⟩ := info_parts rows.info2
          go_wp2
          go_loopw [13, 14] (fun v i wr => Below w2.heap.size w2 wr ∧ ∃ m : Nat, m ≤ nz ∧ i = .int .i64 m ∧ wr.ownsRow w2.heap.size 2 1 v m ((pm.ones m).map (Value.int .i64))) (fun _ i _ => nz - (intOf i).toNat)
          case atStart => exact ⟨BS.out, 0, by omega, rfl, ST.out⟩
          case round =>
            obtain ⟨hB, m, hm, rfl, hown⟩ := hrel
            have BB := Lib.hid hB
            have OWN := Lib.hid hown
            have hsz := hB.size
            clear hB hown ST BS
            by_cases hlt : m < nz
            · have u1 : decide (m < nz) = true := by simp; omega
              have z1 : (m : Int) < (nz : Int) := by omega
              go_wp2_with (at_builtin; refine wpList_append_own _ rfl _ _ 37 rfl w2.heap.size 2 i0 (.int .i64 0) 1 8 Tryd.underlying37 hi hz0 hz1 hz2 rfl (by decide) _ _ _ rfl (OWN.out.alloc _) ⟨wr.heap.size, 0, none⟩ 1 1 [.int .i64 1] rfl rfl ?c1 ?c2 ?c3 ?c4 ?c5 ?_)
              case c1 =>
                intro j u hj
                match j, hj with
                | 0, hj => simp at hj; subst hj; simp [Addr.add]
              case c2 => intro u hu; simp at hu; subst hu; rfl
              case c3 => unfold maxLen; omega
              case c4 => omega
              case c5 => simp; omega
              intro v' w3 hown' hgrow _
              have OWN2 := Lib.hid (show w3.ownsRow w2.heap.size 2 1 v' (m + 1) ((pm.ones (m + 1)).map (Value.int .i64)) from by
                rw [← pm.ones_snoc, List.map_append]; exact hown')
              have BB2 := Lib.hid ((BB.out.alloc hsz _).grown hgrow (by simp; omega) (seven.own_ge OWN.out))
              clear hown' hgrow
              go_wp2
              go_roundw
              case rel => exact ⟨BB2.out, m + 1, by omega, by go_num, OWN2.out⟩
              case measure => simp [intOf]; omega
            · have u1 : decide (m < nz) = false := by simp; omega
              obtain rfl : m = nz := by omega
              have OR := rows.of_owns (zs := pm.ones m) (by rw [pm.ones_len]; exact OWN.out)
              rw [pm.ones_len] at OR
              obtain ⟨a1, c1, g1, rfl, r1, G1⟩ := OR
              have RO := Lib.hid r1
              have GO := Lib.hid (fun h => (G1 h).2)
              have RZ := Lib.hid (R2.out.keep (w' := wr) fun h => BB.out.block g0 (by have := (GG0.out h).2; omega))
              have CS1 := Lib.hid (fun w0 (h : rows.Row w0 a1 c1 g1 (pm.ones m)) (k : 0 < (pm.ones m).length → g1 < w0.heap.size) => shr.spec w0 a1 c1 g1 t (pm.ones m) h k (by rw [pm.ones_len]; omega))
              have CS2 := Lib.hid (fun w0 (h : rows.Row w0 a1 c1 g1 (pm.ones m)) (k : 0 < (pm.ones m).length → g1 < w0.heap.size) => shr.spec w0 a1 c1 g1 J (pm.ones m) h k (by rw [pm.ones_len]; omega))
              have LO := pm.ones_len m
              rw [LO] at CS1 CS2
              clear r1 G1 OWN
              have gz : g0 < wr.heap.size := by have := (GG0.out (by rw [← HNZ.out]; omega)).2; omega
              go_wp2_with fail
              refine (CS1.out wr RO.out GO.out).mono ?_
              rintro e w4 ⟨ap, cp, gp, lp, rfl, rp, Gp, b4, hp⟩
              have z4 := b4.size
              obtain ⟨pl1, pv1⟩ := pm.sv_of (by omega) t1 N1 (by omega) hp
              rw [pl1]
              rw [pl1] at Gp
              have gp4 : gp < w4.heap.size := (Gp (by omega)).2
              have RP := Lib.hid rp
              have PV1 := Lib.hid pv1
              have RO4 := Lib.hid (RO.out.keep (w' := w4) fun h => b4.block g1 (GO.out (by rw [LO] at h; exact h)))
              have RZ4 := Lib.hid (RZ.out.keep (w' := w4) fun _ => b4.block g0 gz)
              have B4 := Lib.hid ((B2.out.trans (BB.out.mono wsz2)).trans (b4.mono (by omega)))
              have PL1 := Lib.hid pl1
              clear rp pv1 hp Gp b4 pl1 RO RZ BB
              go_wp2_with fail
              refine (CS2.out w4 RO4.out (fun h => by have := GO.out h; omega)).mono ?_
              rintro e w5 ⟨aq, cq, gq, lq, rfl, rq, Gq, b5, hq⟩
              have z5 := b5.size
              obtain ⟨pl2, pv2⟩ := pm.sv_of J0 J1 N1 (by omega) hq
              rw [pl2]
              rw [pl2] at Gq
              have gq5 : gq < w5.heap.size := (Gq (by omega)).2
              have RQ := Lib.hid rq
              have PV2 := Lib.hid pv2
              have RP5 := Lib.hid (RP.out.keep (w' := w5) fun h => b5.block gp gp4)
              have RZ5 := Lib.hid (RZ4.out.keep (w' := w5) fun _ => b5.block g0 (by omega))
              have B5 := Lib.hid (B4.out.trans (b5.mono B4.out.size))
              have PL2 := Lib.hid pl2
              have wsz5 := B5.out.size
              clear rq pv2 hq Gq b5 pl2 RO4 RP RZ4 B4 CS1 CS2 hi hz0 hz1 hz2
              have e0 := RZ5.out.addr (by rw [← HNZ.out]; omega)
              have e1 := RP5.out.addr (by rw [PL1.out]; omega)
              have e2 := RQ.out.addr (by rw [PL2.out]; omega)
              have rm1 := RP5.out.room
              have rm2 := RQ.out.room
              rw [PL1.out] at rm1
              rw [PL2.out] at rm2
              subst e0 e1 e2
              have gz5 : g0 < w5.heap.size := by omega
              have gp5 : gp < w5.heap.size := by omega
              have ST := Lib.hid (seven.own0 (W := w5.alloc (.cells #[] 35)) (B := w5.heap.size) (g := w5.heap.size) (seven.heap_new w5 _) (Nat.le_refl _))
              have BS := Lib.hid ((Below.refl w5.heap.size w5).alloc (Nat.le_refl _) (.cells #[] 35))
              obtain ⟨i7, hi, hz0, hz1, hz2⟩ := info_parts seven.infoE
              go_wp2
              go_loopw [17, 18] (fun v i wr => Below w5.heap.size w5 wr ∧ ∃ k : Nat, k ≤ m ∧ i = .int .i64 k ∧ (v ≠ .slice none 0 0) ∧ wr.ownsRow w5.heap.size 35 7 v k (seven.fl (pm.parts t (m : Int) d (R : Int) k))) (fun _ i _ => m - (intOf i).toNat)
              case atStart => exact ⟨BS.out, 0, by omega, rfl, (fun h => by cases h), ST.out⟩
              case round =>
                obtain ⟨hB, k, hk, rfl, hv, hown⟩ := hrel
                have BB := Lib.hid hB
                have OWN := Lib.hid hown
                have HV := Lib.hid hv
                have hsz := hB.size
                have WRN := wr
                clear hown ST BS hv WRN
                by_cases hlt : k < m
                · have u1 : decide (k < m) = true := by simp; omega
                  have z1 : (k : Int) < (m : Int) := by omega
                  have q1 := (hB.cell (p := ⟨g0, k, none⟩) gz5).trans (RZ5.out.cells k (by rw [← HNZ.out]; omega))
                  have q2 := (hB.cell (p := ⟨gp, k, none⟩) gp5).trans (RP5.out.cells k (by rw [PL1.out]; omega))
                  have q3 := (hB.cell (p := ⟨gq, k, none⟩) gq5).trans (RQ.out.cells k (by rw [PL2.out]; omega))
                  rw [DV.out k hlt] at q1
                  rw [PV1.out k hlt] at q2
                  rw [PV2.out k hlt] at q3
                  have XE := Lib.hid (show pm.part t (m : Int) d (R : Int) k = (mf.mf d ((k : Int) + 1), pm.sv t m k, pm.sv J m k, 0, 0, 0, 0) from by
                    unfold pm.part pm.intr; rw [HPP.out, ← HJ.out, Int.toNat_natCast])
                  obtain ⟨x1, hx1⟩ : ∃ x1, x1 = mf.mf d ((k : Int) + 1) := ⟨_, rfl⟩
                  obtain ⟨x2, hx2⟩ : ∃ x2, x2 = pm.sv t m k := ⟨_, rfl⟩
                  obtain ⟨x3, hx3⟩ : ∃ x3, x3 = pm.sv J m k := ⟨_, rfl⟩
                  rw [← hx1] at q1 XE
                  rw [← hx2] at q2 XE
                  rw [← hx3] at q3 XE
                  have KQ := Lib.hid (show ∀ w', Below w5.heap.size w5 w' → w'.cell? ⟨g0, k, none⟩ = some (.int .i64 x1) ∧ w'.cell? ⟨gp, k, none⟩ = some (.int .i64 x2) ∧ w'.cell? ⟨gq, k, none⟩ = some (.int .i64 x3) from fun w' hb =>
                    ⟨(hb.cell (p := ⟨g0, k, none⟩) gz5).trans ((hB.cell (p := ⟨g0, k, none⟩) gz5).symm.trans q1), (hb.cell (p := ⟨gp, k, none⟩) gp5).trans ((hB.cell (p := ⟨gp, k, none⟩) gp5).symm.trans q2), (hb.cell (p := ⟨gq, k, none⟩) gq5).trans ((hB.cell (p := ⟨gq, k, none⟩) gq5).symm.trans q3)⟩)
                  clear hx1 hx2 hx3 hB
                  have O1 := Lib.hid (show World.ownsRow (World.drew (wr.alloc (.cells #[.int .i64 x1, .int .i64 x2, .int .i64 x3, .int .i64 0, .int .i64 0, .int .i64 0, .int .i64 0] 35))) w5.heap.size 35 7 u17 k (seven.fl (pm.parts t (m : Int) d (R : Int) k)) from OWN.out.alloc _)
                  have N1 := Lib.hid (show ∀ j u, (seven.fl [((x1, x2, x3, 0, 0, 0, 0) : F7)])[j]? = some u → (World.drew (wr.alloc (.cells #[.int .i64 x1, .int .i64 x2, .int .i64 x3, .int .i64 0, .int .i64 0, .int .i64 0, .int .i64 0] 35))).cell? ((⟨wr.heap.size, 0, none⟩ : Addr).add j) = some u from
                    seven.fl_news (w := World.drew (wr.alloc (.cells #[.int .i64 x1, .int .i64 x2, .int .i64 x3, .int .i64 0, .int .i64 0, .int .i64 0, .int .i64 0] 35))) (l := [((x1, x2, x3, 0, 0, 0, 0) : F7)]) (fun i hi => by
                      obtain rfl : i = 0 := by simp at hi; omega
                      exact (seven.At.boxed wr ((x1, x2, x3, 0, 0, 0, 0) : F7) _).keep rfl))
                  have P63 := Lib.hid (show k + 1 ≤ maxLen from by unfold maxLen; omega)
                  have PB := Lib.hid (show (k + 1) * 56 ≤ 140737488355328 from by omega)
                  have S1 := Lib.hid (show w5.heap.size ≤ (World.drew (wr.alloc (.cells #[.int .i64 x1, .int .i64 x2, .int .i64 x3, .int .i64 0, .int .i64 0, .int .i64 0, .int .i64 0] 35))).heap.size from by show _ ≤ (wr.alloc _).heap.size; simp; omega)
                  have BW1 := Lib.hid (show Below w5.heap.size w5 (World.drew (wr.alloc (.cells #[.int .i64 x1, .int .i64 x2, .int .i64 x3, .int .i64 0, .int .i64 0, .int .i64 0, .int .i64 0] 35))) from (BB.out.alloc hsz _).drew)
                  go_wp2_with fail
                  go_region_held3 (fun w' => w'.cell? ⟨g0, k, none⟩ = some (.int .i64 x1) ∧ w'.cell? ⟨gp, k, none⟩ = some (.int .i64 x2) ∧ w'.cell? ⟨gq, k, none⟩ = some (.int .i64 x3)) (first | exact KQ.out _ G2.out | go_keep)
                    (first | (refine step_own rfl (.tmp 67) (.tmp 81) 22 rfl w5.heap.size 35 i7 (.agg #[.int .i64 0, .int .i64 0, .int .i64 0, .int .i64 0, .int .i64 0, .int .i64 0, .int .i64 0]) 7 56 Tryd.underlying22 hi hz0 hz1 hz2 rfl (by decide) u17 k (seven.fl (pm.parts t (m : Int) d (R : Int) k)) rfl O1.out ⟨wr.heap.size, 0, none⟩ 1 1 (seven.fl [((x1, x2, x3, 0, 0, 0, 0) : F7)]) rfl rfl N1.out (seven.fl_one _) P63.out PB.out S1.out ?_; intro v3 w3 hown3 hgrow3 hnil3; have O2 := Lib.hid hown3; have G2 := Lib.hid (BW1.out.grown hgrow3 S1.out (seven.own_ge O1.out)); have NX := Lib.hid (show v3 ≠ .slice none 0 0 from fun h => absurd (hnil3.1 h).2 (by decide)); clear hown3 hgrow3 hnil3))
                  all_goals
                    have O3 := Lib.hid (show w3.ownsRow w5.heap.size 35 7 v3 (k + 1) (seven.fl (pm.parts t (m : Int) d (R : Int) (k + 1))) from by
                      rw [pm.parts_succ, seven.fl_app, XE.out]; exact O2.out)
                    clear O2 O1 N1 P63 PB S1 BW1 XE q1 q2 q3 OWN BB HV
                    go_wp2
                    go_roundw
                    case rel => exact ⟨G2.out, k + 1, by omega, by go_num, NX.out, O3.out⟩
                    case measure => simp [intOf]; omega
                · have u1 : decide (k < m) = false := by simp; omega
                  obtain rfl : k = m := by omega
                  clear hB
                  have LP : P.length = k := by rw [YP.out, pm.parts_len, Int.toNat_natCast]
                  obtain ⟨cf, gf, rfl, rF, lo, hi9⟩ := seven.of_ownsNn (l := P) (B := w5.heap.size) (v := u17) (w := wr) (by rw [LP, YP.out, Int.toNat_natCast]; exact OWN.out) HV.out
                  have RF := Lib.hid rF
                  have BF := Lib.hid (B5.out.trans (BB.out.mono wsz5))
                  clear rF
                  go_wp2
                  go_ret2
                  refine ⟨_, cf, gf, by rw [YK.out]; rfl, RF.out, fun _ => ⟨by omega, hi9⟩, BF.out⟩
end Go.Proofs.YtchpjojndkkmeaaDoor.base
