/-
  Plain helpers of this seat's proofs: the contract of the model's OrderOk. Conditions: none.
-/
import Derived.Test.YtmaejlfjdkkpdaaOk6
import Derived.Test.YtmaejlfjdkkpdaaPkS
import Derived.Test.YtmaejlfjdkkpdaaSu6S
import Derived.Test.YtmaejlfjdkkpdaaVaS1
import Derived.Test.YtmaejlfjdkkpdaaVaS2
import Derived.Deep.RegionHeld3
namespace Go.Proofs.Ytmaejlfjdkkpdaa.ob
open Go.ChangeShapes Go.WideShapes Go.ChangeAt Go.RowKit
open gen
open seven (F7 zz Row At)
open four (F4)
open pl (inR)
open pls (nth Pls OL)
open ord (Sc iok)
set_option maxRecDepth 100000 in
set_option maxHeartbeats 16000000 in
theorem okS (w : World) (B : Nat) (s : Sc) (ai : Option Addr) (ci gi : Nat) (l : List F4) (ap : Option Addr) (cp gp : Nat) (p : List (List F7)) (gs cs : Nat → Nat) (h : OL w B l p ai ci gi ap cp gp gs cs) (hl : l.length ≤ 1048576) (hn : p.length ≤ 1048576) (hm : ∀ i, i < p.length → (nth p i).length ≤ 1048577) :
    Calls Try.prog 15 #[.agg #[.int .i64 s.id, .int .i64 s.co, .int .i64 s.me, .int .i64 s.cu, .int .i64 s.da, .int .i64 s.nn, .int .i64 s.ra, .int .i64 s.nu, .int .i64 s.de, .slice ai l.length ci, .slice ap p.length cp, .int .i64 s.op, .int .i64 s.up]] w fun e w' => e = .returned (.bool (ord.ok s l p)) ∧ Below w.heap.size w w' := by
  have B0 := Lib.hid (show Below w.heap.size w (w.alloc (.cells #[.int .i64 s.id, .int .i64 s.co, .int .i64 s.me, .int .i64 s.cu, .int .i64 s.da, .int .i64 s.nn, .int .i64 s.ra, .int .i64 s.nu, .int .i64 s.de, .slice ai l.length ci, .slice ap p.length cp, .int .i64 s.op, .int .i64 s.up] 31)) from bAl (Below.refl _ _) (Nat.le_refl _) _)
  have O0 := OB.new w s ai l.length ci ap p.length cp 31
  have z0 : (w.alloc (.cells #[.int .i64 s.id, .int .i64 s.co, .int .i64 s.me, .int .i64 s.cu, .int .i64 s.da, .int .i64 s.nn, .int .i64 s.ra, .int .i64 s.nu, .int .i64 s.de, .slice ai l.length ci, .slice ap p.length cp, .int .i64 s.op, .int .i64 s.up] 31)).heap.size = w.heap.size + 1 := by simp only [sz_al]
  have L := Lib.hid h
  have ei := h.items.addr
  have ri := h.items.room
  have ep := h.plans.addr
  have rp := h.plans.room
  clear h
  obtain ⟨T, hT⟩ : ∃ T, T = ord.ok s l p := ⟨_, rfl⟩
  rw [← hT]
  have HT := Lib.hid hT
  have HM := Lib.hid hm
  clear hT hm
  have TKE : ord.tok s = (inR s.id 1 999 && inR s.co 1 999 && inR s.me 1 999 && inR s.cu 0 5 && inR s.da 0 100000 && inR s.nn 1 24 && inR s.ra 0 10000 && inR s.nu 1 1000000 && inR s.de 1 1000000 && inR s.op 0 1000000000000 && inR s.up 0 1000000000000) := rfl
  have c0 := idS s.id
  have c1 := idS s.co
  have c2 := idS s.me
  have c3 := curS s.cu
  have c4 := base.dayS s.da
  have c5 := base.inB s.nn 1 24
  have c6 := base.inB s.ra 0 10000
  have c7 := base.inB s.nu 1 1000000
  have c8 := base.inB s.de 1 1000000
  have c9 := base.inB s.op 0 1000000000000
  have c10 := base.inB s.up 0 1000000000000
  generalize inR s.id 1 999 = t0 at c0 TKE
  generalize inR s.co 1 999 = t1 at c1 TKE
  generalize inR s.me 1 999 = t2 at c2 TKE
  generalize inR s.cu 0 5 = t3 at c3 TKE
  generalize inR s.da 0 100000 = t4 at c4 TKE
  generalize inR s.nn 1 24 = t5 at c5 TKE
  generalize inR s.ra 0 10000 = t6 at c6 TKE
  generalize inR s.nu 1 1000000 = t7 at c7 TKE
  generalize inR s.de 1 1000000 = t8 at c8 TKE
  generalize inR s.op 0 1000000000000 = t9 at c9 TKE
  generalize inR s.up 0 1000000000000 = t10 at c10 TKE
  have TK := Lib.hid TKE
  clear TKE
  have C0 := Lib.hid c0
  have C1 := Lib.hid c1
  have C2 := Lib.hid c2
  have C3 := Lib.hid c3
  have C4 := Lib.hid c4
  have C5 := Lib.hid c5
  have C6 := Lib.hid c6
  have C7 := Lib.hid c7
  have C8 := Lib.hid c8
  have C9 := Lib.hid c9
  have C10 := Lib.hid c10
  clear c0 c1 c2 c3 c4 c5 c6 c7 c8 c9 c10
  have Oh := Lib.hid O0
  obtain ⟨y0, y1, y2, y3, y4, y5, y6, y7, y8, y9, y10, y11, y12⟩ := O0
  obtain ⟨n, hnz⟩ : ∃ n, n = l.length := ⟨_, rfl⟩
  obtain ⟨m, hmz⟩ : ∃ m, m = p.length := ⟨_, rfl⟩
  have HNZ := Lib.hid hnz
  have HMZ := Lib.hid hmz
  rw [← hnz] at hl ei ri B0 Oh y0 y1 y2 y3 y4 y5 y6 y7 y8 y9 y10 y11 y12 z0 ⊢
  rw [← hmz] at hn ep rp B0 Oh y0 y1 y2 y3 y4 y5 y6 y7 y8 y9 y10 y11 y12 z0 ⊢
  clear hnz hmz
  have CN := Lib.hid (fun W => base.inB (n : Int) 1 8 W)
  go_enter Try.func15, Try.ntmps15
  go_wp2_with fail
  generalize w.alloc (.cells #[.int .i64 s.id, .int .i64 s.co, .int .i64 s.me, .int .i64 s.cu, .int .i64 s.da, .int .i64 s.nn, .int .i64 s.ra, .int .i64 s.nu, .int .i64 s.de, .slice ai n ci, .slice ap m cp, .int .i64 s.op, .int .i64 s.up] 31) = W0 at B0 Oh y0 y1 y2 y3 y4 y5 y6 y7 y8 y9 y10 y11 y12 z0 ⊢
  refine (C0.out _).mono ?_
  rintro e w' ⟨rfl, rfl⟩
  cases t0
  · skip
    have NO := Lib.hid (show T = false from HT.out.trans (ok_no1 (by rw [TK.out]; simp)))
    go_wp2
    go_ret
    exact ⟨by rw [NO.out]; rfl, B0.out⟩
  · skip
    go_wp2_with fail
    refine (C1.out _).mono ?_
    rintro e w' ⟨rfl, rfl⟩
    cases t1
    · skip
      have NO := Lib.hid (show T = false from HT.out.trans (ok_no1 (by rw [TK.out]; simp)))
      go_wp2
      go_ret
      exact ⟨by rw [NO.out]; rfl, B0.out⟩
    · skip
      go_wp2_with fail
      refine (C2.out _).mono ?_
      rintro e w' ⟨rfl, rfl⟩
      cases t2
      · skip
        have NO := Lib.hid (show T = false from HT.out.trans (ok_no1 (by rw [TK.out]; simp)))
        go_wp2
        go_ret
        exact ⟨by rw [NO.out]; rfl, B0.out⟩
      · skip
        go_wp2_with fail
        refine (C3.out _).mono ?_
        rintro e w' ⟨rfl, rfl⟩
        cases t3
        · skip
          have NO := Lib.hid (show T = false from HT.out.trans (ok_no1 (by rw [TK.out]; simp)))
          go_wp2
          go_ret
          exact ⟨by rw [NO.out]; rfl, B0.out⟩
        · skip
          go_wp2_with fail
          refine (C4.out _).mono ?_
          rintro e w' ⟨rfl, rfl⟩
          cases t4
          · skip
            have NO := Lib.hid (show T = false from HT.out.trans (ok_no1 (by rw [TK.out]; simp)))
            go_wp2
            go_ret
            exact ⟨by rw [NO.out]; rfl, B0.out⟩
          · skip
            go_wp2_with fail
            refine (C5.out _).mono ?_
            rintro e w' ⟨rfl, rfl⟩
            cases t5
            · skip
              have NO := Lib.hid (show T = false from HT.out.trans (ok_no1 (by rw [TK.out]; simp)))
              go_wp2
              go_ret
              exact ⟨by rw [NO.out]; rfl, B0.out⟩
            · skip
              go_wp2_with fail
              refine (C6.out _).mono ?_
              rintro e w' ⟨rfl, rfl⟩
              cases t6
              · skip
                have NO := Lib.hid (show T = false from HT.out.trans (ok_no1 (by rw [TK.out]; simp)))
                go_wp2
                go_ret
                exact ⟨by rw [NO.out]; rfl, B0.out⟩
              · skip
                go_wp2_with fail
                refine (C7.out _).mono ?_
                rintro e w' ⟨rfl, rfl⟩
                cases t7
                · skip
                  have NO := Lib.hid (show T = false from HT.out.trans (ok_no1 (by rw [TK.out]; simp)))
                  go_wp2
                  go_ret
                  exact ⟨by rw [NO.out]; rfl, B0.out⟩
                · skip
                  go_wp2_with fail
                  refine (C8.out _).mono ?_
                  rintro e w' ⟨rfl, rfl⟩
                  cases t8
                  · skip
                    have NO := Lib.hid (show T = false from HT.out.trans (ok_no1 (by rw [TK.out]; simp)))
                    go_wp2
                    go_ret
                    exact ⟨by rw [NO.out]; rfl, B0.out⟩
                  · skip
                    go_wp2_with fail
                    refine (C9.out _).mono ?_
                    rintro e w' ⟨rfl, rfl⟩
                    cases t9
                    · skip
                      have NO := Lib.hid (show T = false from HT.out.trans (ok_no1 (by rw [TK.out]; simp)))
                      go_wp2
                      go_ret
                      exact ⟨by rw [NO.out]; rfl, B0.out⟩
                    · skip
                      go_wp2_with fail
                      refine (C10.out _).mono ?_
                      rintro e w' ⟨rfl, rfl⟩
                      cases t10
                      · skip
                        have NO := Lib.hid (show T = false from HT.out.trans (ok_no1 (by rw [TK.out]; simp)))
                        go_wp2
                        go_ret
                        exact ⟨by rw [NO.out]; rfl, B0.out⟩
                      · skip
                        have TKT := Lib.hid (show ord.tok s = true from by rw [TK.out]; rfl)
                        clear C0 C1 C2 C3 C4 C5 C6 C7 C8 C9 C10 TK
                        go_wp2_with fail
                        refine (CN.out _).mono ?_
                        rintro e w' ⟨rfl, rfl⟩
                        cases tn : inR (n : Int) 1 8
                        · skip
                          have tn2 := pl.inR_not.1 tn
                          have NO := Lib.hid (show T = false from HT.out.trans (ok_no2 (itv_f fun h => by have := h.1; have := h.2.1; have := HNZ.out; omega)))
                          go_wp2
                          go_ret
                          exact ⟨by rw [NO.out]; rfl, B0.out⟩
                        · skip
                          have tn2 := pl.inR_iff.1 tn
                          have n1 : 1 ≤ n := by omega
                          have n8 : n ≤ 8 := by omega
                          clear tn tn2
                          obtain rfl := ei (by omega)
                          clear ei
                          by_cases hm8 : 8 < m
                          · skip
                            have u1 : decide ((8 : Int) < (m : Int)) = true := by simp; omega
                            have u1' : decide (8 < m) = true := by simp; omega
                            have NO := Lib.hid (show T = false from HT.out.trans (ok_no3 (plv_f fun h => by have := h.1; have := HMZ.out; omega)))
                            go_wp2
                            go_ret
                            exact ⟨by rw [NO.out]; rfl, B0.out⟩
                          · skip
                            have u1 : decide ((8 : Int) < (m : Int)) = false := by simp; omega
                            have u1' : decide (8 < m) = false := by simp; omega
                            have m8 : m ≤ 8 := by omega
                            clear hm8
                            clear y0 y1 y2 y3 y4 y5 y6 y7 y8 y11 y12
                            go_wp2_with fail
                            go_loopw [3] (fun i wr => Below W0.heap.size W0 wr ∧ ∃ k : Nat, k ≤ n ∧ i = .int .i64 k ∧ ∀ j, j < k → iok (l.getD j four.zz) = true) (fun i _ => n - (intOf i).toNat)
                            case atStart => exact ⟨Below.refl _ _, 0, by omega, rfl, fun j h => by omega⟩
                            case round =>
                              obtain ⟨hB, k, hk, rfl, hf⟩ := hrel
                              have BB := Lib.hid hB
                              have FF := Lib.hid hf
                              have BW := Lib.hid (B0.out.trans (hB.mono B0.out.size))
                              have OK := Oh.out.keep (hB.block w.heap.size (by omega))
                              have y9 := OK.c9
                              have y10 := OK.c10
                              clear hf OK
                              by_cases hlt : k < n
                              · skip
                                have HLT := Lib.hid (show k < l.length from by rw [← HNZ.out]; exact hlt)
                                have q1 := (L.out.below BW.out).items.cells k HLT.out
                                obtain ⟨x, hx⟩ : ∃ x, x = l.getD k four.zz := ⟨_, rfl⟩
                                have HX := Lib.hid hx
                                rw [← hx] at q1
                                clear hx
                                obtain ⟨x1, x2, x3, x4⟩ := q1
                                have C := fun W => itemS x W
                                obtain ⟨t, ht⟩ : ∃ t, t = iok x := ⟨_, rfl⟩
                                rw [← ht] at C
                                have HP := Lib.hid ht
                                have z1 : (k : Int) < (n : Int) := by omega
                                have v1 : decide (k < n) = true := by simp; omega
                                clear ht hB
                                cases t with
                                | false =>
                                  have NO := Lib.hid (show T = false from HT.out.trans (ok_no2 (itv_f fun h => by have := h.2.2 k HLT.out; rw [← HX.out, ← HP.out] at this; cases this)))
                                  go_wp2_with fail
                                  refine (C _).mono ?_
                                  rintro e w1 ⟨rfl, hg⟩
                                  have G1 := Lib.hid (show Grew _ w1 from hg)
                                  clear hg
                                  go_wp2
                                  go_ret
                                  exact ⟨by rw [NO.out]; rfl, Grew.step BW.out (Nat.le_refl _) G1.out⟩
                                | true =>
                                  go_wp2_with fail
                                  refine (C _).mono ?_
                                  rintro e w1 ⟨rfl, hg⟩
                                  have G1 := Lib.hid (show Grew _ w1 from hg)
                                  clear hg
                                  go_wp2
                                  go_roundw
                                  case rel => exact ⟨Grew.step BB.out (Nat.le_refl _) G1.out, k + 1, by omega, by go_num, fun j hj => by
                                    by_cases e : j = k
                                    · subst e; rw [← HX.out]; exact HP.out.symm
                                    · exact FF.out j (by omega)⟩
                                  case measure => simp [intOf]; omega
                              · skip
                                have v1 : decide (k < n) = false := by simp; omega
                                obtain rfl : k = n := by omega
                                have TI := Lib.hid (show itv l = true from itv_t ⟨by rw [← HNZ.out]; omega, by rw [← HNZ.out]; omega, fun i hi => FF.out i (by rw [HNZ.out]; exact hi)⟩)
                                clear hB
                                go_wp2_with fail
                                go_loopw [4] (fun i wr2 => Below W0.heap.size W0 wr2 ∧ ∃ j : Nat, j ≤ m ∧ i = .int .i64 j ∧ ∀ q, q < j → pl.pv (nth p q) = true) (fun i _ => m - (intOf i).toNat)
                                case atStart => exact ⟨BB.out, 0, by omega, rfl, fun j h => by omega⟩
                                case round =>
                                  obtain ⟨hB2, j, hj, rfl, hf2⟩ := hrel
                                  have BB2 := Lib.hid hB2
                                  have FF2 := Lib.hid hf2
                                  have BW2 := Lib.hid (B0.out.trans (hB2.mono B0.out.size))
                                  have OK2 := Oh.out.keep (hB2.block w.heap.size (by omega))
                                  have y9 := OK2.c9
                                  have y10 := OK2.c10
                                  have y12 := OK2.c12
                                  clear hf2 OK2 v1
                                  by_cases hlt2 : j < m
                                  · skip
                                    have HLT2 := Lib.hid (show j < p.length from by rw [← HMZ.out]; exact hlt2)
                                    obtain rfl := ep (by omega)
                                    clear ep
                                    have q1 := (L.out.below BW2.out).plans.cells j HLT2.out
                                    have C := Lib.hid (fun W (hb : Below w.heap.size w W) => base.pkS W _ _ _ (nth p j) ((L.out.below hb).plans.rows j HLT2.out) (HM.out j HLT2.out))
                                    obtain ⟨t, ht⟩ : ∃ t, t = pl.pv (nth p j) := ⟨_, rfl⟩
                                    rw [← ht] at C
                                    have HP := Lib.hid ht
                                    have z1 : (j : Int) < (m : Int) := by omega
                                    have v1 : decide (j < m) = true := by simp; omega
                                    clear ht hB2
                                    generalize (nth p j).length = ln at q1 C
                                    generalize gs j = gk at q1 C
                                    generalize cs j = ck at q1 C
                                    cases t with
                                    | false =>
                                      have NO := Lib.hid (show T = false from HT.out.trans (ok_no3 (plv_f fun h => by have := h.2 j HLT2.out; rw [show p.getD j [] = nth p j from rfl, ← HP.out] at this; cases this)))
                                      go_wp2_with fail
                                      refine (C.out _ BW2.out).mono ?_
                                      rintro e w1 ⟨rfl, b1⟩
                                      have B1 := Lib.hid (BW2.out.trans (b1.mono BW2.out.size))
                                      clear b1
                                      go_wp2
                                      go_ret
                                      exact ⟨by rw [NO.out]; rfl, B1.out⟩
                                    | true =>
                                      go_wp2_with fail
                                      refine (C.out _ BW2.out).mono ?_
                                      rintro e w1 ⟨rfl, b1⟩
                                      have B1 := Lib.hid (BB2.out.trans (b1.mono BB2.out.size))
                                      clear b1
                                      go_wp2
                                      go_roundw
                                      case rel => exact ⟨B1.out, j + 1, by omega, by go_num, fun q hq => by
                                        by_cases e : q = j
                                        · subst e; exact HP.out.symm
                                        · exact FF2.out q (by omega)⟩
                                      case measure => simp [intOf]; omega
                                  · skip
                                    have v1 : decide (j < m) = false := by simp; omega
                                    obtain rfl : j = m := by omega
                                    have YES := Lib.hid (show T = bal s l p from HT.out.trans (ok_yes TKT.out TI.out (plv_t ⟨by rw [← HMZ.out]; omega, fun i hi => FF2.out i (by rw [HMZ.out]; exact hi)⟩)))
                                    have IVl := (itv_iff.1 TI.out).2.2
                                    have CV1 := Lib.hid (fun W (hb : Below w.heap.size w W) => valS1 W (some ⟨gi, 0, none⟩) ci gi l (L.out.below hb).items IVl (by rw [← HNZ.out]; omega))
                                    have CV2 := Lib.hid (fun W (hb : Below w.heap.size w W) => valS2 W (some ⟨gi, 0, none⟩) ci gi l (L.out.below hb).items IVl (by rw [← HNZ.out]; omega))
                                    have CS := Lib.hid (fun W (hb : Below w.heap.size w W) => sumsS W ap cp gp p gs cs (L.out.below hb).plans (by rw [← HMZ.out]; omega) HM.out)
                                    have SI := ord.sums_in IVl l.length (Nat.le_refl _)
                                    have PS := ord.ps_sin p p.length
                                    rw [vj1] at CV1
                                    rw [vj2] at CV2
                                    unfold bal at YES
                                    obtain ⟨V1, hV1⟩ : ∃ V, V = ord.su ord.vs l l.length := ⟨_, rfl⟩
                                    obtain ⟨V2, hV2⟩ : ∃ V, V = ord.su ord.vr l l.length := ⟨_, rfl⟩
                                    obtain ⟨Q, hQ⟩ : ∃ Q, Q = ord.ps p p.length := ⟨_, rfl⟩
                                    rw [← hV1, ← hV2] at SI
                                    rw [← hV1] at CV1
                                    rw [← hV2] at CV2
                                    rw [← hQ] at CS PS
                                    rw [← hV1, ← hV2, ← hQ] at YES
                                    rw [← HNZ.out] at CV1 CV2 SI
                                    rw [← HMZ.out] at CS PS
                                    clear hV1 hV2 hQ IVl
                                    obtain ⟨U, hU⟩ : ∃ U, U = s.up := ⟨_, rfl⟩
                                    have hu := tok_up TKT.out
                                    rw [← hU] at hu YES y12
                                    have HU := Lib.hid hU
                                    clear hU
                                    obtain ⟨v2, v1', v0, vk⟩ := SI
                                    have vk1 : V1 ≤ 8000000000 := by omega
                                    clear v0 vk
                                    obtain ⟨-, p0, p1, -, -, -, -, -, -, -, -, -, -⟩ := PS
                                    obtain ⟨T0, T1, T2, T3, T4, T5, T6⟩ := Q
                                    dsimp only at p0 p1 CS YES
                                    have p1 : T1 ≤ 192000000000000 := by omega
                                    have BD := Lib.hid BW2.out.drew
                                    have KS := Lib.hid (show ∀ W, Below W0.heap.size W0 W → (W.cell? ⟨w.heap.size, 9, none⟩ = some (.slice (some ⟨gi, 0, none⟩) k ci) ∧ W.cell? ⟨w.heap.size, 10, none⟩ = some (.slice ap j cp) ∧ W.cell? ⟨w.heap.size, 12, none⟩ = some (.int .i64 U)) from fun W hb => ⟨(hb.cell (p := ⟨w.heap.size, 9, none⟩) (show w.heap.size < W0.heap.size by omega)).trans Oh.out.c9, (hb.cell (p := ⟨w.heap.size, 10, none⟩) (show w.heap.size < W0.heap.size by omega)).trans Oh.out.c10, (hb.cell (p := ⟨w.heap.size, 12, none⟩) (show w.heap.size < W0.heap.size by omega)).trans (by rw [Oh.out.c12, HU.out])⟩)
                                    have KD := Lib.hid BB2.out.drew
                                    have fF : ∀ w0, (Instr.field 37 (.agg #[.int .i64 T0, .int .i64 T1, .int .i64 T2, .int .i64 T3, .int .i64 T4, .int .i64 T5, .int .i64 T6]) 1).run Try.prog w0 = .ok (.int .i64 T1) w0 := fun _ => rfl
                                    clear hB2
                                    go_wp2_with fail
                                    go_region_held3 (fun w' => w'.cell? ⟨w.heap.size, 9, none⟩ = some (.slice (some ⟨gi, 0, none⟩) k ci) ∧ w'.cell? ⟨w.heap.size, 10, none⟩ = some (.slice ap j cp) ∧ w'.cell? ⟨w.heap.size, 12, none⟩ = some (.int .i64 U)) (first | exact KS.out _ K5.out | exact KS.out _ K4.out | exact KS.out _ K3.out | exact KS.out _ KD.out | exact KS.out _ BB2.out | go_keep)
                                      (first
                                        | (go_at_call 51; refine (CV2.out w4 B4.out).mono ?_; rintro e w5 ⟨rfl, b'⟩; have B5 := Lib.hid (B4.out.trans (b'.mono B4.out.size)); have K5 := Lib.hid (K4.out.trans (b'.mono K4.out.size)); clear b')
                                        | (go_at_call 51; refine (CV1.out w3 B3.out).mono ?_; rintro e w4 ⟨rfl, b'⟩; have B4 := Lib.hid (B3.out.trans (b'.mono B3.out.size)); have K4 := Lib.hid (K3.out.trans (b'.mono K3.out.size)); clear b')
                                        | (go_at_call 50; refine (CS.out _ BD.out).mono ?_; rintro e w3 ⟨rfl, b'⟩; have B3 := Lib.hid (BD.out.trans (b'.mono BD.out.size)); have K3 := Lib.hid (KD.out.trans (b'.mono KD.out.size)); clear b'))
                                    all_goals
                                      go_wp2
                                      go_ret
                                      exact ⟨show Ending.returned (Value.bool (T1 == IntKind.i64.wrap (IntKind.i64.wrap (V1 - V2) - U))) = _ from by rw [YES.out, show IntKind.i64.wrap (V1 - V2) = V1 - V2 from by rw [IntKind.wrap_i64]; omega, show IntKind.i64.wrap (V1 - V2 - U) = V1 - V2 - U from by rw [IntKind.wrap_i64]; omega], B5.out⟩
end Go.Proofs.Ytmaejlfjdkkpdaa.ob
