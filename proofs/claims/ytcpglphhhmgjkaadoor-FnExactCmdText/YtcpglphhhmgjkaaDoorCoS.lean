/-
  Plain helpers of this seat's proofs: the model's CmdOk. Conditions: none.
-/
import Derived.Test.YtcpglphhhmgjkaaDoorCmk
import Derived.Test.YtcpglphhhmgjkaaDoorCmz
import Derived.Test.YtcpglphhhmgjkaaDoorCmf
namespace Go.Proofs.YtcpglphhhmgjkaaDoor.cm
open Go.ChangeShapes Go.WideShapes Go.ChangeAt Go.RowKit
open gen
open four (F4)
theorem ok_noz {s : Sc} {l : List F4} (h : ¬ Zs s) : ok s l = false := by unfold ok; rw [dB_f h]; simp
theorem ok_noi {s : Sc} {l : List F4} (h : ¬ Its s l) : ok s l = false := by unfold ok; rw [dB_f h]; simp
theorem ok_all {s : Sc} {l : List F4} (h1 : inR s.k 1 13 = true) (h2 : dB (Key s.key) = true) (h3 : fl s = true) (h4 : idB s = true) (h5 : Zs s) : ok s l = dB (Its s l) := by
  unfold ok kind; rw [h1, h2, h3, h4, dB_t h5]; rfl
theorem its_5 {s : Sc} {l : List F4} (h : s.k = 5) (hv : ∀ i, i < l.length → iok (l.getD i four.zz) = true ∧ (l.getD i four.zz).2.2.1 = 0) : dB (Its s l) = inR (l.length : Int) 1 8 := by
  by_cases q : 1 ≤ l.length ∧ l.length ≤ 8
  · rw [dB_t (by unfold Its; rw [if_pos h]; exact ⟨q.1, q.2, hv⟩)]; unfold inR; symm; simp; omega
  · rw [dB_f (by unfold Its; rw [if_pos h]; exact fun x => q ⟨x.1, x.2.1⟩)]; unfold inR; symm; simp; omega
theorem its_n {s : Sc} {l : List F4} (h : ¬ s.k = 5) : dB (Its s l) = ((l.length : Int) == 0) := by
  by_cases q : l.length = 0
  · rw [dB_t (by unfold Its; rw [if_neg h]; exact q), q]; rfl
  · rw [dB_f (by unfold Its; rw [if_neg h]; exact q)]; symm; exact beq_eq_false_iff_ne.2 (by omega)
set_option maxRecDepth 20000 in
set_option maxHeartbeats 8000000 in
theorem okS (w : World) (s : Sc) (ai : Option Addr) (ci gi : Nat) (l : List F4) (r : four.Row w ai ci gi l) (hl : l.length ≤ 1048576) (hk : s.key.size ≤ 1048576) :
    Calls Tryd.prog 8 #[.agg #[.int .i64 s.k, .string s.key, .int .i64 s.a, .int .i64 s.b, .int .i64 s.c, .int .i64 s.d, .int .i64 s.e, .int .i64 s.f, .slice ai l.length ci]] w fun e w' => e = .returned (.bool (ok s l)) ∧ Below w.heap.size w w' := by
  have B0 := Lib.hid (show Below w.heap.size w (w.alloc (.cells #[.int .i64 s.k, .string s.key, .int .i64 s.a, .int .i64 s.b, .int .i64 s.c, .int .i64 s.d, .int .i64 s.e, .int .i64 s.f, .slice ai l.length ci] 29)) from bAl (Below.refl _ _) (Nat.le_refl _) _)
  have O0 := Lib.hid (CB.new w s ai l.length ci 29)
  have z0 : (w.alloc (.cells #[.int .i64 s.k, .string s.key, .int .i64 s.a, .int .i64 s.b, .int .i64 s.c, .int .i64 s.d, .int .i64 s.e, .int .i64 s.f, .slice ai l.length ci] 29)).heap.size = w.heap.size + 1 := by simp only [sz_al]
  have R := Lib.hid r
  have ea := r.addr
  have er := r.room
  clear r
  obtain ⟨T, hT⟩ : ∃ T, T = ok s l := ⟨_, rfl⟩
  rw [← hT]
  have HT := Lib.hid hT
  clear hT
  obtain ⟨n, hnz⟩ : ∃ n, n = l.length := ⟨_, rfl⟩
  have HNZ := Lib.hid hnz
  rw [← hnz] at hl ea er B0 O0 z0 ⊢
  clear hnz
  have C1 := Lib.hid (fun W => inB s.k 1 13 W)
  have C2 := Lib.hid (fun W => keyS s.key W hk)
  have C3 := Lib.hid (fun W h => fS s ai n ci W h)
  have C4 := Lib.hid (fun W => idS s.a W)
  have C5 := Lib.hid (fun W => numsS s ai n ci W)
  have C6 := Lib.hid (fun W h => cntS s.k W h)
  have C7 := Lib.hid (fun W => inB (n : Int) 1 8 W)
  go_enter Tryd.func8, Tryd.ntmps8
  go_wp2_with fail
  generalize w.alloc (.cells #[.int .i64 s.k, .string s.key, .int .i64 s.a, .int .i64 s.b, .int .i64 s.c, .int .i64 s.d, .int .i64 s.e, .int .i64 s.f, .slice ai n ci] 29) = W0 at B0 O0 z0 ⊢
  obtain ⟨y0, y1, y2, y3, y4, y5, y6, y7, y8⟩ := O0.out
  refine (C1.out _).mono ?_
  rintro e w' ⟨rfl, rfl⟩
  cases tk : inR s.k 1 13
  · have NO := Lib.hid (show T = false from HT.out.trans (by unfold ok kind; rw [tk]; rfl))
    go_wp2
    go_ret
    exact ⟨by rw [NO.out]; rfl, B0.out⟩
  have TK := Lib.hid tk
  clear tk
  go_wp2_with fail
  refine (C2.out _).mono ?_
  rintro e w' ⟨rfl, rfl⟩
  cases tq : dB (Key s.key)
  · have NO := Lib.hid (show T = false from HT.out.trans (by unfold ok; rw [tq]; simp))
    clear tq
    go_wp2
    go_ret
    exact ⟨by rw [NO.out]; rfl, B0.out⟩
  have TQ := Lib.hid tq
  clear tq
  go_wp2_with fail
  refine (C3.out _ TK.out).mono ?_
  rintro e w1 ⟨rfl, b⟩
  have B1 := Lib.hid (B0.out.trans (b.mono B0.out.size))
  have O1 := Lib.hid (O0.out.keep (b.block w.heap.size (by omega)))
  have z1 : w.heap.size < w1.heap.size := O1.out.lt
  clear b y0 y1 y2 y3 y4 y5 y6 y7 y8 B0 O0 z0
  cases tf : fl s
  · have NO := Lib.hid (show T = false from HT.out.trans (by unfold ok; rw [tf]; simp))
    clear tf
    go_wp2
    go_ret
    exact ⟨by rw [NO.out]; rfl, B1.out⟩
  have TF := Lib.hid tf
  clear tf
  obtain ⟨y0, y1, y2, y3, y4, y5, y6, y7, y8⟩ := O1.out
  have e1 : (s.k != 1) = !(s.k == 1) := rfl
  have e2 : (s.k != 2) = !(s.k == 2) := rfl
  cases t1 : (s.k == 1)
  · rw [t1] at e1
    have e1 : (s.k != 1) = true := e1
    cases t2 : (s.k == 2)
    · rw [t2] at e2
      have e2 : (s.k != 2) = true := e2
      have HI := Lib.hid (show idB s = inR s.a 1 999 from by unfold idB; rw [if_neg (by simpa using t1), if_neg (by simpa using t2)])
      go_wp2_with fail
      refine (C4.out _).mono ?_
      rintro e w' ⟨rfl, rfl⟩
      cases ti : inR s.a 1 999
      · have NO := Lib.hid (show T = false from HT.out.trans (by unfold ok; rw [HI.out, ti]; simp))
        clear ti
        go_wp2
        go_ret
        exact ⟨by rw [NO.out]; rfl, B1.out⟩
      · have ID := Lib.hid (HI.out.trans ti)
        clear ti
        go_wp2_with fail
        refine (C5.out _).mono ?_
        rintro e w2 ⟨g, rfl, bk, hg, b⟩
        have B2 := Lib.hid (B1.out.trans (b.mono B1.out.size))
        have O2 := Lib.hid (O1.out.keep (b.block w.heap.size z1))
        have z2 : w.heap.size < w2.heap.size := O2.out.lt
        have K2 := Lib.hid bk
        clear b bk y0 y1 y2 y3 y4 y5 y6 y7 y8 hg
        obtain ⟨y0, y1, y2, y3, y4, y5, y6, y7, y8⟩ := O2.out
        go_wp2_with fail
        refine (C6.out _ TK.out).mono ?_
        rintro e w3 ⟨rfl, b⟩
        have B3 := Lib.hid (B2.out.trans (b.mono B2.out.size))
        have O3 := Lib.hid (O2.out.keep (b.block w.heap.size z2))
        have z3 : w.heap.size < w3.heap.size := O3.out.lt
        have K3 := Lib.hid (K2.out.below b K2.out.lt)
        clear b y0 y1 y2 y3 y4 y5 y6 y7 y8 z1 z2 B1 B2 O1 O2 K2
        obtain ⟨y0, -, -, -, -, -, -, -, y8⟩ := O3.out
        have cl := cnt_le s.k TK.out
        obtain ⟨c, hc⟩ : ∃ c, c = cnt s.k := ⟨_, rfl⟩
        have HC := Lib.hid hc
        rw [← hc] at cl ⊢
        clear hc
        go_wp2
        go_loop [4] (fun i => ∃ k : Nat, c ≤ k ∧ k ≤ 6 ∧ i = .int .i64 k ∧ ∀ j, c ≤ j → j < k → (nums s).getD j 0 = 0) (fun i => 6 - (intOf i).toNat)
        case atStart => exact ⟨c, Nat.le_refl _, cl, rfl, fun j h1 h2 => by omega⟩
        case round =>
          obtain ⟨k, hk0, hk, rfl, hf⟩ := hrel
          have FF := Lib.hid hf
          clear hf
          by_cases hlt : k < 6
          · have d1 : decide ((k : Int) < 6) = true := by simp; omega
            have d1' : decide (k < 6) = true := by simp; omega
            have z6 : (k : Int) < 6 := by omega
            obtain ⟨x, hx⟩ : ∃ x, x = (nums s).getD k 0 := ⟨_, rfl⟩
            have qx : w3.cell? ⟨g, k, none⟩ = some (.int .i64 x) := by rw [hx]; exact K3.out.cell k hlt
            have HX := Lib.hid hx
            clear hx
            cases tx : (x == 0)
            · have tn : (x != 0) = true := by simp [bne, tx]
              have NO := Lib.hid (show T = false from HT.out.trans (ok_noz fun z => by
                have := z k (by rw [← HC.out]; exact hk0) hlt
                rw [← HX.out] at this
                rw [this] at tx
                cases tx))
              clear tx
              go_wp2
              go_ret
              exact ⟨by rw [NO.out]; rfl, B3.out⟩
            · have tn : (x != 0) = false := by simp [bne, tx]
              have XZ := Lib.hid (show x = 0 by simpa using tx)
              clear tx
              go_wp2
              go_round
              case rel => exact ⟨k + 1, by omega, by omega, by go_num, fun j h1 h2 => by
                by_cases e : j = k
                · subst e; rw [← HX.out]; exact XZ.out
                · exact FF.out j h1 (by omega)⟩
              case measure => simp [intOf]; omega
          · have d1 : decide ((k : Int) < 6) = false := by simp; omega
            have d1' : decide (k < 6) = false := by simp; omega
            obtain rfl : k = 6 := by omega
            have ALL := Lib.hid (show T = dB (Its s l) from HT.out.trans (ok_all TK.out TQ.out TF.out ID.out (fun j h1 h2 => FF.out j (by rw [HC.out]; exact h1) h2)))
            clear hk0 hk hlt FF
            cases t5 : (s.k == 5)
            · have tn5 : (s.k != 5) = true := by simp [bne, t5]
              have VAL := Lib.hid (show T = ((n : Int) == 0) from by rw [HNZ.out]; exact ALL.out.trans (its_n (by simpa using t5)))
              have e0 : (n == 0) = ((n : Int) == 0) := by rw [Bool.eq_iff_iff, beq_iff_eq, beq_iff_eq]; omega
              clear t5
              have VB := Lib.hid (congrArg (fun b => Ending.returned (Value.bool b)) VAL.out.symm)
              go_wp2
              go_ret
              exact ⟨by first | exact VB.out | (rw [VAL.out]; rfl) | (rw [VAL.out, e0]; rfl), B3.out⟩
            · have tn5 : (s.k != 5) = false := by simp [bne, t5]
              have K5 := Lib.hid (show s.k = 5 by simpa using t5)
              clear t5
              go_wp2_with fail
              go_loopw [5] (fun i wr => Below w3.heap.size w3 wr ∧ ∃ k : Nat, k ≤ n ∧ i = .int .i64 k ∧ ∀ j, j < k → iok (l.getD j four.zz) = true ∧ (l.getD j four.zz).2.2.1 = 0) (fun i _ => n - (intOf i).toNat)
              case atStart => exact ⟨Below.refl _ _, 0, by omega, rfl, fun j h => by omega⟩
              case round =>
                obtain ⟨hB, k, hk, rfl, hf⟩ := hrel
                have BB := Lib.hid hB
                have FF := Lib.hid hf
                have BW := Lib.hid (B3.out.trans (hB.mono B3.out.size))
                have OW := Lib.hid (O3.out.keep (hB.block w.heap.size z3))
                clear hf hB y0 y8
                obtain ⟨y0, -, -, -, -, -, -, -, y8⟩ := OW.out
                by_cases hlt : k < n
                · have HLT := Lib.hid (show k < l.length from by rw [← HNZ.out]; exact hlt)
                  obtain rfl := ea (by omega)
                  clear ea
                  have RK := Lib.hid (fun W (hb : Below w.heap.size w W) => (R.out.keep (w' := W) fun h => hb.block gi (R.out.lt h)).cells k HLT.out)
                  have q1 := RK.out wr BW.out
                  obtain ⟨x, hx⟩ : ∃ x, x = l.getD k four.zz := ⟨_, rfl⟩
                  have HX := Lib.hid hx
                  rw [← hx] at q1 RK
                  clear hx
                  obtain ⟨x1, x2, x3, x4⟩ := q1
                  have C := fun W => itemS x W
                  obtain ⟨t, ht⟩ : ∃ t, t = iok x := ⟨_, rfl⟩
                  rw [← ht] at C
                  have HP := Lib.hid ht
                  have z1 : (k : Int) < (n : Int) := by omega
                  have v1 : decide (k < n) = true := by simp; omega
                  have NOT := Lib.hid (show ¬ (iok x = true ∧ x.2.2.1 = 0) → T = false from fun q => HT.out.trans (ok_noi fun i => by
                    unfold Its at i
                    rw [if_pos K5.out] at i
                    have := i.2.2 k HLT.out
                    rw [← HX.out] at this
                    exact q this))
                  clear ht
                  cases t with
                  | false =>
                    have NO := Lib.hid (show T = false from NOT.out fun q => by rw [← HP.out] at q; cases q.1)
                    go_wp2_with fail
                    refine (C _).mono ?_
                    rintro e w1 ⟨rfl, hg⟩
                    have G1 := Lib.hid (show Grew _ w1 from hg)
                    clear hg
                    go_wp2
                    go_ret
                    exact ⟨by rw [NO.out]; rfl, Grew.step BW.out (Nat.le_refl _) G1.out⟩
                  | true =>
                    go_wp2_with fail
                    refine (C _).mono ?_
                    rintro e w1 ⟨rfl, hg⟩
                    have G1 := Lib.hid (show Grew _ w1 from hg)
                    clear hg
                    have BW1 := Lib.hid (Grew.step BW.out (Nat.le_refl _) G1.out)
                    have BB1 := Lib.hid (Grew.step BB.out (Nat.le_refl _) G1.out)
                    clear x1 x2 x3 x4 y0 y8
                    obtain ⟨-, -, x3, -⟩ := RK.out w1 BW1.out
                    obtain ⟨y0, -, -, -, -, -, -, -, y8⟩ := O3.out.keep (BB1.out.block w.heap.size z3)
                    obtain ⟨sh, hsh⟩ : ∃ sh, sh = x.2.2.1 := ⟨_, rfl⟩
                    have HS := Lib.hid hsh
                    rw [← hsh] at x3
                    clear hsh
                    cases ts : (sh == 0)
                    · have tn : (sh != 0) = true := by simp [bne, ts]
                      have NO := Lib.hid (show T = false from NOT.out fun q => by rw [← HS.out] at q; rw [q.2] at ts; cases ts)
                      clear ts
                      go_wp2
                      go_ret
                      exact ⟨by rw [NO.out]; rfl, BW1.out⟩
                    · have tn : (sh != 0) = false := by simp [bne, ts]
                      have SZ := Lib.hid (show sh = 0 by simpa using ts)
                      clear ts
                      go_wp2
                      go_roundw
                      case rel => exact ⟨BB1.out, k + 1, by omega, by go_num, fun j hj => by
                        by_cases e : j = k
                        · subst e; rw [← HX.out]; exact ⟨HP.out.symm, by rw [← HS.out]; exact SZ.out⟩
                        · exact FF.out j (by omega)⟩
                      case measure => simp [intOf]; omega
                · have v1 : decide (k < n) = false := by simp; omega
                  have v2 : decide ((k : Int) < (n : Int)) = false := by simp; omega
                  obtain rfl : k = n := by omega
                  have VAL := Lib.hid (show T = inR (k : Int) 1 8 from by rw [HNZ.out]; exact ALL.out.trans (its_5 K5.out fun i hi => FF.out i (by rw [HNZ.out]; exact hi)))
                  generalize inR (k : Int) 1 8 = tz at VAL C7
                  go_wp2_with fail
                  refine (C7.out _).mono ?_
                  rintro e w' ⟨rfl, rfl⟩
                  go_wp2
                  go_ret
                  exact ⟨by rw [VAL.out]; rfl, BW.out⟩
    · rw [t2] at e2
      have e2 : (s.k != 2) = false := e2
      have ID := Lib.hid (show idB s = true from by unfold idB; rw [if_neg (by simpa using t1), if_pos (by simpa using t2)])
      go_wp2_with fail
      refine (C5.out _).mono ?_
      rintro e w2 ⟨g, rfl, bk, hg, b⟩
      have B2 := Lib.hid (B1.out.trans (b.mono B1.out.size))
      have O2 := Lib.hid (O1.out.keep (b.block w.heap.size z1))
      have z2 : w.heap.size < w2.heap.size := O2.out.lt
      have K2 := Lib.hid bk
      clear b bk y0 y1 y2 y3 y4 y5 y6 y7 y8 hg
      obtain ⟨y0, y1, y2, y3, y4, y5, y6, y7, y8⟩ := O2.out
      go_wp2_with fail
      refine (C6.out _ TK.out).mono ?_
      rintro e w3 ⟨rfl, b⟩
      have B3 := Lib.hid (B2.out.trans (b.mono B2.out.size))
      have O3 := Lib.hid (O2.out.keep (b.block w.heap.size z2))
      have z3 : w.heap.size < w3.heap.size := O3.out.lt
      have K3 := Lib.hid (K2.out.below b K2.out.lt)
      clear b y0 y1 y2 y3 y4 y5 y6 y7 y8 z1 z2 B1 B2 O1 O2 K2
      obtain ⟨y0, -, -, -, -, -, -, -, y8⟩ := O3.out
      have cl := cnt_le s.k TK.out
      obtain ⟨c, hc⟩ : ∃ c, c = cnt s.k := ⟨_, rfl⟩
      have HC := Lib.hid hc
      rw [← hc] at cl ⊢
      clear hc
      go_wp2
      go_loop [4] (fun i => ∃ k : Nat, c ≤ k ∧ k ≤ 6 ∧ i = .int .i64 k ∧ ∀ j, c ≤ j → j < k → (nums s).getD j 0 = 0) (fun i => 6 - (intOf i).toNat)
      case atStart => exact ⟨c, Nat.le_refl _, cl, rfl, fun j h1 h2 => by omega⟩
      case round =>
        obtain ⟨k, hk0, hk, rfl, hf⟩ := hrel
        have FF := Lib.hid hf
        clear hf
        by_cases hlt : k < 6
        · have d1 : decide ((k : Int) < 6) = true := by simp; omega
          have d1' : decide (k < 6) = true := by simp; omega
          have z6 : (k : Int) < 6 := by omega
          obtain ⟨x, hx⟩ : ∃ x, x = (nums s).getD k 0 := ⟨_, rfl⟩
          have qx : w3.cell? ⟨g, k, none⟩ = some (.int .i64 x) := by rw [hx]; exact K3.out.cell k hlt
          have HX := Lib.hid hx
          clear hx
          cases tx : (x == 0)
          · have tn : (x != 0) = true := by simp [bne, tx]
            have NO := Lib.hid (show T = false from HT.out.trans (ok_noz fun z => by
              have := z k (by rw [← HC.out]; exact hk0) hlt
              rw [← HX.out] at this
              rw [this] at tx
              cases tx))
            clear tx
            go_wp2
            go_ret
            exact ⟨by rw [NO.out]; rfl, B3.out⟩
          · have tn : (x != 0) = false := by simp [bne, tx]
            have XZ := Lib.hid (show x = 0 by simpa using tx)
            clear tx
            go_wp2
            go_round
            case rel => exact ⟨k + 1, by omega, by omega, by go_num, fun j h1 h2 => by
              by_cases e : j = k
              · subst e; rw [← HX.out]; exact XZ.out
              · exact FF.out j h1 (by omega)⟩
            case measure => simp [intOf]; omega
        · have d1 : decide ((k : Int) < 6) = false := by simp; omega
          have d1' : decide (k < 6) = false := by simp; omega
          obtain rfl : k = 6 := by omega
          have ALL := Lib.hid (show T = dB (Its s l) from HT.out.trans (ok_all TK.out TQ.out TF.out ID.out (fun j h1 h2 => FF.out j (by rw [HC.out]; exact h1) h2)))
          clear hk0 hk hlt FF
          cases t5 : (s.k == 5)
          · have tn5 : (s.k != 5) = true := by simp [bne, t5]
            have VAL := Lib.hid (show T = ((n : Int) == 0) from by rw [HNZ.out]; exact ALL.out.trans (its_n (by simpa using t5)))
            have e0 : (n == 0) = ((n : Int) == 0) := by rw [Bool.eq_iff_iff, beq_iff_eq, beq_iff_eq]; omega
            clear t5
            have VB := Lib.hid (congrArg (fun b => Ending.returned (Value.bool b)) VAL.out.symm)
            go_wp2
            go_ret
            exact ⟨by first | exact VB.out | (rw [VAL.out]; rfl) | (rw [VAL.out, e0]; rfl), B3.out⟩
          · have tn5 : (s.k != 5) = false := by simp [bne, t5]
            have K5 := Lib.hid (show s.k = 5 by simpa using t5)
            clear t5
            go_wp2_with fail
            go_loopw [5] (fun i wr => Below w3.heap.size w3 wr ∧ ∃ k : Nat, k ≤ n ∧ i = .int .i64 k ∧ ∀ j, j < k → iok (l.getD j four.zz) = true ∧ (l.getD j four.zz).2.2.1 = 0) (fun i _ => n - (intOf i).toNat)
            case atStart => exact ⟨Below.refl _ _, 0, by omega, rfl, fun j h => by omega⟩
            case round =>
              obtain ⟨hB, k, hk, rfl, hf⟩ := hrel
              have BB := Lib.hid hB
              have FF := Lib.hid hf
              have BW := Lib.hid (B3.out.trans (hB.mono B3.out.size))
              have OW := Lib.hid (O3.out.keep (hB.block w.heap.size z3))
              clear hf hB y0 y8
              obtain ⟨y0, -, -, -, -, -, -, -, y8⟩ := OW.out
              by_cases hlt : k < n
              · have HLT := Lib.hid (show k < l.length from by rw [← HNZ.out]; exact hlt)
                obtain rfl := ea (by omega)
                clear ea
                have RK := Lib.hid (fun W (hb : Below w.heap.size w W) => (R.out.keep (w' := W) fun h => hb.block gi (R.out.lt h)).cells k HLT.out)
                have q1 := RK.out wr BW.out
                obtain ⟨x, hx⟩ : ∃ x, x = l.getD k four.zz := ⟨_, rfl⟩
                have HX := Lib.hid hx
                rw [← hx] at q1 RK
                clear hx
                obtain ⟨x1, x2, x3, x4⟩ := q1
                have C := fun W => itemS x W
                obtain ⟨t, ht⟩ : ∃ t, t = iok x := ⟨_, rfl⟩
                rw [← ht] at C
                have HP := Lib.hid ht
                have z1 : (k : Int) < (n : Int) := by omega
                have v1 : decide (k < n) = true := by simp; omega
                have NOT := Lib.hid (show ¬ (iok x = true ∧ x.2.2.1 = 0) → T = false from fun q => HT.out.trans (ok_noi fun i => by
                  unfold Its at i
                  rw [if_pos K5.out] at i
                  have := i.2.2 k HLT.out
                  rw [← HX.out] at this
                  exact q this))
                clear ht
                cases t with
                | false =>
                  have NO := Lib.hid (show T = false from NOT.out fun q => by rw [← HP.out] at q; cases q.1)
                  go_wp2_with fail
                  refine (C _).mono ?_
                  rintro e w1 ⟨rfl, hg⟩
                  have G1 := Lib.hid (show Grew _ w1 from hg)
                  clear hg
                  go_wp2
                  go_ret
                  exact ⟨by rw [NO.out]; rfl, Grew.step BW.out (Nat.le_refl _) G1.out⟩
                | true =>
                  go_wp2_with fail
                  refine (C _).mono ?_
                  rintro e w1 ⟨rfl, hg⟩
                  have G1 := Lib.hid (show Grew _ w1 from hg)
                  clear hg
                  have BW1 := Lib.hid (Grew.step BW.out (Nat.le_refl _) G1.out)
                  have BB1 := Lib.hid (Grew.step BB.out (Nat.le_refl _) G1.out)
                  clear x1 x2 x3 x4 y0 y8
                  obtain ⟨-, -, x3, -⟩ := RK.out w1 BW1.out
                  obtain ⟨y0, -, -, -, -, -, -, -, y8⟩ := O3.out.keep (BB1.out.block w.heap.size z3)
                  obtain ⟨sh, hsh⟩ : ∃ sh, sh = x.2.2.1 := ⟨_, rfl⟩
                  have HS := Lib.hid hsh
                  rw [← hsh] at x3
                  clear hsh
                  cases ts : (sh == 0)
                  · have tn : (sh != 0) = true := by simp [bne, ts]
                    have NO := Lib.hid (show T = false from NOT.out fun q => by rw [← HS.out] at q; rw [q.2] at ts; cases ts)
                    clear ts
                    go_wp2
                    go_ret
                    exact ⟨by rw [NO.out]; rfl, BW1.out⟩
                  · have tn : (sh != 0) = false := by simp [bne, ts]
                    have SZ := Lib.hid (show sh = 0 by simpa using ts)
                    clear ts
                    go_wp2
                    go_roundw
                    case rel => exact ⟨BB1.out, k + 1, by omega, by go_num, fun j hj => by
                      by_cases e : j = k
                      · subst e; rw [← HX.out]; exact ⟨HP.out.symm, by rw [← HS.out]; exact SZ.out⟩
                      · exact FF.out j (by omega)⟩
                    case measure => simp [intOf]; omega
              · have v1 : decide (k < n) = false := by simp; omega
                have v2 : decide ((k : Int) < (n : Int)) = false := by simp; omega
                obtain rfl : k = n := by omega
                have VAL := Lib.hid (show T = inR (k : Int) 1 8 from by rw [HNZ.out]; exact ALL.out.trans (its_5 K5.out fun i hi => FF.out i (by rw [HNZ.out]; exact hi)))
                generalize inR (k : Int) 1 8 = tz at VAL C7
                go_wp2_with fail
                refine (C7.out _).mono ?_
                rintro e w' ⟨rfl, rfl⟩
                go_wp2
                go_ret
                exact ⟨by rw [VAL.out]; rfl, BW.out⟩
  · rw [t1] at e1
    have e1 : (s.k != 1) = false := e1
    have ID := Lib.hid (show idB s = true from by unfold idB; rw [if_pos (by simpa using t1)])
    go_wp2_with fail
    refine (C5.out _).mono ?_
    rintro e w2 ⟨g, rfl, bk, hg, b⟩
    have B2 := Lib.hid (B1.out.trans (b.mono B1.out.size))
    have O2 := Lib.hid (O1.out.keep (b.block w.heap.size z1))
    have z2 : w.heap.size < w2.heap.size := O2.out.lt
    have K2 := Lib.hid bk
    clear b bk y0 y1 y2 y3 y4 y5 y6 y7 y8 hg
    obtain ⟨y0, y1, y2, y3, y4, y5, y6, y7, y8⟩ := O2.out
    go_wp2_with fail
    refine (C6.out _ TK.out).mono ?_
    rintro e w3 ⟨rfl, b⟩
    have B3 := Lib.hid (B2.out.trans (b.mono B2.out.size))
    have O3 := Lib.hid (O2.out.keep (b.block w.heap.size z2))
    have z3 : w.heap.size < w3.heap.size := O3.out.lt
    have K3 := Lib.hid (K2.out.below b K2.out.lt)
    clear b y0 y1 y2 y3 y4 y5 y6 y7 y8 z1 z2 B1 B2 O1 O2 K2
    obtain ⟨y0, -, -, -, -, -, -, -, y8⟩ := O3.out
    have cl := cnt_le s.k TK.out
    obtain ⟨c, hc⟩ : ∃ c, c = cnt s.k := ⟨_, rfl⟩
    have HC := Lib.hid hc
    rw [← hc] at cl ⊢
    clear hc
    go_wp2
    go_loop [4] (fun i => ∃ k : Nat, c ≤ k ∧ k ≤ 6 ∧ i = .int .i64 k ∧ ∀ j, c ≤ j → j < k → (nums s).getD j 0 = 0) (fun i => 6 - (intOf i).toNat)
    case atStart => exact ⟨c, Nat.le_refl _, cl, rfl, fun j h1 h2 => by omega⟩
    case round =>
      obtain ⟨k, hk0, hk, rfl, hf⟩ := hrel
      have FF := Lib.hid hf
      clear hf
      by_cases hlt : k < 6
      · have d1 : decide ((k : Int) < 6) = true := by simp; omega
        have d1' : decide (k < 6) = true := by simp; omega
        have z6 : (k : Int) < 6 := by omega
        obtain ⟨x, hx⟩ : ∃ x, x = (nums s).getD k 0 := ⟨_, rfl⟩
        have qx : w3.cell? ⟨g, k, none⟩ = some (.int .i64 x) := by rw [hx]; exact K3.out.cell k hlt
        have HX := Lib.hid hx
        clear hx
        cases tx : (x == 0)
        · have tn : (x != 0) = true := by simp [bne, tx]
          have NO := Lib.hid (show T = false from HT.out.trans (ok_noz fun z => by
            have := z k (by rw [← HC.out]; exact hk0) hlt
            rw [← HX.out] at this
            rw [this] at tx
            cases tx))
          clear tx
          go_wp2
          go_ret
          exact ⟨by rw [NO.out]; rfl, B3.out⟩
        · have tn : (x != 0) = false := by simp [bne, tx]
          have XZ := Lib.hid (show x = 0 by simpa using tx)
          clear tx
          go_wp2
          go_round
          case rel => exact ⟨k + 1, by omega, by omega, by go_num, fun j h1 h2 => by
            by_cases e : j = k
            · subst e; rw [← HX.out]; exact XZ.out
            · exact FF.out j h1 (by omega)⟩
          case measure => simp [intOf]; omega
      · have d1 : decide ((k : Int) < 6) = false := by simp; omega
        have d1' : decide (k < 6) = false := by simp; omega
        obtain rfl : k = 6 := by omega
        have ALL := Lib.hid (show T = dB (Its s l) from HT.out.trans (ok_all TK.out TQ.out TF.out ID.out (fun j h1 h2 => FF.out j (by rw [HC.out]; exact h1) h2)))
        clear hk0 hk hlt FF
        cases t5 : (s.k == 5)
        · have tn5 : (s.k != 5) = true := by simp [bne, t5]
          have VAL := Lib.hid (show T = ((n : Int) == 0) from by rw [HNZ.out]; exact ALL.out.trans (its_n (by simpa using t5)))
          have e0 : (n == 0) = ((n : Int) == 0) := by rw [Bool.eq_iff_iff, beq_iff_eq, beq_iff_eq]; omega
          clear t5
          have VB := Lib.hid (congrArg (fun b => Ending.returned (Value.bool b)) VAL.out.symm)
          go_wp2
          go_ret
          exact ⟨by first | exact VB.out | (rw [VAL.out]; rfl) | (rw [VAL.out, e0]; rfl), B3.out⟩
        · have tn5 : (s.k != 5) = false := by simp [bne, t5]
          have K5 := Lib.hid (show s.k = 5 by simpa using t5)
          clear t5
          go_wp2_with fail
          go_loopw [5] (fun i wr => Below w3.heap.size w3 wr ∧ ∃ k : Nat, k ≤ n ∧ i = .int .i64 k ∧ ∀ j, j < k → iok (l.getD j four.zz) = true ∧ (l.getD j four.zz).2.2.1 = 0) (fun i _ => n - (intOf i).toNat)
          case atStart => exact ⟨Below.refl _ _, 0, by omega, rfl, fun j h => by omega⟩
          case round =>
            obtain ⟨hB, k, hk, rfl, hf⟩ := hrel
            have BB := Lib.hid hB
            have FF := Lib.hid hf
            have BW := Lib.hid (B3.out.trans (hB.mono B3.out.size))
            have OW := Lib.hid (O3.out.keep (hB.block w.heap.size z3))
            clear hf hB y0 y8
            obtain ⟨y0, -, -, -, -, -, -, -, y8⟩ := OW.out
            by_cases hlt : k < n
            · have HLT := Lib.hid (show k < l.length from by rw [← HNZ.out]; exact hlt)
              obtain rfl := ea (by omega)
              clear ea
              have RK := Lib.hid (fun W (hb : Below w.heap.size w W) => (R.out.keep (w' := W) fun h => hb.block gi (R.out.lt h)).cells k HLT.out)
              have q1 := RK.out wr BW.out
              obtain ⟨x, hx⟩ : ∃ x, x = l.getD k four.zz := ⟨_, rfl⟩
              have HX := Lib.hid hx
              rw [← hx] at q1 RK
              clear hx
              obtain ⟨x1, x2, x3, x4⟩ := q1
              have C := fun W => itemS x W
              obtain ⟨t, ht⟩ : ∃ t, t = iok x := ⟨_, rfl⟩
              rw [← ht] at C
              have HP := Lib.hid ht
              have z1 : (k : Int) < (n : Int) := by omega
              have v1 : decide (k < n) = true := by simp; omega
              have NOT := Lib.hid (show ¬ (iok x = true ∧ x.2.2.1 = 0) → T = false from fun q => HT.out.trans (ok_noi fun i => by
                unfold Its at i
                rw [if_pos K5.out] at i
                have := i.2.2 k HLT.out
                rw [← HX.out] at this
                exact q this))
              clear ht
              cases t with
              | false =>
                have NO := Lib.hid (show T = false from NOT.out fun q => by rw [← HP.out] at q; cases q.1)
                go_wp2_with fail
                refine (C _).mono ?_
                rintro e w1 ⟨rfl, hg⟩
                have G1 := Lib.hid (show Grew _ w1 from hg)
                clear hg
                go_wp2
                go_ret
                exact ⟨by rw [NO.out]; rfl, Grew.step BW.out (Nat.le_refl _) G1.out⟩
              | true =>
                go_wp2_with fail
                refine (C _).mono ?_
                rintro e w1 ⟨rfl, hg⟩
                have G1 := Lib.hid (show Grew _ w1 from hg)
                clear hg
                have BW1 := Lib.hid (Grew.step BW.out (Nat.le_refl _) G1.out)
                have BB1 := Lib.hid (Grew.step BB.out (Nat.le_refl _) G1.out)
                clear x1 x2 x3 x4 y0 y8
                obtain ⟨-, -, x3, -⟩ := RK.out w1 BW1.out
                obtain ⟨y0, -, -, -, -, -, -, -, y8⟩ := O3.out.keep (BB1.out.block w.heap.size z3)
                obtain ⟨sh, hsh⟩ : ∃ sh, sh = x.2.2.1 := ⟨_, rfl⟩
                have HS := Lib.hid hsh
                rw [← hsh] at x3
                clear hsh
                cases ts : (sh == 0)
                · have tn : (sh != 0) = true := by simp [bne, ts]
                  have NO := Lib.hid (show T = false from NOT.out fun q => by rw [← HS.out] at q; rw [q.2] at ts; cases ts)
                  clear ts
                  go_wp2
                  go_ret
                  exact ⟨by rw [NO.out]; rfl, BW1.out⟩
                · have tn : (sh != 0) = false := by simp [bne, ts]
                  have SZ := Lib.hid (show sh = 0 by simpa using ts)
                  clear ts
                  go_wp2
                  go_roundw
                  case rel => exact ⟨BB1.out, k + 1, by omega, by go_num, fun j hj => by
                    by_cases e : j = k
                    · subst e; rw [← HX.out]; exact ⟨HP.out.symm, by rw [← HS.out]; exact SZ.out⟩
                    · exact FF.out j (by omega)⟩
                  case measure => simp [intOf]; omega
            · have v1 : decide (k < n) = false := by simp; omega
              have v2 : decide ((k : Int) < (n : Int)) = false := by simp; omega
              obtain rfl : k = n := by omega
              have VAL := Lib.hid (show T = inR (k : Int) 1 8 from by rw [HNZ.out]; exact ALL.out.trans (its_5 K5.out fun i hi => FF.out i (by rw [HNZ.out]; exact hi)))
              generalize inR (k : Int) 1 8 = tz at VAL C7
              go_wp2_with fail
              refine (C7.out _).mono ?_
              rintro e w' ⟨rfl, rfl⟩
              go_wp2
              go_ret
              exact ⟨by rw [VAL.out]; rfl, BW.out⟩
end Go.Proofs.YtcpglphhhmgjkaaDoor.cm
