/-
  Plain helpers of this seat's proofs: the landed methods that look at a command. Conditions: none.
-/
import Derived.Test.YtcpglphhhmgjkaaDoorCmv
import Derived.Test.YtcpglphhhmgjkaaDoorCmz
import Derived.Test.YtcpglphhhmgjkaaDoorCmk
import Derived.Test.YtcpglphhhmgjkaaDoorCmg
import Derived.Test.YtcpglphhhmgjkaaDoorCmi
import Derived.StillTailTactics
namespace Go.Proofs.YtcpglphhhmgjkaaDoor.cm
open Go.ChangeShapes Go.WideShapes Go.ChangeAt Go.RowKit
open gen
open four (F4)
set_option maxRecDepth 100000 in
set_option maxHeartbeats 4000000 in
theorem numbersI (s : Sc) (ai : Option Addr) (ni ci : Nat) (w : World) (g : Nat) (hb : CB w g s ai ni ci) : Calls Tryd.prog 35 #[.pointer (some ⟨g, 0, none⟩)] w fun e w' => e = .returned (.agg #[.int .i64 s.a, .int .i64 s.b, .int .i64 s.c, .int .i64 s.d, .int .i64 s.e, .int .i64 s.f]) ∧ Below w.heap.size w w' := by
  have lb := hb.lt
  have H1 := hb.keep (w' := w.alloc (.cells #[.int .i64 0, .int .i64 0, .int .i64 0, .int .i64 0, .int .i64 0, .int .i64 0] 57)) (Below.heap_alloc w _ g lb)
  have X := Blk.new w #[.int .i64 0, .int .i64 0, .int .i64 0, .int .i64 0, .int .i64 0, .int .i64 0] 57 6 rfl
  have B := Lib.hid (show Below w.heap.size w (w.alloc (.cells #[.int .i64 0, .int .i64 0, .int .i64 0, .int .i64 0, .int .i64 0, .int .i64 0] 57)) from bAl (Below.refl _ _) (Nat.le_refl _) _)
  obtain ⟨-, -, y2, y3, y4, y5, y6, y7, -⟩ := H1
  clear hb
  go_enter Tryd.func35, Tryd.ntmps35
  go_wp2_with fail
  obtain ⟨r, hr⟩ : ∃ r, r = w.heap.size := ⟨_, rfl⟩
  rw [← hr] at X lb ⊢
  have hr2 : w.heap.size ≤ r := by omega
  clear hr
  generalize w.alloc (.cells #[.int .i64 0, .int .i64 0, .int .i64 0, .int .i64 0, .int .i64 0, .int .i64 0] 57) = W0 at B X y2 y3 y4 y5 y6 y7 ⊢
  go_still_tail 25, (by kernel_rfl)
  change wpList _ _ _ _ _ W0.drew
  have XD := X.drew
  have BD := Lib.hid B.out.drew
  clear y2 y3 y4 y5 y6 y7 X B
  generalize W0.drew = w2 at XD BD ⊢
  have x0 : w2.cell? ⟨r, 0, none⟩ = some (.int .i64 0) := XD.cell 0 (by decide)
  have f0 := XD.free 0
  have x1 : w2.cell? ⟨r, 1, none⟩ = some (.int .i64 0) := XD.cell 1 (by decide)
  have f1 := XD.free 1
  have x2 : w2.cell? ⟨r, 2, none⟩ = some (.int .i64 0) := XD.cell 2 (by decide)
  have f2 := XD.free 2
  have x3 : w2.cell? ⟨r, 3, none⟩ = some (.int .i64 0) := XD.cell 3 (by decide)
  have f3 := XD.free 3
  have x4 : w2.cell? ⟨r, 4, none⟩ = some (.int .i64 0) := XD.cell 4 (by decide)
  have f4 := XD.free 4
  have x5 : w2.cell? ⟨r, 5, none⟩ = some (.int .i64 0) := XD.cell 5 (by decide)
  have f5 := XD.free 5
  have Y := Lib.hid ((((((XD.set (k := 0) (by decide) (.int .i64 s.a)).set (k := 1) (by decide) (.int .i64 s.b)).set (k := 2) (by decide) (.int .i64 s.c)).set (k := 3) (by decide) (.int .i64 s.d)).set (k := 4) (by decide) (.int .i64 s.e)).set (k := 5) (by decide) (.int .i64 s.f))
  have BF := Lib.hid (show Below w.heap.size w ((((((w2.setCell ⟨r, 0, none⟩ (.int .i64 s.a)).setCell ⟨r, 1, none⟩ (.int .i64 s.b)).setCell ⟨r, 2, none⟩ (.int .i64 s.c)).setCell ⟨r, 3, none⟩ (.int .i64 s.d)).setCell ⟨r, 4, none⟩ (.int .i64 s.e)).setCell ⟨r, 5, none⟩ (.int .i64 s.f)) from ((((((BD.out.setCell (p := ⟨r, 0, none⟩) (show w.heap.size ≤ r by omega) _).setCell (p := ⟨r, 1, none⟩) (show w.heap.size ≤ r by omega) _).setCell (p := ⟨r, 2, none⟩) (show w.heap.size ≤ r by omega) _).setCell (p := ⟨r, 3, none⟩) (show w.heap.size ≤ r by omega) _).setCell (p := ⟨r, 4, none⟩) (show w.heap.size ≤ r by omega) _).setCell (p := ⟨r, 5, none⟩) (show w.heap.size ≤ r by omega) _))
  clear XD BD
  go_wp2
  change bodyPost _ _ _ _ _ ((((((w2.setCell ⟨r, 0, none⟩ (.int .i64 s.a)).setCell ⟨r, 1, none⟩ (.int .i64 s.b)).setCell ⟨r, 2, none⟩ (.int .i64 s.c)).setCell ⟨r, 3, none⟩ (.int .i64 s.d)).setCell ⟨r, 4, none⟩ (.int .i64 s.e)).setCell ⟨r, 5, none⟩ (.int .i64 s.f))
  generalize (((((w2.setCell ⟨r, 0, none⟩ (.int .i64 s.a)).setCell ⟨r, 1, none⟩ (.int .i64 s.b)).setCell ⟨r, 2, none⟩ (.int .i64 s.c)).setCell ⟨r, 3, none⟩ (.int .i64 s.d)).setCell ⟨r, 4, none⟩ (.int .i64 s.e)).setCell ⟨r, 5, none⟩ (.int .i64 s.f) = W9 at Y BF ⊢
  have z0 : W9.cell? ⟨r, 0, none⟩ = some (.int .i64 s.a) := Y.out.cell 0 (by decide)
  have z1 : W9.cell? ⟨r, 1, none⟩ = some (.int .i64 s.b) := Y.out.cell 1 (by decide)
  have z2 : W9.cell? ⟨r, 2, none⟩ = some (.int .i64 s.c) := Y.out.cell 2 (by decide)
  have z3 : W9.cell? ⟨r, 3, none⟩ = some (.int .i64 s.d) := Y.out.cell 3 (by decide)
  have z4 : W9.cell? ⟨r, 4, none⟩ = some (.int .i64 s.e) := Y.out.cell 4 (by decide)
  have z5 : W9.cell? ⟨r, 5, none⟩ = some (.int .i64 s.f) := Y.out.cell 5 (by decide)
  refine bodyPost_ret (v := .agg #[.int .i64 s.a, .int .i64 s.b, .int .i64 s.c, .int .i64 s.d, .int .i64 s.e, .int .i64 s.f]) (by simp [results, Tryd.results35, go_sem, z0, z1, z2, z3, z4, z5]) rfl ⟨rfl, BF.out⟩
set_option maxRecDepth 100000 in
theorem sl6 (W : World) (r c m : Nat) (h : c + m = 6) : ∃ q : Addr, Sem.run Tryd.prog (Instr.sliceAt 57 (.pointer (some ⟨r, 0, none⟩)) (some (.int .i64 (c : Int))) none none) W = .ok (.slice (some q) m m) W ∧ (0 < m → q = ⟨r, c, none⟩) := by
  have e1 : Tryd.prog.arrayLen 57 = 6 := by kernel_rfl
  have e2 : Tryd.prog.elem 57 = 2 := by kernel_rfl
  have e3 : (sizeOf 2).run Tryd.prog W = .ok 1 W := by first | (simp [go_sem]; done) | rfl | kernel_rfl
  have h0 := run_sliceAt_array_l (P := Tryd.prog) W 57 ⟨r, 0, none⟩ (by kernel_rfl) .i64 (c : Int) (by omega) (by rw [e1]; omega)
  rw [e1, e2] at h0
  have e4 : (6 : Nat) - c = m := by omega
  refine ⟨if 6 = c then ⟨r, 0, none⟩ else (⟨r, 0, none⟩ : Addr).add (c * 1), h0.trans ?_, fun hm => ?_⟩
  · rw [e3]
    simp [Result.andThen, slicedAt, e4]
  · rw [if_neg (by omega)]
    unfold Addr.add
    by_cases hc : c = 0 <;> simp [hc]
set_option maxRecDepth 100000 in
set_option maxHeartbeats 4000000 in
theorem zeroI (s : Sc) (ai : Option Addr) (ni ci : Nat) (w : World) (b : Nat) (hb : CB w b s ai ni ci) (hf : Frm w) (hk : inR s.k 1 13 = true) : Calls Tryd.prog 30 #[.pointer (some ⟨b, 0, none⟩)] w fun e w' => e = .returned (.bool (dB (Zs s))) ∧ Below w.heap.size w w' := by
  obtain ⟨T, hT⟩ : ∃ T, T = dB (Zs s) := ⟨_, rfl⟩
  rw [← hT]
  have HT := Lib.hid hT
  clear hT
  have HB := Lib.hid hb
  have HF := Lib.hid hf
  have C1 := Lib.hid (numbersI s ai ni ci w b hb)
  have cl := cnt_le s.k hk
  have lb := hb.lt
  have lf := hf.lt
  have k0 : 1 ≤ s.k ∧ s.k ≤ 13 := by unfold inR at hk; simp at hk; omega
  obtain ⟨kn, hkn⟩ : ∃ kn : Nat, kn = s.k.toNat := ⟨_, rfl⟩
  have KN := Lib.hid (show s.k = (kn : Int) by omega)
  have kn1 : 1 ≤ kn := by omega
  have kn2 : kn ≤ 13 := by omega
  have QF := Lib.hid (show ∀ W, Frm W → W.cell? ⟨0, kn * 2 + 1, none⟩ = some (.int .i64 (cnt s.k : Nat)) from fun W h => by
    have := h.at s.k hk
    rw [← hkn, Nat.mul_comm] at this
    exact this)
  obtain ⟨c, hc⟩ : ∃ c, c = cnt s.k := ⟨_, rfl⟩
  have HC := Lib.hid hc
  rw [← hc] at cl QF
  clear hc hkn k0 hb hf hk
  go_enter Tryd.func30, Tryd.ntmps30
  go_wp2_with fail
  refine C1.out.mono ?_
  rintro e w1 ⟨rfl, b1⟩
  have B2 := Lib.hid (bAl b1 (Nat.le_refl _) (.cells #[.int .i64 s.a, .int .i64 s.b, .int .i64 s.c, .int .i64 s.d, .int .i64 s.e, .int .i64 s.f] 57))
  have K := (Blk.new w1 #[.int .i64 s.a, .int .i64 s.b, .int .i64 s.c, .int .i64 s.d, .int .i64 s.e, .int .i64 s.f] 57 6 rfl).lit (A' := nA s) (fun i hi => by
    match i, hi with
    | 0, _ => rfl
    | 1, _ => rfl
    | 2, _ => rfl
    | 3, _ => rfl
    | 4, _ => rfl
    | 5, _ => rfl)
  have KK := Lib.hid K
  have y0 := (HB.out.keep (B2.out.block b lb)).c0
  rw [KN.out] at y0
  have yf := QF.out _ (HF.out.below B2.out lf)
  obtain ⟨m, hm⟩ : ∃ m, c + m = 6 := ⟨6 - c, by omega⟩
  obtain ⟨q, SL, hq⟩ := sl6 (w1.alloc (.cells #[.int .i64 s.a, .int .i64 s.b, .int .i64 s.c, .int .i64 s.d, .int .i64 s.e, .int .i64 s.f] 57)) w1.heap.size c m hm
  have HQ := Lib.hid hq
  have m6 : m ≤ 6 := by omega
  have HM := Lib.hid hm
  clear b1 K hq hm
  go_wp2_with fail
  clear SL yf y0
  obtain ⟨r, hr⟩ : ∃ r, r = w1.heap.size := ⟨_, rfl⟩
  rw [← hr] at KK HQ
  clear hr
  generalize w1.alloc (.cells #[.int .i64 s.a, .int .i64 s.b, .int .i64 s.c, .int .i64 s.d, .int .i64 s.e, .int .i64 s.f] 57) = W5 at B2 KK ⊢
  go_loop [17] (fun i => ∃ k : Nat, k ≤ m ∧ i = .int .i64 k ∧ ∀ j, j < k → (nums s).getD (c + j) 0 = 0) (fun i => m - (intOf i).toNat)
  case atStart => exact ⟨0, by omega, rfl, fun j h => by omega⟩
  case round =>
    obtain ⟨k, hk, rfl, hf⟩ := hrel
    have FF := Lib.hid hf
    clear hf
    by_cases hlt : k < m
    · have d1 : decide ((k : Int) < (m : Int)) = true := by simp; omega
      have d1' : decide (k < m) = true := by simp; omega
      have z6 : (k : Int) < (m : Int) := by omega
      obtain rfl := HQ.out (by omega)
      obtain ⟨x, hx⟩ : ∃ x, x = (nums s).getD (c + k) 0 := ⟨_, rfl⟩
      have qx : W5.cell? ⟨r, c + k, none⟩ = some (.int .i64 x) := by rw [hx]; exact KK.out.cell (c + k) (by have := HM.out; omega)
      have HX := Lib.hid hx
      clear hx
      cases tx : (x == 0)
      · have tn : (x != 0) = true := by simp [bne, tx]
        have NO := Lib.hid (show T = false from HT.out.trans (dB_f fun z => by
          have := z (c + k) (by rw [← HC.out]; omega) (by have := HM.out; omega)
          rw [← HX.out] at this
          rw [this] at tx
          cases tx))
        clear tx
        go_wp2
        go_ret
        exact ⟨by rw [NO.out]; rfl, B2.out⟩
      · have tn : (x != 0) = false := by simp [bne, tx]
        have XZ := Lib.hid (show x = 0 by simpa using tx)
        clear tx
        go_wp2
        go_round
        case rel => exact ⟨k + 1, by omega, by go_num, fun j hj => by
          by_cases e : j = k
          · subst e; rw [← HX.out]; exact XZ.out
          · exact FF.out j (by omega)⟩
        case measure => simp [intOf]; omega
    · have d1 : decide ((k : Int) < (m : Int)) = false := by simp; omega
      have d1' : decide (k < m) = false := by simp; omega
      obtain rfl : k = m := by omega
      have YES := Lib.hid (show T = true from HT.out.trans (dB_t fun j h1 h2 => by
        rw [← HC.out] at h1
        have := FF.out (j - c) (by have := HM.out; omega)
        rw [show c + (j - c) = j by omega] at this
        exact this))
      go_wp2
      go_ret
      exact ⟨by rw [YES.out]; rfl, B2.out⟩
end Go.Proofs.YtcpglphhhmgjkaaDoor.cm
