/-
  Plain helpers of this seat's proofs: the contract of the landed method that sums the values of items. Conditions: none.
-/
import Derived.Test.YtmaejlfjdkkpdaaSi
import Derived.Test.YtmaejlfjdkkpdaaSi4
import Derived.Test.YtmaejlfjdkkpdaaBxs
namespace Go.Proofs.Ytmaejlfjdkkpdaa.ob
open Go.ChangeShapes Go.WideShapes Go.ChangeAt Go.RowKit
open gen
open seven (F7 zz Row At)
open four (F4)
open pl (inR)
open pls (nth Pls OL)
open ord (Sc iok)
set_option maxRecDepth 20000 in
set_option maxHeartbeats 2000000 in
theorem valuesI (w : World) (b : Nat) (s : Sc) (ai : Option Addr) (ci gi : Nat) (l : List F4) (ap : Option Addr) (np cp : Nat) (h : OB w b s ai l.length ci ap np cp) (r : four.Row w ai ci gi l) (hv : ord.IV l) (hn : l.length ≤ 8) :
    Calls Try.prog 61 #[.pointer (some ⟨b, 0, none⟩)] w fun e w' => e = .returned (.agg #[.int .i64 (ord.su ord.va l l.length), .int .i64 (ord.su ord.vs l l.length), .int .i64 (ord.su ord.vr l l.length)]) ∧ Below w.heap.size w w' := by
  have R := Lib.hid r
  have HV := Lib.hid hv
  have e1 := r.addr
  have m1 := r.room
  have B0 := Lib.hid (show Below w.heap.size w ((w.alloc (.cells #[.int .i64 0, .int .i64 0, .int .i64 0] 72)).alloc (.cells #[.int .i64 0, .int .i64 0, .int .i64 0] 72)) from bAl (bAl (Below.refl _ _) (Nat.le_refl _) _) (Nat.le_refl _) _)
  have X0 := Lib.hid ((Blk.new w #[.int .i64 0, .int .i64 0, .int .i64 0] 72 3 rfl).al (.cells #[.int .i64 0, .int .i64 0, .int .i64 0] 72))
  have X1 := Blk.new (w.alloc (.cells #[.int .i64 0, .int .i64 0, .int .i64 0] 72)) #[.int .i64 0, .int .i64 0, .int .i64 0] 72 3 rfl
  have z0 : ((w.alloc (.cells #[.int .i64 0, .int .i64 0, .int .i64 0] 72)).alloc (.cells #[.int .i64 0, .int .i64 0, .int .i64 0] 72)).heap.size = w.heap.size + 1 + 1 := by simp only [sz_al]
  simp only [sz_al] at X1
  have X1 := Lib.hid X1
  have y9 := (h.keep (B0.out.block b h.lt)).c9
  have bl := h.lt
  clear r h hv
  obtain ⟨n, hnz⟩ : ∃ n, n = l.length := ⟨_, rfl⟩
  rw [← hnz] at hn e1 m1 y9 ⊢
  have HNZ := Lib.hid hnz
  clear hnz
  go_enter Try.func61, Try.ntmps61
  go_wp2_with fail
  generalize (w.alloc (.cells #[.int .i64 0, .int .i64 0, .int .i64 0] 72)).alloc (.cells #[.int .i64 0, .int .i64 0, .int .i64 0] 72) = W0 at B0 X0 X1 z0 y9 ⊢
  rcases Nat.eq_zero_or_pos n with rfl | hp
  · clear e1
    have c0 : W0.cell? ⟨w.heap.size + 1, 0, none⟩ = some (.int .i64 0) := X1.out.cell 0 (by decide)
    have c1 : W0.cell? ⟨w.heap.size + 1, 1, none⟩ = some (.int .i64 0) := X1.out.cell 1 (by decide)
    have c2 : W0.cell? ⟨w.heap.size + 1, 2, none⟩ = some (.int .i64 0) := X1.out.cell 2 (by decide)
    have a0 : W0.cell? ⟨w.heap.size, 0, none⟩ = some (.int .i64 0) := X0.out.cell 0 (by decide)
    have a1 : W0.cell? ⟨w.heap.size, 1, none⟩ = some (.int .i64 0) := X0.out.cell 1 (by decide)
    have a2 : W0.cell? ⟨w.heap.size, 2, none⟩ = some (.int .i64 0) := X0.out.cell 2 (by decide)
    have f0 := X0.out.free 0
    have f1 := X0.out.free 1
    have f2 := X0.out.free 2
    go_loop [11] (fun i => i = .int .i64 0) (fun _ => 0)
    case atStart => exact rfl
    case round =>
      obtain rfl := hrel
      go_wp2
      have Y := (((X0.out.set (k := 0) (by decide) (.int .i64 0)).set (k := 1) (by decide) (.int .i64 0)).set (k := 2) (by decide) (.int .i64 0))
      have YB := (((B0.out.setCell (p := ⟨w.heap.size, 0, none⟩) (Nat.le_refl _) (.int .i64 0)).setCell (p := ⟨w.heap.size, 1, none⟩) (Nat.le_refl _) (.int .i64 0)).setCell (p := ⟨w.heap.size, 2, none⟩) (Nat.le_refl _) (.int .i64 0))
      change bodyPost _ _ _ _ _ (((W0.setCell ⟨w.heap.size, 0, none⟩ (.int .i64 0)).setCell ⟨w.heap.size, 1, none⟩ (.int .i64 0)).setCell ⟨w.heap.size, 2, none⟩ (.int .i64 0))
      generalize ((W0.setCell ⟨w.heap.size, 0, none⟩ (.int .i64 0)).setCell ⟨w.heap.size, 1, none⟩ (.int .i64 0)).setCell ⟨w.heap.size, 2, none⟩ (.int .i64 0) = W9 at Y YB ⊢
      have y0 : W9.cell? ⟨w.heap.size, 0, none⟩ = some (.int .i64 0) := Y.cell 0 (by decide)
      have y1 : W9.cell? ⟨w.heap.size, 1, none⟩ = some (.int .i64 0) := Y.cell 1 (by decide)
      have y2 : W9.cell? ⟨w.heap.size, 2, none⟩ = some (.int .i64 0) := Y.cell 2 (by decide)
      exact bodyPost_ret (v := .agg #[.int .i64 0, .int .i64 0, .int .i64 0]) (by simp [results, Try.results61, go_sem, y0, y1, y2]) rfl ⟨rfl, YB⟩
  · obtain rfl := e1 hp
    clear e1
    go_loopw [11] (fun i wr => Below w.heap.size w wr ∧ Blk wr w.heap.size 3 (cf #[.int .i64 0, .int .i64 0, .int .i64 0]) ∧ ∃ k : Nat, k ≤ n ∧ i = .int .i64 k ∧ Blk wr (w.heap.size + 1) 3 (cf #[.int .i64 (ord.su ord.va l k), .int .i64 (ord.su ord.vs l k), .int .i64 (ord.su ord.vr l k)])) (fun i _ => n - (intOf i).toNat)
    case atStart => exact ⟨B0.out, X0.out, 0, by omega, rfl, X1.out⟩
    case round =>
      obtain ⟨hB, hX, k, hk, rfl, hY⟩ := hrel
      have BB := Lib.hid hB
      have XX := Lib.hid hX
      have YY := Lib.hid hY
      have SI := ord.sums_in HV.out k (by rw [← HNZ.out]; exact hk)
      have c0 : wr.cell? ⟨w.heap.size + 1, 0, none⟩ = some (.int .i64 (ord.su ord.va l k)) := hY.cell 0 (by decide)
      have c1 : wr.cell? ⟨w.heap.size + 1, 1, none⟩ = some (.int .i64 (ord.su ord.vs l k)) := hY.cell 1 (by decide)
      have c2 : wr.cell? ⟨w.heap.size + 1, 2, none⟩ = some (.int .i64 (ord.su ord.vr l k)) := hY.cell 2 (by decide)
      have lw := hY.lt
      obtain ⟨S0, hS0⟩ : ∃ S, S = ord.su ord.va l k := ⟨_, rfl⟩
      obtain ⟨S1, hS1⟩ : ∃ S, S = ord.su ord.vs l k := ⟨_, rfl⟩
      obtain ⟨S2, hS2⟩ : ∃ S, S = ord.su ord.vr l k := ⟨_, rfl⟩
      rw [← hS0] at c0 SI YY
      rw [← hS1] at c1 SI YY
      rw [← hS2] at c2 SI YY
      have H0 := Lib.hid hS0
      have H1 := Lib.hid hS1
      have H2 := Lib.hid hS2
      obtain ⟨s2, s1, s0, sk⟩ := SI
      have sk : S0 ≤ 8000000000 := by omega
      clear hS0 hS1 hS2 hX hY
      by_cases hlt : k < n
      · have HLT := Lib.hid (show k < l.length from by rw [← HNZ.out]; exact hlt)
        have glt := R.out.lt (by have := HLT.out; omega)
        have q1 := (R.out.cells k HLT.out).keep (hB.block gi glt)
        have IN := ord.iok_iff.1 (HV.out k HLT.out)
        have VL := IN.vals
        obtain ⟨x, hx⟩ : ∃ x, x = l.getD k four.zz := ⟨_, rfl⟩
        have HX := Lib.hid hx
        rw [← hx] at q1 VL
        clear hx IN hB
        obtain ⟨q, p, sh, r⟩ := x
        obtain ⟨x1, x2, x3, x4⟩ := q1
        unfold ord.vr ord.vs ord.va at VL
        dsimp only at x1 x2 x3 x4 VL
        obtain ⟨v0, hv0⟩ : ∃ v, v = p * q := ⟨_, rfl⟩
        obtain ⟨v1, hv1⟩ : ∃ v, v = p * sh := ⟨_, rfl⟩
        obtain ⟨v2, hv2⟩ : ∃ v, v = p * r := ⟨_, rfl⟩
        rw [← hv0, ← hv1, ← hv2] at VL
        obtain ⟨w2, w1, w0, wk⟩ := VL
        have m0 : IntKind.i64.wrap (p * q) = v0 := by rw [← hv0, IntKind.wrap_i64]; omega
        have m1' : IntKind.i64.wrap (p * sh) = v1 := by rw [← hv1, IntKind.wrap_i64]; omega
        have m2 : IntKind.i64.wrap (p * r) = v2 := by rw [← hv2, IntKind.wrap_i64]; omega
        have K0 := Lib.hid (show S0 + v0 = ord.su ord.va l (k + 1) from by rw [H0.out, hv0]; show _ = _ + ord.va _; rw [← HX.out]; rfl)
        have K1 := Lib.hid (show S1 + v1 = ord.su ord.vs l (k + 1) from by rw [H1.out, hv1]; show _ = _ + ord.vs _; rw [← HX.out]; rfl)
        have K2 := Lib.hid (show S2 + v2 = ord.su ord.vr l (k + 1) from by rw [H2.out, hv2]; show _ = _ + ord.vr _; rw [← HX.out]; rfl)
        have f0 := YY.out.free 0
        have f1 := YY.out.free 1
        have f2 := YY.out.free 2
        have z1 : (k : Int) < (n : Int) := by omega
        have u1 : decide (k < n) = true := by simp; omega
        clear hv0 hv1 hv2 glt
        go_wp2
        go_roundw
        case rel =>
          refine ⟨((((BB.out.setCell (p := ⟨w.heap.size + 1, 0, none⟩) (show w.heap.size ≤ w.heap.size + 1 by omega) _).setCell (p := ⟨w.heap.size + 1, 1, none⟩) (show w.heap.size ≤ w.heap.size + 1 by omega) _).setCell (p := ⟨w.heap.size + 1, 2, none⟩) (show w.heap.size ≤ w.heap.size + 1 by omega) _).alloc (by simp only [sz_set]; exact BB.out.size) _), (((XX.out.other (by omega) _).other (by omega) _).other (by omega) _).al _, k + 1, by omega, by go_num, ?_⟩
          rw [← K0.out, ← K1.out, ← K2.out]
          refine ((((YY.out.set (by decide) _).set (by decide) _).set (by decide) _).al _).same fun j hj => ?_
          match j, hj with
          | 0, _ => rfl
          | 1, _ => rfl
          | 2, _ => rfl
        case measure => simp [intOf]; omega
      · have u1 : decide (k < n) = false := by simp; omega
        obtain rfl : k = n := by omega
        have a0 : wr.cell? ⟨w.heap.size, 0, none⟩ = some (.int .i64 0) := XX.out.cell 0 (by decide)
        have a1 : wr.cell? ⟨w.heap.size, 1, none⟩ = some (.int .i64 0) := XX.out.cell 1 (by decide)
        have a2 : wr.cell? ⟨w.heap.size, 2, none⟩ = some (.int .i64 0) := XX.out.cell 2 (by decide)
        have f0 := XX.out.free 0
        have f1 := XX.out.free 1
        have f2 := XX.out.free 2
        clear hB
        go_wp2
        have Y := (((XX.out.set (k := 0) (by decide) (.int .i64 S0)).set (k := 1) (by decide) (.int .i64 S1)).set (k := 2) (by decide) (.int .i64 S2))
        have YB := (((BB.out.setCell (p := ⟨w.heap.size, 0, none⟩) (Nat.le_refl _) (.int .i64 S0)).setCell (p := ⟨w.heap.size, 1, none⟩) (Nat.le_refl _) (.int .i64 S1)).setCell (p := ⟨w.heap.size, 2, none⟩) (Nat.le_refl _) (.int .i64 S2))
        change bodyPost _ _ _ _ _ (((wr.setCell ⟨w.heap.size, 0, none⟩ (.int .i64 S0)).setCell ⟨w.heap.size, 1, none⟩ (.int .i64 S1)).setCell ⟨w.heap.size, 2, none⟩ (.int .i64 S2))
        generalize ((wr.setCell ⟨w.heap.size, 0, none⟩ (.int .i64 S0)).setCell ⟨w.heap.size, 1, none⟩ (.int .i64 S1)).setCell ⟨w.heap.size, 2, none⟩ (.int .i64 S2) = W9 at Y YB ⊢
        have y0 : W9.cell? ⟨w.heap.size, 0, none⟩ = some (.int .i64 S0) := Y.cell 0 (by decide)
        have y1 : W9.cell? ⟨w.heap.size, 1, none⟩ = some (.int .i64 S1) := Y.cell 1 (by decide)
        have y2 : W9.cell? ⟨w.heap.size, 2, none⟩ = some (.int .i64 S2) := Y.cell 2 (by decide)
        exact bodyPost_ret (v := .agg #[.int .i64 S0, .int .i64 S1, .int .i64 S2]) (by simp [results, Try.results61, go_sem, y0, y1, y2]) rfl ⟨by rw [H0.out, H1.out, H2.out], YB⟩
end Go.Proofs.Ytmaejlfjdkkpdaa.ob
