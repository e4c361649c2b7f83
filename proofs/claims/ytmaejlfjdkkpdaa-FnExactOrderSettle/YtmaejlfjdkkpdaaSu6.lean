/-
  Plain helpers of this seat's proofs: the contract of the landed method that sums the plans of an order. Conditions: none.
-/
import Derived.Test.YtmaejlfjdkkpdaaSi
import Derived.Test.YtmaejlfjdkkpdaaSmI
import Derived.Test.YtmaejlfjdkkpdaaBxs
namespace Go.Proofs.Ytmaejlfjdkkpdaa.ob
open Go.ChangeShapes Go.WideShapes Go.ChangeAt Go.RowKit
open gen
open seven (F7 zz Row At)
open four (F4)
open pl (inR)
open pls (nth Pls OL)
open ord (Sc iok)
set_option maxRecDepth 40000 in
set_option maxHeartbeats 4000000 in
theorem sumsI (w : World) (b : Nat) (s : Sc) (ai : Option Addr) (ni ci : Nat) (ap : Option Addr) (cp gp : Nat) (p : List (List F7)) (gs cs : Nat → Nat) (h : OB w b s ai ni ci ap p.length cp) (r : Pls w ap cp gp p gs cs) (hn : p.length ≤ 8) (hm : ∀ i, i < p.length → (nth p i).length ≤ 1048577) :
    Calls Try.prog 62 #[.pointer (some ⟨b, 0, none⟩)] w fun e w' => e = .returned (.agg #[.int .i64 (ord.ps p p.length).1, .int .i64 (ord.ps p p.length).2.1, .int .i64 (ord.ps p p.length).2.2.1, .int .i64 (ord.ps p p.length).2.2.2.1, .int .i64 (ord.ps p p.length).2.2.2.2.1, .int .i64 (ord.ps p p.length).2.2.2.2.2.1, .int .i64 (ord.ps p p.length).2.2.2.2.2.2]) ∧ Below w.heap.size w w' := by
  have R := Lib.hid r
  have HM := Lib.hid hm
  have e1 := r.addr
  have m1 := r.room
  have B0 := Lib.hid (show Below w.heap.size w ((w.alloc (.cells #[.int .i64 0, .int .i64 0, .int .i64 0, .int .i64 0, .int .i64 0, .int .i64 0, .int .i64 0] 37)).alloc (.cells #[.int .i64 0, .int .i64 0, .int .i64 0, .int .i64 0, .int .i64 0, .int .i64 0, .int .i64 0] 37)) from bAl (bAl (Below.refl _ _) (Nat.le_refl _) _) (Nat.le_refl _) _)
  have X0 := (base.Bx.zero w).keep (Below.heap_alloc (w.alloc (.cells #[.int .i64 0, .int .i64 0, .int .i64 0, .int .i64 0, .int .i64 0, .int .i64 0, .int .i64 0] 37)) (.cells #[.int .i64 0, .int .i64 0, .int .i64 0, .int .i64 0, .int .i64 0, .int .i64 0, .int .i64 0] 37) w.heap.size (by simp))
  have Y0 := base.Bx.zero (w.alloc (.cells #[.int .i64 0, .int .i64 0, .int .i64 0, .int .i64 0, .int .i64 0, .int .i64 0, .int .i64 0] 37))
  have z0 : ((w.alloc (.cells #[.int .i64 0, .int .i64 0, .int .i64 0, .int .i64 0, .int .i64 0, .int .i64 0, .int .i64 0] 37)).alloc (.cells #[.int .i64 0, .int .i64 0, .int .i64 0, .int .i64 0, .int .i64 0, .int .i64 0, .int .i64 0] 37)).heap.size = w.heap.size + 1 + 1 := by simp only [sz_al]
  simp only [sz_al] at Y0
  have y10 := (h.keep (B0.out.block b h.lt)).c10
  have bl := h.lt
  clear r h hm
  obtain ⟨n, hnz⟩ : ∃ n, n = p.length := ⟨_, rfl⟩
  rw [← hnz] at hn e1 m1 y10 ⊢
  have HNZ := Lib.hid hnz
  clear hnz
  go_enter Try.func62, Try.ntmps62
  go_wp2_with fail
  generalize (w.alloc (.cells #[.int .i64 0, .int .i64 0, .int .i64 0, .int .i64 0, .int .i64 0, .int .i64 0, .int .i64 0] 37)).alloc (.cells #[.int .i64 0, .int .i64 0, .int .i64 0, .int .i64 0, .int .i64 0, .int .i64 0, .int .i64 0] 37) = W0 at B0 X0 Y0 z0 y10 ⊢
  rcases Nat.eq_zero_or_pos n with rfl | hp
  · clear e1
    go_loop [11] (fun i => i = .int .i64 0) (fun _ => 0)
    case atStart => exact rfl
    case round =>
      obtain rfl := hrel
      obtain ⟨t, ht⟩ : ∃ t, t = zz := ⟨_, rfl⟩
      rw [← ht] at Y0
      have HT := Lib.hid ht
      clear ht
      have S := base.st7_at X0.at_ t
      have SB := Lib.hid (base.st7_below B0.out (Nat.le_refl w.heap.size) t)
      obtain ⟨v0, v1, v2, v3, v4, v5, v6⟩ := Y0.at_
      obtain ⟨a0, a1, a2, a3, a4, a5, a6⟩ := X0.at_
      have f0 := X0.free 0
      have f1 := X0.free 1
      have f2 := X0.free 2
      have f3 := X0.free 3
      have f4 := X0.free 4
      have f5 := X0.free 5
      have f6 := X0.free 6
      simp only [zz, Nat.zero_add] at v0 v1 v2 v3 v4 v5 v6 a0 a1 a2 a3 a4 a5 a6
      go_wp2
      change bodyPost _ _ _ _ _ (base.st7 W0 w.heap.size t)
      generalize base.st7 W0 w.heap.size t = W9 at S SB ⊢
      obtain ⟨c0, c1, c2, c3, c4, c5, c6⟩ := S
      simp only [Nat.zero_add] at c0 c1 c2 c3 c4 c5 c6
      exact bodyPost_ret (v := .agg #[.int .i64 t.1, .int .i64 t.2.1, .int .i64 t.2.2.1, .int .i64 t.2.2.2.1, .int .i64 t.2.2.2.2.1, .int .i64 t.2.2.2.2.2.1, .int .i64 t.2.2.2.2.2.2]) (by simp [results, Try.results62, go_sem, c0, c1, c2, c3, c4, c5, c6]) rfl ⟨by rw [HT.out]; rfl, SB.out⟩
  · obtain rfl := e1 hp
    clear e1
    go_loopw [11] (fun i wr => Below w.heap.size w wr ∧ w.heap.size + 1 < wr.heap.size ∧ base.Bx wr w.heap.size zz ∧ ∃ k : Nat, k ≤ n ∧ i = .int .i64 k ∧ base.Bx wr (w.heap.size + 1) (ord.ps p k)) (fun i _ => n - (intOf i).toNat)
    case atStart => exact ⟨B0.out, by omega, X0, 0, by omega, rfl, Y0⟩
    case round =>
      obtain ⟨hB, hsz, hX, k, hk, rfl, hY⟩ := hrel
      have BB := Lib.hid hB
      clear X0 Y0 z0 y10
      by_cases hlt : k < n
      · have XX := Lib.hid hX
        have YY := Lib.hid hY
        have HLT := Lib.hid (show k < p.length from by rw [← HNZ.out]; exact hlt)
        have q1 := (R.out.below hB).cells k HLT.out
        have CS := Lib.hid (fun W (hb : Below w.heap.size w W) => base.smI W _ _ _ (nth p k) ((R.out.below hb).rows k HLT.out) (HM.out k HLT.out))
        have PS := Lib.hid (ord.ps_sin p k)
        have TS := Lib.hid (ord.sums_sin (nth p k))
        have NX : ord.ps p (k + 1) = pl.add (ord.ps p k) (pl.sums (nth p k)) := rfl
        obtain ⟨T, hT⟩ : ∃ T, T = pl.sums (nth p k) := ⟨_, rfl⟩
        rw [← hT] at CS NX TS
        clear hT
        obtain ⟨S, hS⟩ : ∃ S, S = ord.ps p k := ⟨_, rfl⟩
        rw [← hS] at NX YY PS
        have NX := Lib.hid NX
        clear hS hB hX hY
        generalize (nth p k).length = ln at q1 CS
        generalize gs k = gk at q1 CS
        generalize cs k = ck at q1 CS
        have BA := Lib.hid (BB.out.alloc BB.out.size (.cells #[.slice (some ⟨gk, 0, none⟩) ln ck] 62))
        have z1 : (k : Int) < (n : Int) := by omega
        have v1 : decide (k < n) = true := by simp; omega
        go_wp2_with fail
        refine (CS.out _ BA.out).mono ?_
        rintro e w1 ⟨rfl, b1⟩
        have B1 := Lib.hid (BA.out.trans (b1.mono BA.out.size))
        have z1' := b1.size
        simp only [sz_al] at z1'
        have kp : ∀ c, c < wr.heap.size → w1.heap[c]? = wr.heap[c]? := fun c hc => (b1.block c (by simp only [sz_al]; omega)).trans (Below.heap_alloc wr _ c hc)
        have X1 := Lib.hid (XX.out.keep (kp w.heap.size (by omega)))
        have Y1 := YY.out.keep (kp (w.heap.size + 1) hsz)
        have AD := Lib.hid (base.addI w1 (w.heap.size + 1) S T Y1.at_ Y1.free (show pl.Sin 1000 S from by
          obtain ⟨a0, a1, a2, a3, a4, a5, a6, a7, a8, a9, b0, b1, b2⟩ := PS.out
          exact ⟨a0, a1, by omega, a3, by omega, a5, by omega, a7, a8, a9, b0, b1, b2⟩) (base.Bd.sin TS.out))
        clear b1 kp Y1
        go_wp2_with fail
        refine AD.out.mono ?_
        rintro e w3 ⟨⟨v, rfl⟩, ha, hf, ht⟩
        have T3 := Lib.hid ht
        have Y3 := Lib.hid (show base.Bx w3 (w.heap.size + 1) (ord.ps p (k + 1)) from ⟨by rw [NX.out]; exact ha, hf⟩)
        clear ha hf ht AD
        go_wp2
        go_roundw
        case rel => exact ⟨B1.out.trans (T3.out.below (by omega)), by have := T3.out.1.size; omega, X1.out.keep (T3.out.2 w.heap.size (by omega) (by omega)), k + 1, by omega, by go_num, Y3.out⟩
        case measure => simp [intOf]; omega
      · have u1 : decide (k < n) = false := by simp; omega
        obtain rfl : k = n := by omega
        obtain ⟨t, ht⟩ : ∃ t, t = ord.ps p k := ⟨_, rfl⟩
        rw [← ht] at hY
        have HT := Lib.hid ht
        clear ht hB
        have S := base.st7_at hX.at_ t
        have SB := Lib.hid (base.st7_below BB.out (Nat.le_refl w.heap.size) t)
        obtain ⟨v0, v1, v2, v3, v4, v5, v6⟩ := hY.at_
        obtain ⟨a0, a1, a2, a3, a4, a5, a6⟩ := hX.at_
        have f0 := hX.free 0
        have f1 := hX.free 1
        have f2 := hX.free 2
        have f3 := hX.free 3
        have f4 := hX.free 4
        have f5 := hX.free 5
        have f6 := hX.free 6
        simp only [zz, Nat.zero_add] at v0 v1 v2 v3 v4 v5 v6 a0 a1 a2 a3 a4 a5 a6
        go_wp2
        change bodyPost _ _ _ _ _ (base.st7 wr w.heap.size t)
        generalize base.st7 wr w.heap.size t = W9 at S SB ⊢
        obtain ⟨c0, c1, c2, c3, c4, c5, c6⟩ := S
        simp only [Nat.zero_add] at c0 c1 c2 c3 c4 c5 c6
        exact bodyPost_ret (v := .agg #[.int .i64 t.1, .int .i64 t.2.1, .int .i64 t.2.2.1, .int .i64 t.2.2.2.1, .int .i64 t.2.2.2.2.1, .int .i64 t.2.2.2.2.2.1, .int .i64 t.2.2.2.2.2.2]) (by simp [results, Try.results62, go_sem, c0, c1, c2, c3, c4, c5, c6]) rfl ⟨by rw [HT.out], SB.out⟩
end Go.Proofs.Ytmaejlfjdkkpdaa.ob
