/-
  Plain helpers of this seat's proofs: late fees of an order: their mathematics, and the landed method. Conditions: none.
-/
import Derived.Test.YtmaejlfjdkkpdaaPlSt
import Derived.Test.YtmaejlfjdkkpdaaSi
import Derived.Test.YtmaejlfjdkkpdaaLn7
import Derived.Test.YtmaejlfjdkkpdaaLtI
namespace Go.Proofs.Ytmaejlfjdkkpdaa.ob
open Go.ChangeShapes Go.WideShapes Go.ChangeAt Go.RowKit
open gen
open seven (F7 zz Row At)
open four (F4)
open pl (inR)
open pls (nth Pls OL)
open ord (Sc iok)
/-- Late fees of one plan. -/
noncomputable def stL (d f g : Int) (S : Int) (q : List F7) : List F7 × Int := (base.ltL q d f g, S + base.ltN q d f g)
noncomputable def ltLs (p : List (List F7)) (d f g : Int) : List (List F7) := wk.fw (stL d f g) 0 p p.length
noncomputable def ltNs (p : List (List F7)) (d f g : Int) : Int := wk.fs (stL d f g) 0 p p.length
theorem ltN_in (q : List F7) (d f g : Int) : 0 ≤ base.ltN q d f g ∧ base.ltN q d f g ≤ 2400000 := by
  cases h : base.ltOk q d f g with
  | false => rw [(base.lt_no h).2]; omega
  | true =>
    rw [(base.lt_yes h).2]
    unfold base.ltOk at h
    simp only [Bool.and_eq_true, pl.inR_iff] at h
    have := base.late_sum (d := d) (f := f) (g := g) (l := q) h.2.1.2.1 h.2.1.2.2 q.length (Nat.le_refl _)
    have := (pl.pv_iff.1 h.1).1
    omega
theorem lt_fs (d f g : Int) {p : List (List F7)} : ∀ k, k ≤ p.length → 0 ≤ wk.fs (stL d f g) 0 p k ∧ wk.fs (stL d f g) 0 p k ≤ k * 2400000
  | 0, _ => by rw [wk.fs_zero]; simp
  | k + 1, hk => by
    have h1 := lt_fs d f g (p := p) k (by omega)
    have h2 := ltN_in (p.getD k []) d f g
    rw [wk.fs_succ [] _ _ (show k < p.length by omega)]
    show 0 ≤ wk.fs (stL d f g) 0 p k + base.ltN (p.getD k []) d f g ∧ wk.fs (stL d f g) 0 p k + base.ltN (p.getD k []) d f g ≤ _
    omega
set_option maxRecDepth 40000 in
set_option maxHeartbeats 4000000 in
theorem lateI (d f g : Int) (w : World) (b : Nat) (s : Sc) (ai : Option Addr) (ni ci : Nat) (cp gp : Nat) (p : List (List F7)) (gs cs : Nat → Nat) (hb : OB w b s ai ni ci (some ⟨gp, 0, none⟩) p.length cp) (rp : Pls w (some ⟨gp, 0, none⟩) cp gp p gs cs) (hgp : gp < w.heap.size) (hne : b ≠ gp) (pv : ord.PVs p) (hn : p.length ≤ 8)
    (ht : (inR d 0 100000 && inR f 0 100000 && inR g 0 60) = true) :
    Calls Try.prog 76 #[.pointer (some ⟨b, 0, none⟩), .int .i64 d, .int .i64 f, .int .i64 g] w fun e w' => ∃ gs' cs', e = .returned (.int .i64 (ltNs p d f g)) ∧ Pls w' (some ⟨gp, 0, none⟩) cp gp (ltLs p d f g) gs' cs' ∧ (∀ i, i < p.length → w.heap.size ≤ gs' i) ∧ base.Turned gp w w' := by
  have R := Lib.hid rp
  have OBh := Lib.hid hb
  have PV := Lib.hid pv
  have HT := Lib.hid ht
  have m1 := rp.room
  have bl := hb.lt
  have y10 := hb.c10
  unfold ltNs ltLs
  clear rp hb pv ht
  obtain ⟨n, hnz⟩ : ∃ n, n = p.length := ⟨_, rfl⟩
  rw [← hnz] at hn m1 y10 ⊢
  have HNZ := Lib.hid hnz
  clear hnz
  go_enter Try.func76, Try.ntmps76
  go_wp2
  go_loopw [9, 18] (fun a i wr => ∃ (k : Nat) (gs' cs' : Nat → Nat), k ≤ n ∧ i = .int .i64 k ∧ a = .int .i64 (wk.fs (stL d f g) 0 p k) ∧ Pls wr (some ⟨gp, 0, none⟩) cp gp (wk.fw (stL d f g) 0 p k) gs' cs' ∧ base.Turned gp w wr ∧ ∀ j, j < n → (j < k → w.heap.size ≤ gs' j) ∧ (k ≤ j → gs' j = gs j)) (fun _ i _ => n - (intOf i).toNat)
  case atStart => exact ⟨0, gs, cs, by omega, rfl, by rw [wk.fs_zero], by rw [wk.fw_zero]; exact R.out, base.Turned.refl _ _, fun j _ => ⟨fun h => by omega, fun _ => rfl⟩⟩
  case round =>
    obtain ⟨k, gs', cs', hk, rfl, rfl, hP, hT, hG⟩ := hrel
    have PP := Lib.hid hP
    have TT := Lib.hid hT
    have GG := Lib.hid hG
    have SB := lt_fs d f g (p := p) k (by rw [← HNZ.out]; exact hk)
    obtain ⟨S, hS⟩ : ∃ S, S = wk.fs (stL d f g) 0 p k := ⟨_, rfl⟩
    rw [← hS] at SB ⊢
    have HS := Lib.hid hS
    obtain ⟨s0, s1⟩ := SB
    have s1 : S ≤ 19200000 := by omega
    have y10 := (OBh.out.keep (hT.2 b hne bl)).c10
    clear hS
    by_cases hlt : k < n
    · have HLT := Lib.hid (show k < p.length from by rw [← HNZ.out]; exact hlt)
      have FL := Lib.hid (show k < (wk.fw (stL d f g) 0 p k).length from by rw [wk.fw_len]; exact HLT.out)
      have NK : nth (wk.fw (stL d f g) 0 p k) k = nth p k := wk.fw_get [] _ _ HLT.out
      have q1 := hP.cells k FL.out
      have q2 := hP.rows k FL.out
      rw [NK] at q1 q2
      have OK : base.ltOk (nth p k) d f g = true := by unfold base.ltOk; rw [HT.out, Bool.and_true]; exact PV.out k HLT.out
      have NI := ltN_in (nth p k) d f g
      have FS : wk.fs (stL d f g) 0 p (k + 1) = S + base.ltN (nth p k) d f g := by rw [wk.fs_succ [] _ _ HLT.out, ← HS.out]; rfl
      have FW : wk.fw (stL d f g) 0 p (k + 1) = (wk.fw (stL d f g) 0 p k).set k (base.ltL (nth p k) d f g) := by rw [wk.fw_succ [] _ _ HLT.out]; rfl
      have C := base.ltI d f g wr (cs' k) (gs' k) (nth p k) q2 (Nat.le_trans (show (nth p k).length ≤ 24 from (pl.pv_iff.1 (PV.out k HLT.out)).1) (by omega))
      obtain ⟨P, hP'⟩ : ∃ P, P = base.ltL (nth p k) d f g := ⟨_, rfl⟩
      obtain ⟨M, hM⟩ : ∃ M, M = base.ltN (nth p k) d f g := ⟨_, rfl⟩
      rw [← hP'] at C FW
      rw [← hM] at C FS NI
      rw [OK] at C
      have FSh := Lib.hid FS
      have FWh := Lib.hid FW
      have CH := Lib.hid C
      have LGK := Lib.hid (show gs' k < wr.heap.size from hP.lt k FL.out)
      clear FS FW C hP' hM OK NK q2 hP hT hG
      generalize (nth p k).length = ln at q1 CH
      generalize gs' k = gk at q1 CH
      generalize cs' k = ck at q1 CH
      obtain ⟨m0, m9⟩ := NI
      have z1 : (k : Int) < (n : Int) := by omega
      have v1 : decide (k < n) = true := by simp; omega
      go_wp2_with fail
      refine CH.out.mono ?_
      rintro e w1 ⟨a1, c1, g1, rfl, r1, -, b1, o1⟩
      obtain ⟨rfl, l1, k1⟩ := o1 rfl
      have P1 := Lib.hid (PP.out.below b1)
      have R1 := Lib.hid r1
      have T1 := Lib.hid (pls.Turned.of TT.out b1 (Nat.le_of_lt (Nat.lt_of_lt_of_le hgp TT.out.1.size)))
      have y10 := (OBh.out.keep (T1.out.2 b hne bl)).c10
      have x1 := P1.out.cells k FL.out
      have f1 := P1.out.free (by have := FL.out; omega) k
      have L1 := Lib.hid (show wr.heap.size ≤ g1 ∧ g1 < w1.heap.size from ⟨l1, k1⟩)
      clear r1 b1 o1 q1 CH l1 k1
      go_wp2
      go_roundw
      case rel =>
        have hw := TT.out.1.size
        refine ⟨k + 1, pls.up gs' k g1, pls.up cs' k c1, by omega, by go_num, by rw [FSh.out], ?_, pls.Turned.trans T1.out ((base.Turned.refl gp w1).set k _), fun j hj => ⟨fun h => ?_, fun h => ?_⟩⟩
        · show Pls _ _ _ _ (wk.fw (stL d f g) 0 p (k + 1)) _ _
          rw [show wk.fw (stL d f g) 0 p (k + 1) = (wk.fw (stL d f g) 0 p k).set k P from FWh.out]
          exact P1.out.set FL.out R1.out L1.out.2 (by have := L1.out; omega) (fun i hi hne' => by have := PP.out.lt i hi; have := L1.out; omega)
        · unfold pls.up
          by_cases e : j = k
          · rw [if_pos e]; have := L1.out; omega
          · rw [if_neg e]; exact (GG.out j hj).1 (by omega)
        · unfold pls.up
          rw [if_neg (by omega)]; exact (GG.out j hj).2 (by omega)
      case measure => simp [intOf]; omega
    · have v1 : decide (k < n) = false := by simp; omega
      obtain rfl : k = n := by omega
      clear hP hT hG
      go_wp2
      go_ret
      exact ⟨gs', cs', show Ending.returned (Value.int .i64 S) = _ from by rw [HS.out], PP.out, fun i hi => (GG.out i hi).1 hi, TT.out⟩
end Go.Proofs.Ytmaejlfjdkkpdaa.ob
