/-
  Plain helpers of this seat's proofs: the contract of the landed Posted. Conditions: none.
-/
import Derived.Test.YtnkdjnfbllkgiaaBalI
import Derived.Test.YtnkdjnfbllkgiaaLst
import Derived.Test.YtnkdjnfbllkgiaaBvI
import Derived.Test.YtnkdjnfbllkgiaaTrI
namespace Go.Proofs.Ytnkdjnfbllkgiaa.mp
open Go.ChangeShapes Go.WideShapes Go.ChangeAt Go.RowKit
open led (F5 z5 nn wn same at4 addE Apart addK addAll Pst puts)
open five (Row At)
theorem pst_ex (l b : List F5) : ∃ p : List F5 × Int, Pst l b p.1 p.2 := by
  by_cases q1 : led.LV l
  · by_cases q2 : led.BV b
    · by_cases q3 : led.ZV b
      · by_cases q4 : led.LV (puts l b)
        · exact ⟨(_, _), led.mk0 q1 q2 q3 q4⟩
        · exact ⟨(_, _), led.mk4 q1 q2 q3 q4⟩
      · exact ⟨(_, _), led.mk3 q1 q2 q3⟩
    · exact ⟨(_, _), led.mk2 q1 q2⟩
  · exact ⟨(_, _), led.mk1 q1⟩
/-- What posting answers: the list and the code. -/
noncomputable def pr (l b : List F5) : List F5 := (Classical.choose (pst_ex l b)).1
noncomputable def pc (l b : List F5) : Int := (Classical.choose (pst_ex l b)).2
theorem pst (l b : List F5) : Pst l b (pr l b) (pc l b) := Classical.choose_spec (pst_ex l b)
theorem pst_is {l b r : List F5} {c : Int} (h : Pst l b r c) : pr l b = r ∧ pc l b = c := (pst l b).uniq h
/-- The list and the code, the list in memory of its own. -/
def Psd (w : World) (l b : List F5) (e : Ending) (w' : World) : Prop := ∃ a cap g, e = .returned (.tuple #[.slice a (pr l b).length cap, .int .i64 (pc l b)]) ∧ Row w' a cap g (pr l b) ∧ (0 < (pr l b).length → w.heap.size ≤ g ∧ g < w'.heap.size) ∧ Below w.heap.size w w'
theorem psd_no {w w' : World} {l b : List F5} {c : Int} (h : Pst l b [] c) (hb : Below w.heap.size w w') : Psd w l b (.returned (.tuple #[.slice none 0 0, .int .i64 c])) w' := by
  obtain ⟨h1, h2⟩ := pst_is h
  exact ⟨none, 0, 0, by rw [h1, h2]; rfl, by rw [h1]; exact Row.nil w', fun hp => absurd hp (by rw [h1]; simp), hb⟩
theorem psd_yes {w w' : World} {l b r : List F5} {cap g : Nat} (h : Pst l b r 0) (R : Row w' (some ⟨g, 0, none⟩) cap g r) (h1 : w.heap.size ≤ g) (h2 : g < w'.heap.size) (hb : Below w.heap.size w w') : Psd w l b (.returned (.tuple #[.slice (some ⟨g, 0, none⟩) r.length cap, .int .i64 0])) w' := by
  obtain ⟨e1, e2⟩ := pst_is h
  exact ⟨_, cap, g, by rw [e1, e2], by rw [e1]; exact R, fun _ => ⟨h1, h2⟩, hb⟩
theorem zv_of {b : List F5} (h : ∀ j : Nat, j < 6 → led.csk b j b.length = 0) : led.ZV b := fun c h0 h6 => by
  have := h c.toNat (by omega)
  rw [led.csk_csum, show ((c.toNat : Nat) : Int) = c by omega] at this
  exact this
theorem zv_not {b : List F5} {j : Nat} (hj : j < 6) (h : led.csk b j b.length ≠ 0) : ¬ led.ZV b := fun q => h (by rw [led.csk_csum]; exact q j (by omega) (by omega))
theorem addAll_len (L b : List F5) : (addAll L b).length ≤ L.length + b.length := by
  rw [← led.addK_all]; exact led.addK_len L b b.length (Nat.le_refl _)
theorem index6 (C : Nat → Int) {k : Nat} (hk : k < 6) (w : World) : (Instr.index 66 (.agg #[.int .i64 (C 0), .int .i64 (C 1), .int .i64 (C 2), .int .i64 (C 3), .int .i64 (C 4), .int .i64 (C 5)]) (.int .i64 (k : Int))).run Try.prog w = .ok (.int .i64 (C k)) w := by
  have h1 : (0 : Int) ≤ (k : Int) ∧ (k : Int) < ((6 : Nat) : Int) := by omega
  have hz : ∀ w, (Go.sizeOf 2).run Try.prog w = .ok 1 w := Try.sizeOf2
  have ha : ∀ w, (isAgg 2).run Try.prog w = .ok false w := Try.isAgg2
  simp only [Instr.index, asIntOf, Sem.run_bind, Sem.run_pure, Result.andThen_ok, run_underlying Try.underlying66, if_pos h1, hz, part, ha, Bool.false_eq_true, if_false, Nat.mul_one, Int.toNat_natCast]
  match k, hk with
  | 0, _ => rfl
  | 1, _ => rfl
  | 2, _ => rfl
  | 3, _ => rfl
  | 4, _ => rfl
  | 5, _ => rfl
set_option maxRecDepth 40000 in
set_option maxHeartbeats 8000000 in
theorem psI (w : World) (a a' : Option Addr) (cap cap' g g' : Nat) (l b : List F5) (r : Row w a cap g l) (r' : Row w a' cap' g' b) (hn : l.length ≤ 1048577) (hn' : b.length ≤ 1048577) :
    Calls Try.prog 32 #[.slice a l.length cap, .slice a' b.length cap'] w (Psd w l b) := by
  have R := Lib.hid r
  have R' := Lib.hid r'
  have KL := Lib.hid (show ∀ w', Below w.heap.size w w' → Row w' a cap g l from fun w' hb => R.out.keep fun h => hb.block g (R.out.lt h))
  have KB := Lib.hid (show ∀ w', Below w.heap.size w w' → Row w' a' cap' g' b from fun w' hb => R'.out.keep fun h => hb.block g' (R'.out.lt h))
  have CL := Lib.hid (base.lgI w a cap g l r hn)
  have CB := Lib.hid (show ∀ w', Below w.heap.size w w' → _ from fun w' hb => base.bvI w' a' cap' g' b (KB.out w' hb) hn')
  clear r r'
  cases hv : led.lv l with
  | false =>
    have P := Lib.hid (led.mk1 (b := b) (led.lv_not.1 hv))
    rw [hv] at CL
    clear hv
    go_enter Try.func32, Try.ntmps32
    go_wp2_with fail
    refine CL.out.mono ?_
    rintro e w1 ⟨rfl, b1⟩
    have B1 := Lib.hid b1
    clear b1
    go_wp2
    go_ret2
    exact psd_no P.out B1.out
  | true =>
    have LVT := Lib.hid (led.lv_iff.1 hv)
    rw [hv] at CL
    clear hv
    cases hv : base.bv b with
    | false =>
      have P := Lib.hid (led.mk2 (b := b) LVT.out (base.bv_not.1 hv))
      rw [hv] at CB
      clear hv
      go_enter Try.func32, Try.ntmps32
      go_wp2_with fail
      refine CL.out.mono ?_
      rintro e w1 ⟨rfl, b1⟩
      have B1 := Lib.hid b1
      clear b1
      go_wp2_with fail
      refine (CB.out w1 B1.out).mono ?_
      rintro e w2 ⟨rfl, b2⟩
      have B2 := Lib.hid (B1.out.trans (b2.mono B1.out.size))
      clear b2
      go_wp2
      go_ret2
      exact psd_no P.out B2.out
    | true =>
      have BVT := Lib.hid (base.bv_iff.1 hv)
      rw [hv] at CB
      clear hv
      have CS := Lib.hid (show ∀ w', Below w.heap.size w w' → _ from fun w' hb => base.csI w' a' cap' g' b (KB.out w' hb) BVT.out.sane)
      have SM : ∀ c : Nat, _ := fun c => BVT.out.sane.small c (Nat.le_refl _)
      obtain ⟨C, hC⟩ : ∃ C : Nat → Int, C = fun c => led.csk b c b.length := ⟨_, rfl⟩
      have cc : ∀ c, led.csk b c b.length = C c := fun c => by rw [hC]
      rw [cc, cc, cc, cc, cc, cc] at CS
      have CC := Lib.hid cc
      clear cc hC SM
      go_enter Try.func32, Try.ntmps32
      go_wp2_with fail
      refine CL.out.mono ?_
      rintro e w1 ⟨rfl, b1⟩
      have B1 := Lib.hid b1
      clear b1
      go_wp2_with fail
      refine (CB.out w1 B1.out).mono ?_
      rintro e w2 ⟨rfl, b2⟩
      have B2 := Lib.hid (B1.out.trans (b2.mono B1.out.size))
      clear b2
      go_wp2_with fail
      refine (CS.out w2 B2.out).mono ?_
      rintro e w3 ⟨rfl, b3⟩
      have B3 := Lib.hid (B2.out.trans (b3.mono B2.out.size))
      clear b3
      go_wp2
      go_loopw [18] (fun iv wr => wr = w3 ∧ ∃ k : Nat, k ≤ 6 ∧ iv = .int .i64 k ∧ Hid (∀ j, j < k → C j = 0)) (fun iv _ => 6 - (intOf iv).toNat)
      case atStart => exact ⟨rfl, 0, by omega, rfl, Lib.hid fun j hj => absurd hj (by omega)⟩
      case round =>
        obtain ⟨rfl, k, hk, rfl, ZZ⟩ := hrel
        by_cases hlt : k < 6
        · by_cases h0 : C k = 0
          · have NX := Lib.hid (show ∀ j, j < k + 1 → C j = 0 from fun j hj => by
              rcases Nat.lt_succ_iff_lt_or_eq.1 hj with h | rfl
              · exact ZZ.out j h
              · exact h0)
            have t0 : (C k != 0) = false := by simp [h0]
            clear h0
            have hix := index6 C hlt
            have u1 : decide ((k : Int) < 6) = true := by simp; omega
            go_wp2
            go_roundw
            case rel => exact ⟨trivial, k + 1, by omega, by go_num, NX⟩
            case measure => simp [intOf]; omega
          · have P := Lib.hid (led.mk3 LVT.out BVT.out (zv_not hlt (by rw [CC.out]; exact h0)))
            have t0 : (C k != 0) = true := by simp [h0]
            clear h0
            have hix := index6 C hlt
            have u1 : decide ((k : Int) < 6) = true := by simp; omega
            go_wp2
            go_ret2
            exact psd_no P.out B3.out
        · obtain rfl : k = 6 := by omega
          have ZT := Lib.hid (zv_of fun j hj => by rw [CC.out]; exact ZZ.out j hj)
          have CM := Lib.hid (balsI wr a cap g l (KL.out wr B3.out) LVT.out)
          go_wp2_with fail
          refine CM.out.mono ?_
          rintro e w4 ⟨rfl, M4, b4⟩
          have B4 := Lib.hid (B3.out.trans (b4.mono B3.out.size))
          have CA := Lib.hid (addP wr w4 wr.heap.size 1 l a' cap' g' b (KB.out wr B3.out) b4 (Nat.le_refl _) M4 (fun x hx => by have := led.inR_iff.1 (led.LV_mem LVT.out hx).2.2; omega) (BV.fit BVT.out) (by have := BVT.out.1; omega))
          clear M4 b4
          go_wp2_with fail
          refine CA.out.mono ?_
          rintro e w5 ⟨rfl, M5, b5⟩
          have B5 := Lib.hid (B4.out.trans (b5.mono B3.out.size))
          have CI := Lib.hid (listI w5 wr.heap.size (addAll l b) M5 (by have := addAll_len l b; have := LVT.out.1; have := BVT.out.1; omega))
          clear M5 b5 CA
          go_wp2_with fail
          refine CI.out.mono ?_
          rintro e w6 ⟨cr, gr, r, rfl, rr, g1, g2, hp, hs, b6⟩
          have B6 := Lib.hid (B5.out.trans (b6.mono B5.out.size))
          have PU := Lib.hid (led.sorted_puts LVT.out BVT.out hp hs)
          have RR := Lib.hid rr
          have g0 : w.heap.size ≤ gr := Nat.le_trans B5.out.size g1
          have CK := Lib.hid (base.lgI w6 _ cr gr r rr (by rw [PU.out]; have := led.puts_len b l; have := LVT.out.1; have := BVT.out.1; omega))
          clear rr hp hs b6 CI
          cases hv : led.lv r with
          | false =>
            have P := Lib.hid (led.mk4 LVT.out BVT.out ZT.out (by rw [← PU.out]; exact led.lv_not.1 hv))
            rw [hv] at CK
            clear hv
            go_wp2_with fail
            refine CK.out.mono ?_
            rintro e w7 ⟨rfl, b7⟩
            have B7 := Lib.hid (B6.out.trans (b7.mono B6.out.size))
            clear b7
            go_wp2
            go_ret2
            exact psd_no P.out B7.out
          | true =>
            have P := Lib.hid (show Pst l b r 0 from by rw [PU.out]; exact led.mk0 LVT.out BVT.out ZT.out (by rw [← PU.out]; exact led.lv_iff.1 hv))
            rw [hv] at CK
            clear hv
            go_wp2_with fail
            refine CK.out.mono ?_
            rintro e w7 ⟨rfl, b7⟩
            have B7 := Lib.hid (B6.out.trans (b7.mono B6.out.size))
            have R7 := Lib.hid (RR.out.keep (w' := w7) fun _ => b7.block gr g2)
            have z7 := b7.size
            clear b7
            go_wp2
            go_ret2
            exact psd_yes P.out R7.out g0 (Nat.lt_of_lt_of_le g2 z7) B7.out
end Go.Proofs.Ytnkdjnfbllkgiaa.mp
