/-
  Plain helpers of this seat's proofs: the landed itemsOk. Conditions: none.
-/
import Derived.Test.YtcpglphhhmgjkaaDoorCoS
import Derived.Test.YtcpglphhhmgjkaaDoorCmi
namespace Go.Proofs.YtcpglphhhmgjkaaDoor.cm
open Go.ChangeShapes Go.WideShapes Go.ChangeAt Go.RowKit
open gen
open four (F4)
set_option maxHeartbeats 4000000 in
theorem itemsI (s : Sc) (ai : Option Addr) (ci gi : Nat) (l : List F4) (w : World) (b : Nat) (hb : CB w b s ai l.length ci) (r : four.Row w ai ci gi l) (hl : l.length ≤ 1048576) :
    Calls Tryd.prog 31 #[.pointer (some ⟨b, 0, none⟩)] w fun e w' => e = .returned (.bool (dB (Its s l))) ∧ Below w.heap.size w w' := by
  obtain ⟨T, hT⟩ : ∃ T, T = dB (Its s l) := ⟨_, rfl⟩
  rw [← hT]
  have HT := Lib.hid hT
  have R := Lib.hid r
  have e1 := r.addr
  have m1 := r.room
  have y0 := hb.c0
  have y8 := hb.c8
  clear hT r hb
  obtain ⟨n, hnz⟩ : ∃ n, n = l.length := ⟨_, rfl⟩
  rw [← hnz] at hl e1 m1 y8
  have HNZ := Lib.hid hnz
  clear hnz
  cases t5 : (s.k == 5)
  · have tn5 : (s.k != 5) = true := by simp [bne, t5]
    have VAL := Lib.hid (show T = ((n : Int) == 0) from by rw [HNZ.out]; exact HT.out.trans (its_n (by simpa using t5)))
    have VB := Lib.hid (congrArg (fun b => Ending.returned (Value.bool b)) VAL.out.symm)
    clear t5
    go_enter Tryd.func31, Tryd.ntmps31
    go_wp2
    go_ret
    exact ⟨by first | exact VB.out | (rw [VAL.out]; rfl), Below.refl _ _⟩
  · have tn5 : (s.k != 5) = false := by simp [bne, t5]
    have K5 := Lib.hid (show s.k = 5 by simpa using t5)
    clear t5
    by_cases h0 : n < 1
    · have u0 : decide ((n : Int) < 1) = true := by simp; omega
      have u0' : decide (n < 1) = true := by simp; omega
      have NO := Lib.hid (show T = false from HT.out.trans (dB_f fun h => by unfold Its at h; rw [if_pos K5.out] at h; have := h.1; have := HNZ.out; omega))
      go_enter Tryd.func31, Tryd.ntmps31
      go_wp2
      go_ret
      exact ⟨by rw [NO.out]; rfl, Below.refl _ _⟩
    have u0 : decide ((n : Int) < 1) = false := by simp; omega
    by_cases h8 : 8 < n
    · have u1 : decide ((8 : Int) < (n : Int)) = true := by simp; omega
      have u1' : decide (8 < n) = true := by simp; omega
      have NO := Lib.hid (show T = false from HT.out.trans (dB_f fun h => by unfold Its at h; rw [if_pos K5.out] at h; have := h.2.1; have := HNZ.out; omega))
      go_enter Tryd.func31, Tryd.ntmps31
      go_wp2
      go_ret
      exact ⟨by rw [NO.out]; rfl, Below.refl _ _⟩
    have u1 : decide ((8 : Int) < (n : Int)) = false := by simp; omega
    have u1' : decide (8 < n) = false := by simp; omega
    obtain rfl := e1 (by omega)
    clear e1
    go_enter Tryd.func31, Tryd.ntmps31
    go_wp2
    go_loopw [35] (fun i wr => Below w.heap.size w wr ∧ ∃ k : Nat, k ≤ n ∧ i = .int .i64 k ∧ ∀ j, j < k → iok (l.getD j four.zz) = true ∧ (l.getD j four.zz).2.2.1 = 0) (fun i _ => n - (intOf i).toNat)
    case atStart => exact ⟨Below.refl _ _, 0, by omega, rfl, fun j h => by omega⟩
    case round =>
      obtain ⟨hB, k, hk, rfl, hf⟩ := hrel
      have BB := Lib.hid hB
      have FF := Lib.hid hf
      clear hf
      by_cases hlt : k < n
      · have HLT := Lib.hid (show k < l.length from by rw [← HNZ.out]; exact hlt)
        have q1 := (R.out.keep fun h => hB.block gi (R.out.lt h)).cells k HLT.out
        obtain ⟨x, hx⟩ : ∃ x, x = l.getD k four.zz := ⟨_, rfl⟩
        have HX := Lib.hid hx
        rw [← hx] at q1
        clear hx
        obtain ⟨x1, x2, x3, x4⟩ := q1
        have C := fun W => itemI x W
        obtain ⟨t, ht⟩ : ∃ t, t = iok x := ⟨_, rfl⟩
        rw [← ht] at C
        have HP := Lib.hid ht
        have z1 : (k : Int) < (n : Int) := by omega
        have v1 : decide (k < n) = true := by simp; omega
        have NOT := Lib.hid (show ¬ (iok x = true ∧ x.2.2.1 = 0) → T = false from fun q => HT.out.trans (dB_f fun i => by
          unfold Its at i
          rw [if_pos K5.out] at i
          have := i.2.2 k HLT.out
          rw [← HX.out] at this
          exact q this))
        clear ht hB
        cases t with
        | false =>
          have NO := Lib.hid (show T = false from NOT.out fun q => by rw [← HP.out] at q; cases q.1)
          go_wp2_with fail
          refine (C _).mono ?_
          rintro e w1 ⟨rfl, hg⟩
          have G1 := Lib.hid (show Grew _ w1 from hg)
          clear hg
          go_wp2
          go_ret
          exact ⟨by rw [NO.out]; rfl, Grew.step BB.out (Nat.le_refl _) ((Grew.alloc wr _).trans G1.out)⟩
        | true =>
          have BXL := Lib.hid (fun w1 (h : Grew (wr.alloc (.cells #[.int .i64 x.1, .int .i64 x.2.1, .int .i64 x.2.2.1, .int .i64 x.2.2.2] 49)) w1) => box_cell (w := wr) (W := w1) (cs := #[.int .i64 x.1, .int .i64 x.2.1, .int .i64 x.2.2.1, .int .i64 x.2.2.2]) (t := 49) (by have q := h.below; rw [sz_al] at q; exact q) 2 rfl)
          go_wp2_with fail
          refine (C _).mono ?_
          rintro e w1 ⟨rfl, hg⟩
          have G1 := Lib.hid (show Grew _ w1 from hg)
          have xb := BXL.out w1 hg
          clear hg x1 x2 x3 x4 BXL
          have BW := Lib.hid (Grew.step BB.out (Nat.le_refl _) ((Grew.alloc wr _).trans G1.out))
          obtain ⟨sh, hsh⟩ : ∃ sh, sh = x.2.2.1 := ⟨_, rfl⟩
          have HS := Lib.hid hsh
          rw [← hsh] at xb
          clear hsh
          cases ts : (sh == 0)
          · have tn : (sh != 0) = true := by simp [bne, ts]
            have NO := Lib.hid (show T = false from NOT.out fun q => by rw [← HS.out] at q; rw [q.2] at ts; cases ts)
            clear ts
            go_wp2
            go_ret
            exact ⟨by rw [NO.out]; rfl, BW.out⟩
          · have tn : (sh != 0) = false := by simp [bne, ts]
            have SZ := Lib.hid (show sh = 0 by simpa using ts)
            clear ts
            go_wp2
            go_roundw
            case rel => exact ⟨BW.out, k + 1, by omega, by go_num, fun j hj => by
              by_cases e : j = k
              · subst e; rw [← HX.out]; exact ⟨HP.out.symm, by rw [← HS.out]; exact SZ.out⟩
              · exact FF.out j (by omega)⟩
            case measure => simp [intOf]; omega
      · have v1 : decide (k < n) = false := by simp; omega
        have v2 : decide ((k : Int) < (n : Int)) = false := by simp; omega
        obtain rfl : k = n := by omega
        have YES := Lib.hid (show T = true from HT.out.trans (dB_t (by
          unfold Its
          rw [if_pos K5.out, ← HNZ.out]
          exact ⟨by omega, by omega, fun i hi => FF.out i hi⟩)))
        clear hB
        go_wp2
        go_ret
        exact ⟨by rw [YES.out]; rfl, BB.out⟩
end Go.Proofs.YtcpglphhhmgjkaaDoor.cm
