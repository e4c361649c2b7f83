/-
  Plain helpers of this seat's proofs: the model's function that reads a number. Conditions: none.
-/
import Derived.Test.YtpogfdeioibkdaaGreatDoorSpw
namespace Go.Proofs.YtpogfdeioibkdaaGreatDoor.ptm
open Go.ChangeShapes Go.WideShapes Go.ChangeAt Go.RowKit
theorem ret_ib {a b : Int} {t u : Bool} (h : a = b) (h' : t = u) : Ending.returned (.tuple #[.int .i64 a, .bool t]) = .returned (.tuple #[.int .i64 b, .bool u]) := by rw [h, h']
def nmT (l : List UInt8) : Value := .tuple #[.int .i64 (nm l).1, .bool (nm l).2]
theorem nmU_short {l : List UInt8} (h : l.length = 0 ∨ 16 < l.length) : nmU l = (0, false) := by
  unfold nmU; rw [if_neg]; rintro ⟨⟨a, b, _⟩, _⟩; omega
theorem nmU_zero {l : List UInt8} (h : l[0]? = some 48) (h1 : 1 < l.length) : nmU l = (0, false) := by
  unfold nmU; rw [if_neg]; rintro ⟨_, q⟩; exact q ⟨h, h1⟩
theorem nmU_bad {l : List UInt8} {b : UInt8} (h : b ∈ l) (hb : ¬ isD b) : nmU l = (0, false) := by
  unfold nmU; rw [if_neg]; rintro ⟨⟨_, _, q⟩, _⟩; exact hb (q b h)
theorem nmU_good {l : List UInt8} (h1 : 1 ≤ l.length) (h2 : l.length ≤ 16) (h3 : ∀ b ∈ l, isD b) (h4 : ¬ (l[0]? = some 48 ∧ 1 < l.length)) : nmU l = ((num l : Int), true) := by
  unfold nmU; rw [if_pos ⟨⟨h1, h2, h3⟩, h4⟩]
theorem at0 {l : List UInt8} (h : 0 < l.length) (c : UInt8) : (l[0]? = some c) ↔ (l[0]).toNat = c.toNat := by
  rw [List.getElem?_eq_getElem h, Option.some_inj, ← UInt8.toNat_inj]
theorem at1 {l : List UInt8} (h : 1 < l.length) (c : UInt8) : (l[1]? = some c) ↔ (l[1]).toNat = c.toNat := by
  rw [List.getElem?_eq_getElem h, Option.some_inj, ← UInt8.toNat_inj]
set_option maxRecDepth 20000 in
set_option maxHeartbeats 2000000 in
/-- The digits, behind the tests. -/
theorem numU (l : List UInt8) (w : World) (hz : l.length ≤ 4194304) (hs : ¬ sg l) : Calls Tryz.prog 58 #[.string ⟨l.toArray⟩] w fun e w' => e = .returned (.tuple #[.int .i64 (nmU l).1, .bool (nmU l).2]) ∧ Below w.heap.size w w' := by
  obtain ⟨n, hn⟩ : ∃ n, n = l.length := ⟨_, rfl⟩
  have el : (⟨l.toArray⟩ : ByteArray).size = n := hn.symm
  have HN := Lib.hid hn
  rw [← hn] at hz
  rcases Nat.eq_zero_or_pos n with rfl | hp
  · have E := Lib.hid (nmU_short (l := l) (.inl hn.symm))
    clear hn hs
    go_enter Tryz.func58, Tryz.ntmps58
    go_wp2
    go_ret2
    exact ⟨ret_ib (by rw [E.out]) (by rw [E.out]), Below.refl _ _⟩
  have s0 : 0 < (⟨l.toArray⟩ : ByteArray).size := by omega
  have l0 : 0 < l.length := by omega
  obtain ⟨b0, hb0⟩ : ∃ b, b = (l[0]).toNat := ⟨_, rfl⟩
  have h0 : ((⟨l.toArray⟩ : ByteArray)[0]).toNat = b0 := hb0.symm
  have A0 := Lib.hid (fun c => at0 l0 c)
  have b08 : b0 < 256 := by rw [hb0]; exact (l[0]).toNat_lt
  -- the way through the first test
  have MAIN : ∀ (T : Prop), T = T → True := fun _ _ => trivial
  by_cases h16 : 16 < n
  · have E := Lib.hid (nmU_short (l := l) (.inr (by omega)))
    have s1 : 1 < (⟨l.toArray⟩ : ByteArray).size := by omega
    have l1 : 1 < l.length := by omega
    obtain ⟨b1, hb1⟩ : ∃ b, b = (l[1]).toNat := ⟨_, rfl⟩
    have h1 : ((⟨l.toArray⟩ : ByteArray)[1]).toNat = b1 := hb1.symm
    have b18 : b1 < 256 := by rw [hb1]; exact (l[1]).toNat_lt
    have t1 : decide ((1 : Int) < (n : Int)) = true := by simp; omega
    have t1' : decide (1 < n) = true := by simp; omega
    have t2 : decide ((n : Int) < 1) = false := by simp; omega
    have t2' : decide (n < 1) = false := by simp; omega
    have t3 : decide ((16 : Int) < (n : Int)) = true := by simp; omega
    have t3' : decide (16 < n) = true := by simp; omega
    have hs2 : ¬ (b0 = 45 ∧ b1 ≠ 48 ∧ b1 ≠ 45) := fun q => hs ⟨l1, (at0 l0 45).2 (by rw [← hb0, q.1]; rfl), fun r => q.2.1 (by rw [hb1, (at1 l1 48).1 r]; rfl), fun r => q.2.2 (by rw [hb1, (at1 l1 45).1 r]; rfl)⟩
    clear hb0 hb1 hn hs
    by_cases c0 : b0 = 45
    · subst c0
      by_cases c1 : b1 = 48
      · subst c1
        go_enter Tryz.func58, Tryz.ntmps58
        go_wp2
        go_ret2
        exact ⟨ret_ib (by rw [E.out]) (by rw [E.out]), Below.refl _ _⟩
      · have c2 : b1 = 45 := by omega
        subst c2
        go_enter Tryz.func58, Tryz.ntmps58
        go_wp2
        go_ret2
        exact ⟨ret_ib (by rw [E.out]) (by rw [E.out]), Below.refl _ _⟩
    · have u1 : (b0 == 45) = false := by simp [c0]
      have u2 : ((b0 : Int) == 45) = false := by simp; omega
      have u3 : decide (b0 = 45) = false := by simp [c0]
      clear c0 hs2
      go_enter Tryz.func58, Tryz.ntmps58
      go_wp2
      go_ret2
      exact ⟨ret_ib (by rw [E.out]) (by rw [E.out]), Below.refl _ _⟩
  have t2 : decide ((n : Int) < 1) = false := by simp; omega
  have t2' : decide (n < 1) = false := by simp; omega
  have t3 : decide ((16 : Int) < (n : Int)) = false := by simp; omega
  have t3' : decide (16 < n) = false := by simp; omega
  -- the first character
  by_cases hz0 : b0 = 48 ∧ 1 < n
  · obtain ⟨rfl, h1n⟩ := hz0
    have E := Lib.hid (nmU_zero (l := l) ((A0.out 48).2 hb0.symm) (by omega))
    have t1 : decide ((1 : Int) < (n : Int)) = true := by simp; omega
    have t1' : decide (1 < n) = true := by simp; omega
    clear hb0 hn hs
    go_enter Tryz.func58, Tryz.ntmps58
    go_wp2
    go_ret2
    exact ⟨ret_ib (by rw [E.out]) (by rw [E.out]), Below.refl _ _⟩
  have GOOD := Lib.hid (fun h3 => nmU_good (l := l) (by omega) (by omega) h3 (fun q => hz0 ⟨by rw [hb0, (A0.out 48).1 q.1]; rfl, by omega⟩))
  clear A0
  by_cases h1n : 1 < n
  · have t1 : decide ((1 : Int) < (n : Int)) = true := by simp; omega
    have t1' : decide (1 < n) = true := by simp; omega
    have s1 : 1 < (⟨l.toArray⟩ : ByteArray).size := by omega
    have l1 : 1 < l.length := by omega
    have n48 : b0 ≠ 48 := fun q => hz0 ⟨q, h1n⟩
    have w1 : (b0 == 48) = false := by simp [n48]
    have w2 : ((b0 : Int) == 48) = false := by simp; omega
    have w3 : decide (b0 = 48) = false := by simp [n48]
    obtain ⟨b1, hb1⟩ : ∃ b, b = (l[1]).toNat := ⟨_, rfl⟩
    have h1 : ((⟨l.toArray⟩ : ByteArray)[1]).toNat = b1 := hb1.symm
    have b18 : b1 < 256 := by rw [hb1]; exact (l[1]).toNat_lt
    have hs2 : ¬ (b0 = 45 ∧ b1 ≠ 48 ∧ b1 ≠ 45) := fun q => hs ⟨l1, (at0 l0 45).2 (by rw [← hb0, q.1]; rfl), fun r => q.2.1 (by rw [hb1, (at1 l1 48).1 r]; rfl), fun r => q.2.2 (by rw [hb1, (at1 l1 45).1 r]; rfl)⟩
    clear hb0 hb1 hn hs hz0
    by_cases c0 : b0 = 45
    · subst c0
      clear w1 w2 w3 n48
      by_cases c1 : b1 = 48
      · subst c1
        clear hs2
        go_enter Tryz.func58, Tryz.ntmps58
        go_wp2_with fail
        go_loop [6, 7] (fun a b => ∃ i : Nat, i ≤ n ∧ a = .int .i64 (num (l.take i)) ∧ b = .int .i64 i ∧ (∀ b ∈ l.take i, isD b) ∧ num (l.take i) < 10 ^ i) (fun _ b => 20 - (intOf b).toNat)
        case atStart => exact ⟨0, by omega, rfl, rfl, by simp, by simp [num]⟩
        case round =>
          obtain ⟨i, hi, rfl, rfl, hall, hb⟩ := hrel
          have ALL := Lib.hid hall
          have hb2 : 10 ^ i ≤ 10 ^ 16 := Nat.pow_le_pow_right (by omega) (by omega)
          obtain ⟨m, hm⟩ : ∃ m, m = num (l.take i) := ⟨_, rfl⟩
          rw [← hm] at hb ⊢
          have HM := Lib.hid hm
          clear hall hm
          by_cases hlt : i < n
          · have d1 : decide ((i : Int) < (n : Int)) = true := by simp; omega
            have d1' : decide (i < n) = true := by simp; omega
            have hs : i < (⟨l.toArray⟩ : ByteArray).size := by omega
            have hl : i < l.length := by have := HN.out; omega
            obtain ⟨b, hb'⟩ : ∃ b, b = l[i] := ⟨_, rfl⟩
            obtain ⟨bn, hbn⟩ : ∃ bn, bn = b.toNat := ⟨_, rfl⟩
            have b8 : bn < 256 := by rw [hbn]; exact b.toNat_lt
            have hbe : ((⟨l.toArray⟩ : ByteArray)[i]).toNat = bn := by rw [hbn, hb']; rfl
            have MB := Lib.hid (show b ∈ l from by rw [hb']; exact List.getElem_mem hl)
            have TK := Lib.hid (show l.take (i + 1) = l.take i ++ [b] from by rw [List.take_add_one, hb']; simp [hl])
            have HB := Lib.hid hbn
            clear hb' hbn
            by_cases c1 : bn < 48
            · have d2 : decide ((bn : Int) < 48) = true := by simp; omega
              have d2' : decide (bn < 48) = true := by simp; omega
              have NO := Lib.hid (nmU_bad MB.out (fun h => by have := h.1; have := HB.out; omega))
              clear c1
              go_wp2
              go_ret2
              exact ⟨ret_ib (by rw [NO.out]) (by rw [NO.out]), Below.refl _ _⟩
            · have d2 : decide ((bn : Int) < 48) = false := by simp; omega
              have d2' : decide (bn < 48) = false := by simp; omega
              by_cases c2 : 57 < bn
              · have d3 : decide ((57 : Int) < (bn : Int)) = true := by simp; omega
                have d3' : decide (57 < bn) = true := by simp; omega
                have NO := Lib.hid (nmU_bad MB.out (fun h => by have := h.2; have := HB.out; omega))
                clear c1 c2
                go_wp2
                go_ret2
                exact ⟨ret_ib (by rw [NO.out]) (by rw [NO.out]), Below.refl _ _⟩
              · have d3 : decide ((57 : Int) < (bn : Int)) = false := by simp; omega
                have d3' : decide (57 < bn) = false := by simp; omega
                have e1 : 48 ≤ (bn : Int) := by omega
                have e2 : (bn : Int) ≤ 57 := by omega
                have ND := Lib.hid (show num (l.take (i + 1)) = 10 * m + (bn - 48) from by rw [TK.out, num_snoc, ← HM.out, HB.out])
                have AL2 := Lib.hid (show ∀ x ∈ l.take (i + 1), isD x from by
                  rw [TK.out]; intro x hx; rcases List.mem_append.1 hx with hx | hx
                  · exact ALL.out x hx
                  · rw [List.mem_singleton.1 hx]; have := HB.out; exact ⟨by omega, by omega⟩)
                go_wp2
                go_round
                case rel =>
                  refine ⟨i + 1, by omega, ?_, by go_num, AL2.out, ?_⟩
                  · rw [ND.out]; go_num
                  · rw [ND.out, Nat.pow_succ]; omega
                case measure => simp [intOf]; omega
          · have d1 : decide ((i : Int) < (n : Int)) = false := by simp; omega
            have d1' : decide (i < n) = false := by simp; omega
            have he : l.take i = l := List.take_of_length_le (by have := HN.out; omega)
            have YE := Lib.hid (GOOD.out (by have := ALL.out; rw [he] at this; exact this))
            have HM2 := Lib.hid (show num l = m from by rw [HM.out, he])
            clear he
            go_wp2
            go_ret2
            exact ⟨ret_ib (by rw [YE.out, ← HM2.out]) (by rw [YE.out]), Below.refl _ _⟩
      · have c2 : b1 = 45 := by omega
        subst c2
        clear hs2 c1
        go_enter Tryz.func58, Tryz.ntmps58
        go_wp2_with fail
        go_loop [6, 7] (fun a b => ∃ i : Nat, i ≤ n ∧ a = .int .i64 (num (l.take i)) ∧ b = .int .i64 i ∧ (∀ b ∈ l.take i, isD b) ∧ num (l.take i) < 10 ^ i) (fun _ b => 20 - (intOf b).toNat)
        case atStart => exact ⟨0, by omega, rfl, rfl, by simp, by simp [num]⟩
        case round =>
          obtain ⟨i, hi, rfl, rfl, hall, hb⟩ := hrel
          have ALL := Lib.hid hall
          have hb2 : 10 ^ i ≤ 10 ^ 16 := Nat.pow_le_pow_right (by omega) (by omega)
          obtain ⟨m, hm⟩ : ∃ m, m = num (l.take i) := ⟨_, rfl⟩
          rw [← hm] at hb ⊢
          have HM := Lib.hid hm
          clear hall hm
          by_cases hlt : i < n
          · have d1 : decide ((i : Int) < (n : Int)) = true := by simp; omega
            have d1' : decide (i < n) = true := by simp; omega
            have hs : i < (⟨l.toArray⟩ : ByteArray).size := by omega
            have hl : i < l.length := by have := HN.out; omega
            obtain ⟨b, hb'⟩ : ∃ b, b = l[i] := ⟨_, rfl⟩
            obtain ⟨bn, hbn⟩ : ∃ bn, bn = b.toNat := ⟨_, rfl⟩
            have b8 : bn < 256 := by rw [hbn]; exact b.toNat_lt
            have hbe : ((⟨l.toArray⟩ : ByteArray)[i]).toNat = bn := by rw [hbn, hb']; rfl
            have MB := Lib.hid (show b ∈ l from by rw [hb']; exact List.getElem_mem hl)
            have TK := Lib.hid (show l.take (i + 1) = l.take i ++ [b] from by rw [List.take_add_one, hb']; simp [hl])
            have HB := Lib.hid hbn
            clear hb' hbn
            by_cases c1 : bn < 48
            · have d2 : decide ((bn : Int) < 48) = true := by simp; omega
              have d2' : decide (bn < 48) = true := by simp; omega
              have NO := Lib.hid (nmU_bad MB.out (fun h => by have := h.1; have := HB.out; omega))
              clear c1
              go_wp2
              go_ret2
              exact ⟨ret_ib (by rw [NO.out]) (by rw [NO.out]), Below.refl _ _⟩
            · have d2 : decide ((bn : Int) < 48) = false := by simp; omega
              have d2' : decide (bn < 48) = false := by simp; omega
              by_cases c2 : 57 < bn
              · have d3 : decide ((57 : Int) < (bn : Int)) = true := by simp; omega
                have d3' : decide (57 < bn) = true := by simp; omega
                have NO := Lib.hid (nmU_bad MB.out (fun h => by have := h.2; have := HB.out; omega))
                clear c1 c2
                go_wp2
                go_ret2
                exact ⟨ret_ib (by rw [NO.out]) (by rw [NO.out]), Below.refl _ _⟩
              · have d3 : decide ((57 : Int) < (bn : Int)) = false := by simp; omega
                have d3' : decide (57 < bn) = false := by simp; omega
                have e1 : 48 ≤ (bn : Int) := by omega
                have e2 : (bn : Int) ≤ 57 := by omega
                have ND := Lib.hid (show num (l.take (i + 1)) = 10 * m + (bn - 48) from by rw [TK.out, num_snoc, ← HM.out, HB.out])
                have AL2 := Lib.hid (show ∀ x ∈ l.take (i + 1), isD x from by
                  rw [TK.out]; intro x hx; rcases List.mem_append.1 hx with hx | hx
                  · exact ALL.out x hx
                  · rw [List.mem_singleton.1 hx]; have := HB.out; exact ⟨by omega, by omega⟩)
                go_wp2
                go_round
                case rel =>
                  refine ⟨i + 1, by omega, ?_, by go_num, AL2.out, ?_⟩
                  · rw [ND.out]; go_num
                  · rw [ND.out, Nat.pow_succ]; omega
                case measure => simp [intOf]; omega
          · have d1 : decide ((i : Int) < (n : Int)) = false := by simp; omega
            have d1' : decide (i < n) = false := by simp; omega
            have he : l.take i = l := List.take_of_length_le (by have := HN.out; omega)
            have YE := Lib.hid (GOOD.out (by have := ALL.out; rw [he] at this; exact this))
            have HM2 := Lib.hid (show num l = m from by rw [HM.out, he])
            clear he
            go_wp2
            go_ret2
            exact ⟨ret_ib (by rw [YE.out, ← HM2.out]) (by rw [YE.out]), Below.refl _ _⟩
    · have u1 : (b0 == 45) = false := by simp [c0]
      have u2 : ((b0 : Int) == 45) = false := by simp; omega
      have u3 : decide (b0 = 45) = false := by simp [c0]
      clear c0 hs2 n48
      go_enter Tryz.func58, Tryz.ntmps58
      go_wp2_with fail
      go_loop [6, 7] (fun a b => ∃ i : Nat, i ≤ n ∧ a = .int .i64 (num (l.take i)) ∧ b = .int .i64 i ∧ (∀ b ∈ l.take i, isD b) ∧ num (l.take i) < 10 ^ i) (fun _ b => 20 - (intOf b).toNat)
      case atStart => exact ⟨0, by omega, rfl, rfl, by simp, by simp [num]⟩
      case round =>
        obtain ⟨i, hi, rfl, rfl, hall, hb⟩ := hrel
        have ALL := Lib.hid hall
        have hb2 : 10 ^ i ≤ 10 ^ 16 := Nat.pow_le_pow_right (by omega) (by omega)
        obtain ⟨m, hm⟩ : ∃ m, m = num (l.take i) := ⟨_, rfl⟩
        rw [← hm] at hb ⊢
        have HM := Lib.hid hm
        clear hall hm
        by_cases hlt : i < n
        · have d1 : decide ((i : Int) < (n : Int)) = true := by simp; omega
          have d1' : decide (i < n) = true := by simp; omega
          have hs : i < (⟨l.toArray⟩ : ByteArray).size := by omega
          have hl : i < l.length := by have := HN.out; omega
          obtain ⟨b, hb'⟩ : ∃ b, b = l[i] := ⟨_, rfl⟩
          obtain ⟨bn, hbn⟩ : ∃ bn, bn = b.toNat := ⟨_, rfl⟩
          have b8 : bn < 256 := by rw [hbn]; exact b.toNat_lt
          have hbe : ((⟨l.toArray⟩ : ByteArray)[i]).toNat = bn := by rw [hbn, hb']; rfl
          have MB := Lib.hid (show b ∈ l from by rw [hb']; exact List.getElem_mem hl)
          have TK := Lib.hid (show l.take (i + 1) = l.take i ++ [b] from by rw [List.take_add_one, hb']; simp [hl])
          have HB := Lib.hid hbn
          clear hb' hbn
          by_cases c1 : bn < 48
          · have d2 : decide ((bn : Int) < 48) = true := by simp; omega
            have d2' : decide (bn < 48) = true := by simp; omega
            have NO := Lib.hid (nmU_bad MB.out (fun h => by have := h.1; have := HB.out; omega))
            clear c1
            go_wp2
            go_ret2
            exact ⟨ret_ib (by rw [NO.out]) (by rw [NO.out]), Below.refl _ _⟩
          · have d2 : decide ((bn : Int) < 48) = false := by simp; omega
            have d2' : decide (bn < 48) = false := by simp; omega
            by_cases c2 : 57 < bn
            · have d3 : decide ((57 : Int) < (bn : Int)) = true := by simp; omega
              have d3' : decide (57 < bn) = true := by simp; omega
              have NO := Lib.hid (nmU_bad MB.out (fun h => by have := h.2; have := HB.out; omega))
              clear c1 c2
              go_wp2
              go_ret2
              exact ⟨ret_ib (by rw [NO.out]) (by rw [NO.out]), Below.refl _ _⟩
            · have d3 : decide ((57 : Int) < (bn : Int)) = false := by simp; omega
              have d3' : decide (57 < bn) = false := by simp; omega
              have e1 : 48 ≤ (bn : Int) := by omega
              have e2 : (bn : Int) ≤ 57 := by omega
              have ND := Lib.hid (show num (l.take (i + 1)) = 10 * m + (bn - 48) from by rw [TK.out, num_snoc, ← HM.out, HB.out])
              have AL2 := Lib.hid (show ∀ x ∈ l.take (i + 1), isD x from by
                rw [TK.out]; intro x hx; rcases List.mem_append.1 hx with hx | hx
                · exact ALL.out x hx
                · rw [List.mem_singleton.1 hx]; have := HB.out; exact ⟨by omega, by omega⟩)
              go_wp2
              go_round
              case rel =>
                refine ⟨i + 1, by omega, ?_, by go_num, AL2.out, ?_⟩
                · rw [ND.out]; go_num
                · rw [ND.out, Nat.pow_succ]; omega
              case measure => simp [intOf]; omega
        · have d1 : decide ((i : Int) < (n : Int)) = false := by simp; omega
          have d1' : decide (i < n) = false := by simp; omega
          have he : l.take i = l := List.take_of_length_le (by have := HN.out; omega)
          have YE := Lib.hid (GOOD.out (by have := ALL.out; rw [he] at this; exact this))
          have HM2 := Lib.hid (show num l = m from by rw [HM.out, he])
          clear he
          go_wp2
          go_ret2
          exact ⟨ret_ib (by rw [YE.out, ← HM2.out]) (by rw [YE.out]), Below.refl _ _⟩
  · have t1 : decide ((1 : Int) < (n : Int)) = false := by simp; omega
    have t1' : decide (1 < n) = false := by simp; omega
    clear hb0 hn hs hz0
    by_cases c0 : b0 = 48
    · subst c0
      go_enter Tryz.func58, Tryz.ntmps58
      go_wp2_with fail
      go_loop [6, 7] (fun a b => ∃ i : Nat, i ≤ n ∧ a = .int .i64 (num (l.take i)) ∧ b = .int .i64 i ∧ (∀ b ∈ l.take i, isD b) ∧ num (l.take i) < 10 ^ i) (fun _ b => 20 - (intOf b).toNat)
      case atStart => exact ⟨0, by omega, rfl, rfl, by simp, by simp [num]⟩
      case round =>
        obtain ⟨i, hi, rfl, rfl, hall, hb⟩ := hrel
        have ALL := Lib.hid hall
        have hb2 : 10 ^ i ≤ 10 ^ 16 := Nat.pow_le_pow_right (by omega) (by omega)
        obtain ⟨m, hm⟩ : ∃ m, m = num (l.take i) := ⟨_, rfl⟩
        rw [← hm] at hb ⊢
        have HM := Lib.hid hm
        clear hall hm
        by_cases hlt : i < n
        · have d1 : decide ((i : Int) < (n : Int)) = true := by simp; omega
          have d1' : decide (i < n) = true := by simp; omega
          have hs : i < (⟨l.toArray⟩ : ByteArray).size := by omega
          have hl : i < l.length := by have := HN.out; omega
          obtain ⟨b, hb'⟩ : ∃ b, b = l[i] := ⟨_, rfl⟩
          obtain ⟨bn, hbn⟩ : ∃ bn, bn = b.toNat := ⟨_, rfl⟩
          have b8 : bn < 256 := by rw [hbn]; exact b.toNat_lt
          have hbe : ((⟨l.toArray⟩ : ByteArray)[i]).toNat = bn := by rw [hbn, hb']; rfl
          have MB := Lib.hid (show b ∈ l from by rw [hb']; exact List.getElem_mem hl)
          have TK := Lib.hid (show l.take (i + 1) = l.take i ++ [b] from by rw [List.take_add_one, hb']; simp [hl])
          have HB := Lib.hid hbn
          clear hb' hbn
          by_cases c1 : bn < 48
          · have d2 : decide ((bn : Int) < 48) = true := by simp; omega
            have d2' : decide (bn < 48) = true := by simp; omega
            have NO := Lib.hid (nmU_bad MB.out (fun h => by have := h.1; have := HB.out; omega))
            clear c1
            go_wp2
            go_ret2
            exact ⟨ret_ib (by rw [NO.out]) (by rw [NO.out]), Below.refl _ _⟩
          · have d2 : decide ((bn : Int) < 48) = false := by simp; omega
            have d2' : decide (bn < 48) = false := by simp; omega
            by_cases c2 : 57 < bn
            · have d3 : decide ((57 : Int) < (bn : Int)) = true := by simp; omega
              have d3' : decide (57 < bn) = true := by simp; omega
              have NO := Lib.hid (nmU_bad MB.out (fun h => by have := h.2; have := HB.out; omega))
              clear c1 c2
              go_wp2
              go_ret2
              exact ⟨ret_ib (by rw [NO.out]) (by rw [NO.out]), Below.refl _ _⟩
            · have d3 : decide ((57 : Int) < (bn : Int)) = false := by simp; omega
              have d3' : decide (57 < bn) = false := by simp; omega
              have e1 : 48 ≤ (bn : Int) := by omega
              have e2 : (bn : Int) ≤ 57 := by omega
              have ND := Lib.hid (show num (l.take (i + 1)) = 10 * m + (bn - 48) from by rw [TK.out, num_snoc, ← HM.out, HB.out])
              have AL2 := Lib.hid (show ∀ x ∈ l.take (i + 1), isD x from by
                rw [TK.out]; intro x hx; rcases List.mem_append.1 hx with hx | hx
                · exact ALL.out x hx
                · rw [List.mem_singleton.1 hx]; have := HB.out; exact ⟨by omega, by omega⟩)
              go_wp2
              go_round
              case rel =>
                refine ⟨i + 1, by omega, ?_, by go_num, AL2.out, ?_⟩
                · rw [ND.out]; go_num
                · rw [ND.out, Nat.pow_succ]; omega
              case measure => simp [intOf]; omega
        · have d1 : decide ((i : Int) < (n : Int)) = false := by simp; omega
          have d1' : decide (i < n) = false := by simp; omega
          have he : l.take i = l := List.take_of_length_le (by have := HN.out; omega)
          have YE := Lib.hid (GOOD.out (by have := ALL.out; rw [he] at this; exact this))
          have HM2 := Lib.hid (show num l = m from by rw [HM.out, he])
          clear he
          go_wp2
          go_ret2
          exact ⟨ret_ib (by rw [YE.out, ← HM2.out]) (by rw [YE.out]), Below.refl _ _⟩
    · have w1 : (b0 == 48) = false := by simp [c0]
      have w2 : ((b0 : Int) == 48) = false := by simp; omega
      have w3 : decide (b0 = 48) = false := by simp [c0]
      clear c0
      go_enter Tryz.func58, Tryz.ntmps58
      go_wp2_with fail
      go_loop [6, 7] (fun a b => ∃ i : Nat, i ≤ n ∧ a = .int .i64 (num (l.take i)) ∧ b = .int .i64 i ∧ (∀ b ∈ l.take i, isD b) ∧ num (l.take i) < 10 ^ i) (fun _ b => 20 - (intOf b).toNat)
      case atStart => exact ⟨0, by omega, rfl, rfl, by simp, by simp [num]⟩
      case round =>
        obtain ⟨i, hi, rfl, rfl, hall, hb⟩ := hrel
        have ALL := Lib.hid hall
        have hb2 : 10 ^ i ≤ 10 ^ 16 := Nat.pow_le_pow_right (by omega) (by omega)
        obtain ⟨m, hm⟩ : ∃ m, m = num (l.take i) := ⟨_, rfl⟩
        rw [← hm] at hb ⊢
        have HM := Lib.hid hm
        clear hall hm
        by_cases hlt : i < n
        · have d1 : decide ((i : Int) < (n : Int)) = true := by simp; omega
          have d1' : decide (i < n) = true := by simp; omega
          have hs : i < (⟨l.toArray⟩ : ByteArray).size := by omega
          have hl : i < l.length := by have := HN.out; omega
          obtain ⟨b, hb'⟩ : ∃ b, b = l[i] := ⟨_, rfl⟩
          obtain ⟨bn, hbn⟩ : ∃ bn, bn = b.toNat := ⟨_, rfl⟩
          have b8 : bn < 256 := by rw [hbn]; exact b.toNat_lt
          have hbe : ((⟨l.toArray⟩ : ByteArray)[i]).toNat = bn := by rw [hbn, hb']; rfl
          have MB := Lib.hid (show b ∈ l from by rw [hb']; exact List.getElem_mem hl)
          have TK := Lib.hid (show l.take (i + 1) = l.take i ++ [b] from by rw [List.take_add_one, hb']; simp [hl])
          have HB := Lib.hid hbn
          clear hb' hbn
          by_cases c1 : bn < 48
          · have d2 : decide ((bn : Int) < 48) = true := by simp; omega
            have d2' : decide (bn < 48) = true := by simp; omega
            have NO := Lib.hid (nmU_bad MB.out (fun h => by have := h.1; have := HB.out; omega))
            clear c1
            go_wp2
            go_ret2
            exact ⟨ret_ib (by rw [NO.out]) (by rw [NO.out]), Below.refl _ _⟩
          · have d2 : decide ((bn : Int) < 48) = false := by simp; omega
            have d2' : decide (bn < 48) = false := by simp; omega
            by_cases c2 : 57 < bn
            · have d3 : decide ((57 : Int) < (bn : Int)) = true := by simp; omega
              have d3' : decide (57 < bn) = true := by simp; omega
              have NO := Lib.hid (nmU_bad MB.out (fun h => by have := h.2; have := HB.out; omega))
              clear c1 c2
              go_wp2
              go_ret2
              exact ⟨ret_ib (by rw [NO.out]) (by rw [NO.out]), Below.refl _ _⟩
            · have d3 : decide ((57 : Int) < (bn : Int)) = false := by simp; omega
              have d3' : decide (57 < bn) = false := by simp; omega
              have e1 : 48 ≤ (bn : Int) := by omega
              have e2 : (bn : Int) ≤ 57 := by omega
              have ND := Lib.hid (show num (l.take (i + 1)) = 10 * m + (bn - 48) from by rw [TK.out, num_snoc, ← HM.out, HB.out])
              have AL2 := Lib.hid (show ∀ x ∈ l.take (i + 1), isD x from by
                rw [TK.out]; intro x hx; rcases List.mem_append.1 hx with hx | hx
                · exact ALL.out x hx
                · rw [List.mem_singleton.1 hx]; have := HB.out; exact ⟨by omega, by omega⟩)
              go_wp2
              go_round
              case rel =>
                refine ⟨i + 1, by omega, ?_, by go_num, AL2.out, ?_⟩
                · rw [ND.out]; go_num
                · rw [ND.out, Nat.pow_succ]; omega
              case measure => simp [intOf]; omega
        · have d1 : decide ((i : Int) < (n : Int)) = false := by simp; omega
          have d1' : decide (i < n) = false := by simp; omega
          have he : l.take i = l := List.take_of_length_le (by have := HN.out; omega)
          have YE := Lib.hid (GOOD.out (by have := ALL.out; rw [he] at this; exact this))
          have HM2 := Lib.hid (show num l = m from by rw [HM.out, he])
          clear he
          go_wp2
          go_ret2
          exact ⟨ret_ib (by rw [YE.out, ← HM2.out]) (by rw [YE.out]), Below.refl _ _⟩
theorem sg_drop {l : List UInt8} (h : sg l) : ¬ sg (l.drop 1) := by
  rintro ⟨_, q, _⟩
  rw [List.getElem?_drop] at q
  exact h.2.2.2 q
set_option maxHeartbeats 2000000 in
theorem numS (l : List UInt8) (w : World) (hz : l.length ≤ 4194304) : Calls Tryz.prog 58 #[.string ⟨l.toArray⟩] w fun e w' => e = .returned (nmT l) ∧ Below w.heap.size w w' := by
  unfold nmT nm
  by_cases hs : sg l
  · have NU := Lib.hid (fun W => numU (l.drop 1) W (by rw [List.length_drop]; omega) (sg_drop hs))
    rw [if_pos hs]
    have LE := Lib.hid (nmU_le (l.drop 1))
    obtain ⟨h1n, q0, q1, q2⟩ := hs
    have k0 : (l[0]).toNat = 45 := (at0 (by omega) 45).1 q0
    have k1 : ¬ (l[1]).toNat = 48 := fun h => q1 ((at1 h1n 48).2 h)
    have k2 : ¬ (l[1]).toNat = 45 := fun h => q2 ((at1 h1n 45).2 h)
    clear q0 q1 q2
    obtain ⟨n, hn⟩ : ∃ n, n = l.length := ⟨_, rfl⟩
    have el : (⟨l.toArray⟩ : ByteArray).size = n := hn.symm
    have E1 := ext1 l 1
    rw [← hn] at E1
    have s0 : 0 < (⟨l.toArray⟩ : ByteArray).size := by omega
    have s1 : 1 < (⟨l.toArray⟩ : ByteArray).size := by omega
    have h0 : ((⟨l.toArray⟩ : ByteArray)[0]).toNat = 45 := k0
    obtain ⟨b1, hb1⟩ : ∃ b, b = (l[1]).toNat := ⟨_, rfl⟩
    have h1 : ((⟨l.toArray⟩ : ByteArray)[1]).toNat = b1 := hb1.symm
    rw [← hb1] at k1 k2
    have b18 : b1 < 256 := by rw [hb1]; exact (l[1]).toNat_lt
    rw [← hn] at hz h1n
    have t1 : decide ((1 : Int) < (n : Int)) = true := by simp; omega
    have t1' : decide (1 < n) = true := by simp; omega
    have v1 : (b1 == 48) = false := by simp [k1]
    have v2 : ((b1 : Int) == 48) = false := by simp; omega
    have v3 : decide (b1 = 48) = false := by simp [k1]
    have v4 : (b1 != 48) = true := by simp [k1]
    have v5 : ((b1 : Int) != 48) = true := by simp; omega
    have u1 : (b1 == 45) = false := by simp [k2]
    have u2 : ((b1 : Int) == 45) = false := by simp; omega
    have u3 : decide (b1 = 45) = false := by simp [k2]
    have u4 : (b1 != 45) = true := by simp [k2]
    have u5 : ((b1 : Int) != 45) = true := by simp; omega
    have n1 : (1 : Int) ≤ (n : Int) := by omega
    generalize (nmU (l.drop 1)).1 = z at NU LE ⊢
    generalize (nmU (l.drop 1)).2 = t at NU ⊢
    clear hb1 hn k0 k1 k2
    have z1 := LE.out.1
    have z2 := LE.out.2
    go_enter Tryz.func58, Tryz.ntmps58
    go_wp2_with fail
    rw [← List.drop_one]
    refine (NU.out _).mono ?_
    rintro e w1 ⟨rfl, b1⟩
    have B1 := Lib.hid b1
    clear b1
    go_wp2
    go_ret2
    exact ⟨rfl, B1.out⟩
  · rw [if_neg hs]
    exact numU l w hz hs
end Go.Proofs.YtpogfdeioibkdaaGreatDoor.ptm
