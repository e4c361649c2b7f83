/-
  Proved: for every code, the law of Shared holds of the drawn total and weights; the law laws.FnShared returns true and its arguments read as before. Conditions: none beyond the given row.
-/
import Derived.Test.YtjkghpfcjjnghaaShN
import Derived.Test.YtjkghpfcjjnghaaShU
import Derived.Test.YtjkghpfcjjnghaaDrawW
namespace Go.Proofs.Ytjkghpfcjjnghaa.fnShared
open Go.ChangeShapes Go.WideShapes Go.ChangeAt Go.RowKit

/-- What the law asks of an allocation. -/
structure Al (T n : Nat) (W : Nat → Nat) (f : Nat → Nat) : Prop where
  sum : alc.sm f n = T
  bd : ∀ i, i < n → f i ≤ T
  pre : ∀ k, k ≤ n → alc.sm f k ≤ T
  zero : ∀ i, i < n → W i = 0 → f i = 0
  more : ∀ i k, i < n → k < n → W i < W k → f i ≤ f k
  same : ∀ i k, i < n → k < i → W k = W i → f i ≤ f k ∧ f k ≤ f i + 1
theorem al_of {t : Int} {zs : List Int} (h : shr.Good t zs) {S : Nat → Bool} (D : alc.Dwn (shr.rf t.toNat (shr.sumW zs) (shr.wf zs)) zs.length S (t.toNat - alc.sm (shr.qf t.toNat (shr.sumW zs) (shr.wf zs)) zs.length)) :
    Al t.toNat zs.length (shr.wf zs) (alc.got (shr.qf t.toNat (shr.sumW zs) (shr.wf zs)) S) := by
  have A := h.alc
  have e := alc.got_sum A D
  exact ⟨e, fun i hi => by
    have := alc.sm_one (f := alc.got (shr.qf t.toNat (shr.sumW zs) (shr.wf zs)) S) hi
    omega, fun k hk => by
    have := alc.sm_pre (f := alc.got (shr.qf t.toNat (shr.sumW zs) (shr.wf zs)) S) hk
    omega, fun i hi hz => alc.zero_none A D i hi hz, fun i k hi hk hw => alc.more_no_less A D i k hi hk hw, fun i k hi hk hw => alc.same_first A D i k hi hk hw⟩

theorem walk_big (a : Option Addr) (len cap : Nat) (w : World) (hl : len ≤ maxLen) (hb : 1048576 < len) : Calls Try.prog 5 #[.slice a len cap] w fun e w' => e = .returned (.bool true) ∧ Below w.heap.size w w' := by
  go_enter Try.func5, Try.ntmps5
  go_wp2_with fail
  refine (draw.bigT a len cap w hb hl).mono ?_
  rintro e w' ⟨rfl, rfl⟩
  go_wp2
  go_ret
  exact ⟨rfl, Below.refl _ _⟩

set_option maxRecDepth 100000 in
set_option maxHeartbeats 8000000 in
theorem walk_small (a : Option Addr) (len cap : Nat) (w : World) (hb : len ≤ 1048576) (hB : draw.Bytes w a len) : Calls Try.prog 5 #[.slice a len cap] w fun e w' => e = .returned (.bool true) ∧ Below w.heap.size w w' := by
  have HB := Lib.hid hB
  clear hB
  go_enter Try.func5, Try.ntmps5
  go_wp2_with fail
  refine (draw.bigF a len cap w hb).mono ?_
  rintro e w' ⟨rfl, rfl⟩
  go_wp2_with fail
  refine (draw.drawShared a len cap w HB.out hb).mono ?_
  rintro e w1 ⟨t, ax, cx, gx, zs, rfl, rx, G, hl, b1⟩
  have RX := Lib.hid rx
  have GX := Lib.hid (fun h => (G h).2)
  have B1 := Lib.hid b1
  clear rx G b1 HB
  go_wp2_with fail
  refine (shr.impl w1 ax cx gx t zs RX.out GX.out (by omega)).mono ?_
  rintro e w2 ⟨ag, cg, gg, l, rfl, rg, G, b2, sh⟩
  have SH := Lib.hid sh
  have small := sh.small
  have RG := Lib.hid rg
  have GG := Lib.hid G
  have RX2 := Lib.hid (RX.out.keep (w' := w2) fun h => b2.block gx (GX.out h))
  have B2 := Lib.hid (B1.out.trans (b2.mono B1.out.size))
  have z12 := b2.size
  clear rg G b2 sh
  go_wp2_with fail
  refine (shr.spec w2 ax cx gx t zs RX2.out (fun h => by have := GX.out h; omega) (by omega)).mono ?_
  rintro e w3 ⟨a0, c0, g0, l', rfl, r0, G, b3, sh⟩
  obtain rfl : l = l' := SH.out.uniq sh
  have R0 := Lib.hid r0
  have RG3 := Lib.hid (RG.out.keep (w' := w3) fun h => b3.block gg (GG.out h).2)
  have RX3 := Lib.hid (RX2.out.keep (w' := w3) fun h => b3.block gx (by have := GX.out h; omega))
  have B3 := Lib.hid (B2.out.trans (b3.mono B2.out.size))
  have z23 := b3.size
  clear r0 G b3 sh RG RX2
  go_wp2_with fail
  refine (rows.sameT w3 ag a0 cg c0 gg g0 l RG3.out R0.out (by omega)).mono ?_
  rintro e w3' ⟨rfl, q, hq⟩
  subst hq
  have RG4 := Lib.hid (show rows.Row (w3.drewN q) ag cg gg l from RG3.out.keep fun _ => rfl)
  have RX4 := Lib.hid (show rows.Row (w3.drewN q) ax cx gx zs from RX3.out.keep fun _ => rfl)
  have B4 := Lib.hid (below_drewN B3.out q)
  have z34 : (w3.drewN q).heap.size = w3.heap.size := rfl
  clear RG3 RX3 R0
  generalize w3.drewN q = w4 at *
  rcases SH.out with ⟨hG, hl0⟩ | ⟨hG, S, hD, hl1⟩
  · have NG := Lib.hid hG
    have L0 := Lib.hid hl0
    obtain ⟨m, hm⟩ : ∃ m, m = l.length := ⟨_, rfl⟩
    have hm0 : m = 0 := by rw [hm, hl0]; rfl
    have HM := Lib.hid hm
    rw [← hm]
    rw [← hm] at small
    clear hG hl0 hm
    subst hm0
    go_wp2_with fail
    refine (shr.spec w4 ax cx gx t zs RX4.out (fun h => by have := GX.out h; omega) (by omega)).mono ?_
    rintro e w5 ⟨a5, c5, g5, l', rfl, r5, G, b5, sh⟩
    obtain rfl : l = l' := SH.out.uniq sh
    have R5 := Lib.hid r5
    have RG5 := Lib.hid (RG4.out.keep (w' := w5) fun h => by rw [← HM.out] at h; omega)
    have B5 := Lib.hid (B4.out.trans (b5.mono B4.out.size))
    have EQ := Lib.hid (rows.sameT w5 ag a5 cg c5 gg g5 l RG5.out R5.out (by rw [← HM.out]; omega))
    rw [← HM.out] at EQ ⊢
    clear r5 G b5 sh RG4
    go_wp2_with fail
    refine EQ.out.mono ?_
    rintro e w6 ⟨rfl, q6, hq⟩
    subst hq
    go_wp2
    go_ret
    exact ⟨rfl, below_drewN B5.out q6⟩
  · have AL := Lib.hid (al_of hG hD)
    have IR := Lib.hid (fun i hi => shr.wf_bd hG.2.2.2.1 i hi)
    have tb := hG.2.1
    have pos := hG.pos
    obtain ⟨T, rfl⟩ := Int.eq_ofNat_of_zero_le hG.1
    simp only [Int.toNat_natCast] at AL hl1
    obtain ⟨f, hf⟩ : ∃ f, f = alc.got (shr.qf T (shr.sumW zs) (shr.wf zs)) S := ⟨_, rfl⟩
    rw [← hf] at AL hl1
    have LG : Hid (∀ i, i < zs.length → w4.cell? ⟨gg, i, none⟩ = some (.int .i64 (f i : Nat))) := Lib.hid fun i hi => by
      have h := RG4.out.cells i (by rw [hl1, shr.lst_len]; exact hi)
      rw [h, hl1, shr.lst_get _ _ _ hi]
    have LX : Hid (∀ i, i < zs.length → w4.cell? ⟨gx, i, none⟩ = some (.int .i64 (shr.wf zs i : Nat))) := Lib.hid fun i hi => by
      rw [RX4.out.cells i hi, (IR.out i hi).2]
    have hln : l.length = zs.length := by rw [hl1, shr.lst_len]
    obtain rfl := RG4.out.addr (by omega)
    obtain rfl := RX4.out.addr pos
    have rm1 := RG4.out.room
    have rm2 := RX4.out.room
    have WB := Lib.hid (fun i hi => (IR.out i hi).1)
    rw [hln] at rm1 ⊢
    obtain ⟨n, hn⟩ : ∃ n, n = zs.length := ⟨_, rfl⟩
    rw [← hn] at AL LG LX rm1 rm2 hl pos WB ⊢
    clear hG hD hl1 hln hf IR RG4 RX4 SH small hn
    obtain ⟨W, hW⟩ : ∃ W, W = shr.wf zs := ⟨_, rfl⟩
    rw [← hW] at AL LX WB
    clear hW
    have tp : ((n : Int) == 0) = false := by simp; omega
    have tt : ((T : Int) == (T : Int)) = true := by simp
    have tn : ((n : Int) == (n : Int)) = true := by simp
    go_wp2
    go_loopw [6, 7] (fun vs vi wr => ∃ i q : Nat, i ≤ n ∧ vi = .int .i64 i ∧ vs = .int .i64 (alc.sm f i : Nat) ∧ wr = w4.drewN q) (fun _ vi _ => n - (intOf vi).toNat)
    case atStart => exact ⟨0, 0, by omega, rfl, rfl, rfl⟩
    case round =>
      obtain ⟨i, q, hi, rfl, rfl, rfl⟩ := hrel
      by_cases hlt : i < n
      · have c1 := LG.out i hlt
        have c2 := LX.out i hlt
        have bs := AL.out.pre (i + 1) hlt
        rw [alc.sm_succ] at bs
        have bw := WB.out i hlt
        have Z := AL.out.zero i hlt
        obtain ⟨li, hli⟩ : ∃ li, li = f i := ⟨_, rfl⟩
        obtain ⟨wi, hwi⟩ : ∃ wi, wi = W i := ⟨_, rfl⟩
        obtain ⟨m, hm⟩ : ∃ m, m = alc.sm f i := ⟨_, rfl⟩
        rw [← hli] at c1 bs Z
        rw [← hwi] at c2 bw Z
        rw [← hm] at bs ⊢
        have HH := Lib.hid (And.intro hli (And.intro hwi hm))
        have u1 : decide (i < n) = true := by simp; omega
        have z1 : (i : Int) < (n : Int) := by omega
        have u2 : decide ((li : Int) < 0) = false := by simp
        have u3 : (((wi : Int) == 0) = true ∧ ((li : Int) != 0) = false) ∨ ((wi : Int) == 0) = false := by
          by_cases e : wi = 0
          · have := Z e
            exact .inl ⟨by simp; omega, by simp; omega⟩
          · exact .inr (by simp; omega)
        have lb : li ≤ T := by omega
        clear hli hwi hm Z
        rcases u3 with ⟨u3, u4⟩ | u3
        all_goals
          go_wp2
          try (go_quiet (fail); go_wp2)
          go_loopw [8] (fun vk wr => ∃ k q : Nat, k ≤ i ∧ vk = .int .i64 k ∧ wr = w4.drewN q) (fun vk _ => i - (intOf vk).toNat)
          case atStart => exact ⟨0, _, by omega, rfl, rfl⟩
          case round =>
            obtain ⟨k, q2, hk, rfl, rfl⟩ := hrel
            by_cases hlt2 : k < i
            · have c3 := LG.out k (by omega)
              have c4 := LX.out k (by omega)
              have M1 := AL.out.more i k hlt (by omega)
              have M2 := AL.out.more k i (by omega) hlt
              have M3 := AL.out.same i k hlt hlt2
              have lkb := AL.out.bd k (by omega)
              rw [← HH.out.1, ← HH.out.2.1] at M1 M2 M3
              obtain ⟨lk, hlk⟩ : ∃ lk, lk = f k := ⟨_, rfl⟩
              obtain ⟨wk, hwk⟩ : ∃ wk, wk = W k := ⟨_, rfl⟩
              rw [← hlk] at c3 M1 M2 M3 lkb
              rw [← hwk] at c4 M1 M2 M3
              have v1 : decide (k < i) = true := by simp; omega
              have z3 : (k : Int) < (n : Int) := by omega
              clear hlk hwk
              rcases Nat.lt_trichotomy wk wi with h | h | h
              · have a1 : decide (wi < wk) = false := by simp; omega
                have a2 : decide (wk < wi) = true := by simp; omega
                have a3 : decide (li < lk) = false := by have := M2 h; simp; omega
                have a4 : ((wk : Int) == (wi : Int)) = false := by simp; omega
                clear M1 M2 M3 h
                go_wp2
                simp only [List.append_eq, List.cons_append, List.nil_append]
                go_quiet (fail)
                go_wp2
                go_roundw
                case rel => exact ⟨k + 1, _, by omega, by go_num, rfl⟩
                case measure => simp [intOf]; omega
              · have a1 : decide (wi < wk) = false := by simp; omega
                have a2 : decide (wk < wi) = false := by simp; omega
                have a4 : ((wk : Int) == (wi : Int)) = true := by simp; omega
                have a5 : decide (lk < li) = false := by have := (M3 h).1; simp; omega
                have a6 : decide ((li : Int) + 1 < (lk : Int)) = false := by have := (M3 h).2; simp; omega
                clear M1 M2 M3 h
                go_wp2
                simp only [List.append_eq, List.cons_append, List.nil_append]
                go_quiet (fail)
                go_wp2
                go_roundw
                case rel => exact ⟨k + 1, _, by omega, by go_num, rfl⟩
                case measure => simp [intOf]; omega
              · have a1 : decide (wi < wk) = true := by simp; omega
                have a2 : decide (wk < wi) = false := by simp; omega
                have a4 : ((wk : Int) == (wi : Int)) = false := by simp; omega
                have a5 : decide (lk < li) = false := by have := M1 h; simp; omega
                clear M1 M2 M3 h
                go_wp2
                simp only [List.append_eq, List.cons_append, List.nil_append]
                go_quiet (fail)
                go_wp2
                go_roundw
                case rel => exact ⟨k + 1, _, by omega, by go_num, rfl⟩
                case measure => simp [intOf]; omega
            · have v1 : decide (k < i) = false := by simp; omega
              go_wp2
              go_roundw
              case rel =>
                refine ⟨i + 1, q2, by omega, by go_num, ?_, rfl⟩
                rw [alc.sm_succ, ← HH.out.1, ← HH.out.2.2]
                congr 1
              case measure => simp [intOf]; omega
      · have u1 : decide (i < n) = false := by simp; omega
        obtain rfl : i = n := by omega
        rw [AL.out.sum]
        go_wp2
        go_ret
        exact ⟨rfl, below_drewN B4.out q⟩

theorem walk (a : Option Addr) (len cap : Nat) (w : World) (hl : len ≤ maxLen) (hB : draw.Bytes w a len) : Calls Try.prog 5 #[.slice a len cap] w fun e w' => e = .returned (.bool true) ∧ Below w.heap.size w w' := by
  by_cases hb : len ≤ 1048576
  · exact walk_small a len cap w hb hB
  · exact walk_big a len cap w hl (by omega)

theorem own : ownKnob Try.prog.godebug = none := by kernel_rfl
theorem laidOut : laidOutB Try.prog = true := by kernel_rfl
theorem isLaw : lift.IsLaw Rows.fnSharedSpec 1 0 := fun _ ds gs h1 h2 => match ds, h1 with | [_], _ => match gs, h2 with | [], _ => rfl

set_option maxRecDepth 100000 in
theorem lifted (os : Os) (started : os.Started) (H : Type) (enc : TypeId × Value → H) :
    ReturnsInHanded {} Try.checked os 5 .any (Rows.fnSharedSpec.pre6 enc Try.prog Try.f5 Rows.fnSharedRow.domain false) (Rows.fnSharedSpec.post enc Try.prog Try.f5 false true false false) := by
  refine returnsInHanded_of_change (C := Try.checked) own started (by kernel_rfl) Try.func5
    (ChangeSpec.witness6 (enc := enc) (C := Try.checked) false ⟨#[], #[.slice none 0 0], []⟩ 8 (by kernel_rfl) (by kernel_rfl) (by kernel_rfl) (by kernel_rfl)) ?_
  intro W base args ds gs before hval0 hW _ _
  have hval : ∀ (j : Nat) t v, Try.f5.params[j]? = some t → args[j]? = some v → Value.okWide Try.prog W .any base t v := hval0
  have hW' := hW
  obtain ⟨p, q, hA0, hV, hrest⟩ := hW
  have hA : DataW.TrodAll enc Try.prog W 0 (fun _ => true) true Try.f5.params.toList args.toList ds p := hA0
  clear hA0 hval0 hV hrest
  rw [Try.params5] at hA hval
  obtain ⟨v0, d0, rfl, rfl, h0⟩ := trodAll_one hA
  obtain ⟨a, len, cap, rfl, hlen, hB⟩ := draw.open_code Try.underlying22 Try.underlying5 (by kernel_rfl) (hval 0 22 v0 rfl rfl) h0
  refine (walk a len cap W hlen hB).mono fun e W' ⟨he, hb⟩ => ?_
  subst he
  exact ⟨_, rfl, lift.law_post laidOut (by kernel_rfl) (by kernel_rfl) (by kernel_rfl) Try.underlying4 (by rw [Try.params5]; exact isLaw) hW' hb⟩

theorem over : Rows.fnSharedRow.holds Try.pinned (OpenSpec.ofChange Rows.fnSharedSpec) :=
  OpenClaim.holds_of_wide 5 Try.f5 rfl rfl rfl rfl rfl rfl rfl ⟨rfl, rfl, rfl, rfl, rfl⟩ rfl rfl rfl rfl rfl (by kernel_rfl) Try.func5 (by kernel_rfl)
    (of_decide_eq_true (by kernel_rfl)) (by unfold Func.isWrapper; first | (rw [if_pos (by decide +kernel)]; kernel_rfl) | (rw [if_neg (by decide +kernel)]; exact ⟨rfl, rfl⟩))
    (fun os started H enc _ => lifted os started H enc)

theorem proved : Rows.FnSharedSaid := over
#print axioms proved
end Go.Proofs.Ytjkghpfcjjnghaa.fnShared
