/-
  Proved: for every code, the law of equal weights holds of the drawn total; the law laws.FnSharedOnes returns true and its arguments read as before. Conditions: none beyond the given row.
-/
import Derived.Test.YtjkghpfcjjnghaaShN
import Derived.Test.YtjkghpfcjjnghaaDrawW
import Derived.Test.YtjkghpfcjjnghaaByteOf
namespace Go.Proofs.Ytjkghpfcjjnghaa.fnSharedOnes
open Go.ChangeShapes Go.WideShapes Go.ChangeAt Go.RowKit

theorem sevens_len (k : Nat) : (List.replicate k (7 : Int)).length = k := by simp
theorem sevens_wf (k i : Nat) (hi : i < k) : shr.wf (List.replicate k (7 : Int)) i = 7 := by
  unfold shr.wf
  rw [List.getD_eq_getElem?_getD, List.getElem?_replicate, if_pos hi]; rfl
theorem sevens_sum (k : Nat) : shr.sumW (List.replicate k (7 : Int)) = 7 * k := by
  unfold shr.sumW
  rw [sevens_len, ← alc.sm_const 7 k]
  exact alc.sm_congr fun i hi => sevens_wf k i hi
theorem sevens_good (T k : Nat) (hT : T ≤ 1000000000000) (h1 : 1 ≤ k) (h2 : k ≤ 60) : shr.Good (T : Int) (List.replicate k (7 : Int)) := by
  refine ⟨by omega, by omega, by rw [sevens_len]; exact h2, fun i hi => ?_, by rw [sevens_sum]; omega⟩
  rw [sevens_len] at hi
  rw [List.getD_eq_getElem?_getD, List.getElem?_replicate, if_pos hi]; simp
/-- What equal weights are given. -/
theorem ones {T k : Nat} (hT : T ≤ 1000000000000) (h1 : 1 ≤ k) (h2 : k ≤ 60) {l : List Int} (h : shr.Sh (T : Int) (List.replicate k (7 : Int)) l) : l.length = k ∧ ∀ i, i < k → l.getD i 0 = ((T / k + if i < T % k then 1 else 0 : Nat) : Int) := by
  have G := sevens_good T k hT h1 h2
  rcases h with ⟨hn, _⟩ | ⟨_, S, D, rfl⟩
  · exact (hn G).elim
  · have A := G.alc
    rw [sevens_len] at D ⊢
    rw [sevens_len] at A
    rw [sevens_sum] at A D ⊢
    simp only [Int.toNat_natCast] at A D ⊢
    refine ⟨shr.lst_len _ _, fun i hi => ?_⟩
    rw [shr.lst_get _ _ _ hi, alc.ones_first A D (fun i hi => sevens_wf k i hi) (by omega) (by omega) i hi]

theorem walk_big (a : Option Addr) (len cap : Nat) (w : World) (hl : len ≤ maxLen) (hb : 1048576 < len) : Calls Try.prog 6 #[.slice a len cap] w fun e w' => e = .returned (.bool true) ∧ Below w.heap.size w w' := by
  go_enter Try.func6, Try.ntmps6
  go_wp2_with fail
  refine (draw.bigT a len cap w hb hl).mono ?_
  rintro e w' ⟨rfl, rfl⟩
  go_wp2
  go_ret
  exact ⟨rfl, Below.refl _ _⟩

theorem none_len {t : Int} {zs l : List Int} (h : shr.Sh t zs l) (hb : t < 0 ∨ 1000000000000 < t ∨ 60 < zs.length) : l.length = 0 := by
  rcases h with ⟨_, rfl⟩ | ⟨g, _⟩
  · rfl
  · have := g.1; have := g.2.1; have := g.2.2.1; omega

set_option maxRecDepth 100000 in
set_option maxHeartbeats 8000000 in
theorem walk_small (a : Option Addr) (len cap : Nat) (w : World) (hb : len ≤ 1048576) (hB : draw.Bytes w a len) : Calls Try.prog 6 #[.slice a len cap] w fun e w' => e = .returned (.bool true) ∧ Below w.heap.size w w' := by
  have HB := Lib.hid hB
  clear hB
  go_enter Try.func6, Try.ntmps6
  go_wp2_with fail
  refine (draw.bigF a len cap w hb).mono ?_
  rintro e w' ⟨rfl, rfl⟩
  go_wp2_with fail
  refine (draw.drawShared a len cap w HB.out hb).mono ?_
  rintro e w1 ⟨t, ax, cx, gx, zs, rfl, rx, G, hl, b1⟩
  have RX := Lib.hid rx
  have GX := Lib.hid (fun h => (G h).2)
  have B1 := Lib.hid b1
  clear rx G b1
  by_cases hbad : t < 0 ∨ 1000000000000 < t ∨ 60 < zs.length
  · have NL := Lib.hid (fun l h => none_len (t := t) (zs := zs) (l := l) h hbad)
    have t1 : decide (t < 0) = true ∨ (decide (t < 0) = false ∧ decide (1000000000000 < t) = true) ∨ (decide (t < 0) = false ∧ decide (1000000000000 < t) = false ∧ decide ((60 : Int) < (zs.length : Int)) = true) := by
      by_cases c1 : t < 0
      · exact .inl (by simp; omega)
      · by_cases c2 : 1000000000000 < t
        · exact .inr (.inl ⟨by simp; omega, by simp; omega⟩)
        · exact .inr (.inr ⟨by simp; omega, by simp; omega, by simp; omega⟩)
    clear hbad
    rcases t1 with t1 | ⟨t1, t2⟩ | ⟨t1, t2, t3⟩
    all_goals
      go_wp2_with fail
      refine (shr.impl w1 ax cx gx t zs RX.out GX.out (by omega)).mono ?_
      rintro e w2 ⟨ag, cg, gg, l, rfl, rg, G, b2, sh⟩
      have B2 := Lib.hid (B1.out.trans (b2.mono B1.out.size))
      have z0 := NL.out l sh
      rw [z0]
      clear rg G b2 sh z0
      go_wp2
      go_ret
      exact ⟨rfl, B2.out⟩
  · obtain ⟨T, rfl⟩ := Int.eq_ofNat_of_zero_le (show 0 ≤ t by omega)
    have tb : T ≤ 1000000000000 := by omega
    have t1 : decide ((T : Int) < 0) = false := by simp
    have t2 : decide ((1000000000000 : Int) < (T : Int)) = false := by simp; omega
    have t3 : decide ((60 : Int) < (zs.length : Int)) = false := by simp; omega
    have HB1 := Lib.hid (HB.out.below B1.out)
    generalize zs.length = nz at *
    clear hbad RX GX HB
    obtain ⟨i2, hi2, hz20, hz21, hz22⟩ := info_parts rows.info2
    have INF := Lib.hid (And.intro hi2 (And.intro hz20 (And.intro hz21 hz22)))
    clear hi2 hz20 hz21 hz22
    go_wp2_with fail
    refine (draw.byteOf a len cap w1 5 (by omega) HB1.out hb).mono ?_
    rintro e w' ⟨⟨y, hy, rfl⟩, rfl⟩
    obtain ⟨k, hk⟩ : ∃ k, k = 1 + y % 60 := ⟨_, rfl⟩
    have ek : (1 : Int) + (y : Int).tmod 60 = (k : Int) := by
      rw [Int.tmod_eq_emod_of_nonneg (by omega)]; omega
    have ek2 : (1 : Int) + (y : Int) % 60 = (k : Int) := by omega
    have k1 : 1 ≤ k := by omega
    have k2 : k ≤ 60 := by omega
    clear hk
    have O0 := Lib.hid (show (w1.alloc (.cells #[] 2)).ownsRow w1.heap.size 2 1 (.slice (some ⟨w1.heap.size, 0, none⟩) 0 0) 0 ((List.replicate 0 (7 : Int)).map (Value.int .i64)) from ⟨rfl, .inr ⟨w1.heap.size, 0, #[], rfl, Nat.le_refl _, heap_alloc_new w1 _, Nat.le_refl _, Nat.zero_le _, rfl, rfl⟩⟩)
    have BA := Lib.hid ((Below.refl w1.heap.size w1).alloc (Nat.le_refl _) (.cells #[] 2))
    go_wp2
    clear ek ek2
    go_loopw [6, 7] (fun v vi wr => ∃ i : Nat, i ≤ k ∧ vi = .int .i64 i ∧ Hid (wr.ownsRow w1.heap.size 2 1 v i ((List.replicate i (7 : Int)).map (Value.int .i64))) ∧ Hid (Below w1.heap.size w1 wr)) (fun _ vi _ => k - (intOf vi).toNat)
    case atStart => exact ⟨0, by omega, rfl, O0, BA⟩
    case round =>
      obtain ⟨i, hi, rfl, O, BW⟩ := hrel
      by_cases hlt : i < k
      · have u1 : decide (i < k) = true := by simp; omega
        have szw := BW.out.size
        obtain ⟨hi2, hz20, hz21, hz22⟩ := INF.out
        go_wp2_with (at_builtin; refine wpList_append_own _ rfl _ _ 29 rfl w1.heap.size 2 i2 (.int .i64 0) 1 8 Try.underlying29 hi2 hz20 hz21 hz22 rfl (by decide) _ _ _ rfl (O.out.alloc _) ⟨wr.heap.size, 0, none⟩ 1 1 [.int .i64 7] rfl rfl ?c1 ?c2 ?c3 ?c4 ?c5 ?_)
        case c1 =>
          intro j u hj
          match j, hj with
          | 0, hj => simp at hj; subst hj; simp [Addr.add]
        case c2 => intro u hu; simp at hu; subst hu; rfl
        case c3 => unfold maxLen; omega
        case c4 => omega
        case c5 => simp; omega
        intro v3 w3 hown3 hgrow3 _
        have O3 := Lib.hid (show w3.ownsRow w1.heap.size 2 1 v3 (i + 1) ((List.replicate (i + 1) (7 : Int)).map (Value.int .i64)) by
          rw [List.replicate_succ', List.map_append, List.map_replicate]; exact hown3)
        have B3 := Lib.hid ((BW.out.alloc szw (.cells #[.int .i64 7] 2)).grown hgrow3 (by simp; omega) (fun x hx => by
          rcases O.out.2 with ⟨rfl, _⟩ | ⟨g, cap, cur, rfl, hg, _⟩
          · cases hx
          · cases hx; exact hg))
        clear hown3 hgrow3 hi2 hz20 hz21 hz22 O BW
        go_wp2
        go_roundw
        case rel => exact ⟨i + 1, by omega, by go_num, O3, B3⟩
        case measure => simp [intOf]; omega
      · have u1 : decide (i < k) = false := by simp; omega
        obtain rfl : i = k := by omega
        have O2 := O.out
        rw [← sevens_len i] at O2
        rw [show (List.replicate (List.replicate i (7 : Int)).length (7 : Int)) = List.replicate i (7 : Int) by rw [sevens_len]] at O2
        obtain ⟨ax, cx, gx, hv, RX, GX⟩ := rows.of_owns O2
        subst hv
        have KI := shr.impl wr ax cx gx (T : Int) _ RX (fun h => (GX h).2) (by rw [sevens_len]; omega)
        rw [sevens_len] at KI ⊢
        have KK := Lib.hid KI
        clear KI RX GX O2 O
        go_wp2_with fail
        refine KK.out.mono ?_
        rintro e w3 ⟨ag, cg, gg, l, rfl, rg, G, b3, sh⟩
        obtain ⟨hl, hv⟩ := ones tb k1 k2 sh
        have HV := Lib.hid hv
        have B3 := Lib.hid (B1.out.trans ((BW.out.trans (b3.mono BW.out.size)).mono B1.out.size))
        obtain rfl := rg.addr (by omega)
        have rm := rg.room
        have CL : Hid (∀ j, j < i → w3.cell? ⟨gg, j, none⟩ = some (.int .i64 (l.getD j 0))) := Lib.hid fun j hj => rg.cells j (by omega)
        rw [hl] at rm ⊢
        clear rg G b3 sh hl hv KK BW
        have tk : ((i : Int) == (i : Int)) = true := by simp
        have tk0 : ((i : Int) == 0) = false := by simp; omega
        obtain ⟨D, hD⟩ : ∃ D, D = T / i := ⟨_, rfl⟩
        obtain ⟨M, hM⟩ : ∃ M, M = T % i := ⟨_, rfl⟩
        have eD : (T : Int) / (i : Int) = (D : Int) := by rw [hD, Int.natCast_ediv]
        have eM : (T : Int).tmod (i : Int) = (M : Int) := by rw [hM]; rfl
        have dD : D ≤ T := by rw [hD]; exact Nat.div_le_self _ _
        rw [← hD, ← hM] at HV
        clear hD hM
        go_wp2
        go_loop [9] (fun vj => ∃ j : Nat, j ≤ i ∧ vj = .int .i64 j) (fun vj => i - (intOf vj).toNat)
        case atStart => exact ⟨0, by omega, rfl⟩
        case round =>
          obtain ⟨j, hj, rfl⟩ := hrel
          by_cases hlt : j < i
          · have c1 := CL.out j hlt
            rw [HV.out j hlt] at c1
            have u2 : decide (j < i) = true := by simp; omega
            have z1 : (j : Int) < (i : Int) := by omega
            by_cases hm : j < M
            · rw [if_pos hm] at c1
              have u3 : decide (j < M) = true := by simp; omega
              have c2 : w3.cell? ⟨gg, j, none⟩ = some (.int .i64 ((D : Int) + 1)) := c1
              have u4 : ((D : Int) + 1 != (D : Int) + 1) = false := by simp
              clear c1
              go_wp2
              go_round
              case rel => exact ⟨j + 1, by omega, by go_num⟩
              case measure => simp [intOf]; omega
            · rw [if_neg hm] at c1
              have u3 : decide (j < M) = false := by simp; omega
              have c2 : w3.cell? ⟨gg, j, none⟩ = some (.int .i64 (D : Int)) := c1
              have u4 : ((D : Int) != (D : Int)) = false := by simp
              clear c1
              go_wp2
              go_round
              case rel => exact ⟨j + 1, by omega, by go_num⟩
              case measure => simp [intOf]; omega
          · have u2 : decide (j < i) = false := by simp; omega
            go_wp2
            go_ret
            exact ⟨rfl, B3.out⟩

theorem walk (a : Option Addr) (len cap : Nat) (w : World) (hl : len ≤ maxLen) (hB : draw.Bytes w a len) : Calls Try.prog 6 #[.slice a len cap] w fun e w' => e = .returned (.bool true) ∧ Below w.heap.size w w' := by
  by_cases hb : len ≤ 1048576
  · exact walk_small a len cap w hb hB
  · exact walk_big a len cap w hl (by omega)

theorem own : ownKnob Try.prog.godebug = none := by kernel_rfl
theorem laidOut : laidOutB Try.prog = true := by kernel_rfl
theorem isLaw : lift.IsLaw Rows.fnSharedOnesSpec 1 0 := fun _ ds gs h1 h2 => match ds, h1 with | [_], _ => match gs, h2 with | [], _ => rfl

set_option maxRecDepth 100000 in
theorem lifted (os : Os) (started : os.Started) (H : Type) (enc : TypeId × Value → H) :
    ReturnsInHanded {} Try.checked os 6 .any (Rows.fnSharedOnesSpec.pre6 enc Try.prog Try.f6 Rows.fnSharedOnesRow.domain false) (Rows.fnSharedOnesSpec.post enc Try.prog Try.f6 false true false false) := by
  refine returnsInHanded_of_change (C := Try.checked) own started (by kernel_rfl) Try.func6
    (ChangeSpec.witness6 (enc := enc) (C := Try.checked) false ⟨#[], #[.slice none 0 0], []⟩ 8 (by kernel_rfl) (by kernel_rfl) (by kernel_rfl) (by kernel_rfl)) ?_
  intro W base args ds gs before hval0 hW _ _
  have hval : ∀ (j : Nat) t v, Try.f6.params[j]? = some t → args[j]? = some v → Value.okWide Try.prog W .any base t v := hval0
  have hW' := hW
  obtain ⟨p, q, hA0, hV, hrest⟩ := hW
  have hA : DataW.TrodAll enc Try.prog W 0 (fun _ => true) true Try.f6.params.toList args.toList ds p := hA0
  clear hA0 hval0 hV hrest
  rw [Try.params6] at hA hval
  obtain ⟨v0, d0, rfl, rfl, h0⟩ := trodAll_one hA
  obtain ⟨a, len, cap, rfl, hlen, hB⟩ := draw.open_code Try.underlying22 Try.underlying5 (by kernel_rfl) (hval 0 22 v0 rfl rfl) h0
  refine (walk a len cap W hlen hB).mono fun e W' ⟨he, hb⟩ => ?_
  subst he
  exact ⟨_, rfl, lift.law_post laidOut (by kernel_rfl) (by kernel_rfl) (by kernel_rfl) Try.underlying4 (by rw [Try.params6]; exact isLaw) hW' hb⟩

theorem over : Rows.fnSharedOnesRow.holds Try.pinned (OpenSpec.ofChange Rows.fnSharedOnesSpec) :=
  OpenClaim.holds_of_wide 6 Try.f6 rfl rfl rfl rfl rfl rfl rfl ⟨rfl, rfl, rfl, rfl, rfl⟩ rfl rfl rfl rfl rfl (by kernel_rfl) Try.func6 (by kernel_rfl)
    (of_decide_eq_true (by kernel_rfl)) (by unfold Func.isWrapper; first | (rw [if_pos (by decide +kernel)]; kernel_rfl) | (rw [if_neg (by decide +kernel)]; exact ⟨rfl, rfl⟩))
    (fun os started H enc _ => lifted os started H enc)

theorem proved : Rows.FnSharedOnesSaid := over
#print axioms proved
end Go.Proofs.Ytjkghpfcjjnghaa.fnSharedOnes
