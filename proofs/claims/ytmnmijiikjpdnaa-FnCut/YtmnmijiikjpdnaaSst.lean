/-
  Plain helpers of this seat's proofs: the contract of the model's Shared, the accepted arguments. Conditions: none.
-/
import Derived.Test.YtmnmijiikjpdnaaSsh
namespace Go.Proofs.Ytmnmijiikjpdnaa.shr
open Go.ChangeShapes Go.WideShapes Go.ChangeAt Go.RowKit
set_option maxRecDepth 100000 in
set_option maxHeartbeats 4000000 in
theorem spec_yes (w : World) (a : Option Addr) (cap g : Nat) (t : Int) (zs : List Int) (rw0 : rows.Row w a cap g zs) (hg : 0 < zs.length → g < w.heap.size) (hG : Good t zs) : Calls Try.prog 75 #[.int .i64 t, .slice a zs.length cap] w (GotS w t zs) := by
  have RW := Lib.hid rw0
  have pos := hG.pos
  obtain rfl := rw0.addr pos
  have hgl := hg pos
  have m1 := rw0.room
  clear rw0 hg
  have AL := Lib.hid hG.alc
  obtain ⟨g0, g1', g2', g3, g4⟩ := hG
  obtain ⟨T, rfl⟩ := Int.eq_ofNat_of_zero_le g0
  have WB := Lib.hid (fun i hi => wf_bd g3 i hi)
  have SBK := Lib.hid (fun k hk => sum_bd g3 g2' k hk)
  have SB := Lib.hid (sum_bd g3 g2' zs.length (Nat.le_refl _))
  have GG := Lib.hid (show Good (T : Int) zs from ⟨g0, g1', g2', g3, g4⟩)
  clear g3
  simp only [Int.toNat_natCast] at AL
  have SH : Hid (∀ l, (∃ S, alc.Dwn (rf T (sumW zs) (wf zs)) zs.length S (T - alc.sm (qf T (sumW zs) (wf zs)) zs.length) ∧ l = lst (alc.got (qf T (sumW zs) (wf zs)) S) zs.length) → Sh (T : Int) zs l) := Lib.hid fun l h => .inr ⟨GG.out, h⟩
  obtain ⟨n, hnz⟩ : ∃ n, n = zs.length := ⟨_, rfl⟩
  have HNZ := Lib.hid hnz
  obtain ⟨s, hs⟩ : ∃ s, s = sumW zs := ⟨_, rfl⟩
  have HS := Lib.hid (show alc.sm (wf zs) n = s by rw [hs, hnz]; rfl)
  rw [← hnz] at pos m1 g2' AL SH WB SBK ⊢
  rw [← hs] at AL g4 SH
  have sb : s ≤ 60000000 := by have := SB.out; unfold sumW at hs; omega
  clear hnz hs SB
  obtain ⟨q, hq⟩ : ∃ q, q = qf T s (wf zs) := ⟨_, rfl⟩
  obtain ⟨r, hr⟩ : ∃ r, r = rf T s (wf zs) := ⟨_, rfl⟩
  rw [← hq, ← hr] at AL SH
  have QR := Lib.hid (And.intro hq hr)
  clear hq hr
  obtain ⟨L, hL⟩ : ∃ L, L = T - alc.sm q n := ⟨_, rfl⟩
  rw [← hL] at AL SH
  clear hL
  have t2 : ((s : Int) == 0) = false := by simp; omega
  have fewL := AL.out.few pos
  obtain ⟨i2, hi2, hz20, hz21, hz22⟩ := info_parts rows.info2
  have INF := Lib.hid (And.intro hi2 (And.intro hz20 (And.intro hz21 hz22)))
  clear hi2 hz20 hz21 hz22
  go_enter Try.func75, Try.ntmps75
  go_wp2_with fail
  refine (md.inT (T : Int) _ _ w (by omega) (by omega)).mono ?_
  rintro e w' ⟨rfl, rfl⟩
  go_wp2_with fail
  refine (md.inT (n : Int) _ _ w (by omega) (by omega)).mono ?_
  rintro e w' ⟨rfl, rfl⟩
  go_wp2
  go_loop [5, 6] (fun vs vi => ∃ k : Nat, k ≤ n ∧ vi = .int .i64 k ∧ vs = .int .i64 (alc.sm (wf zs) k : Nat)) (fun _ vi => n - (intOf vi).toNat)
  case atStart => exact ⟨0, by omega, rfl, rfl⟩
  case round =>
    obtain ⟨k, hk, rfl, rfl⟩ := hrel
    by_cases hlt : k < n
    · have x1 := RW.out.cells k (by rw [← HNZ.out]; exact hlt)
      obtain ⟨wb, we⟩ := WB.out k hlt
      rw [we] at x1
      have bk := SBK.out k hk
      obtain ⟨wk, hwk⟩ : ∃ wk, wk = wf zs k := ⟨_, rfl⟩
      obtain ⟨m, hm⟩ : ∃ m, m = alc.sm (wf zs) k := ⟨_, rfl⟩
      rw [← hwk] at x1 wb
      rw [← hm] at bk ⊢
      have HH := Lib.hid (And.intro hwk hm)
      have u1 : decide (k < n) = true := by simp; omega
      have z1 : (k : Int) < (n : Int) := by omega
      clear hwk hm we
      go_wp2_with fail
      refine (md.inT (wk : Int) _ _ w (by omega) (by omega)).mono ?_
      rintro e w' ⟨rfl, rfl⟩
      go_wp2
      go_round
      case rel =>
        refine ⟨k + 1, by omega, by go_num, ?_⟩
        rw [alc.sm_succ, ← HH.out.1, ← HH.out.2]
        congr 1
      case measure => simp [intOf]; omega
    · have u1 : decide (k < n) = false := by simp; omega
      obtain rfl : k = n := by omega
      rw [HS.out]
      have ST := Lib.hid (show Gr w ((w.alloc (.cells #[] 2)).alloc (.cells #[] 2)) (.slice (some ⟨w.heap.size, 0, none⟩) 0 0) (.slice (some ⟨w.heap.size + 1, 0, none⟩) 0 0) 0 0 q r from by
        have b1 := (Below.refl w.heap.size w).alloc (Nat.le_refl _) (.cells #[] 2)
        have s1 : (w.alloc (.cells #[] 2)).heap.size = w.heap.size + 1 := by simp
        have s2 : ((w.alloc (.cells #[] 2)).alloc (.cells #[] 2)).heap.size = w.heap.size + 2 := by simp
        have h2 := heap_alloc_new (w.alloc (.cells #[] 2)) (.cells #[] 2)
        rw [s1] at h2
        refine ⟨b1.alloc (by omega) _, ?_, ?_, ⟨w.heap.size, rfl⟩, ⟨w.heap.size + 1, rfl⟩, by simp [Value.ownBlock]⟩
        · have h1 : (w.alloc (.cells #[] 2)).ownsRow w.heap.size 2 1 (.slice (some ⟨w.heap.size, 0, none⟩) 0 0) 0 [] := ⟨rfl, .inr ⟨w.heap.size, 0, #[], rfl, Nat.le_refl _, heap_alloc_new w _, Nat.le_refl _, Nat.zero_le _, rfl, rfl⟩⟩
          exact h1.alloc _
        · exact ⟨rfl, .inr ⟨w.heap.size + 1, 0, #[], rfl, by omega, h2, Nat.le_refl _, Nat.zero_le _, rfl, rfl⟩⟩)
      go_wp2
      go_loopw [7, 8, 9, 10] (fun vo vr vl vi wr => ∃ j : Nat, j ≤ k ∧ vi = .int .i64 j ∧ vl = .int .i64 ((T : Int) - (alc.sm q j : Nat)) ∧ Hid (Gr w wr vo vr j j q r)) (fun _ _ _ vi _ => k - (intOf vi).toNat)
      case atStart => exact ⟨0, by omega, rfl, by simp [alc.sm], ST⟩
      case round =>
        obtain ⟨j, hj, rfl, rfl, H⟩ := hrel
        by_cases hlt : j < k
        · have x1 := (H.out.below.cell (p := ⟨g, j, none⟩) hgl).trans (RW.out.cells j (by rw [← HNZ.out]; exact hlt))
          obtain ⟨wb, we⟩ := WB.out j hlt
          rw [we] at x1
          obtain ⟨wk, hwk⟩ : ∃ wk, wk = wf zs j := ⟨_, rfl⟩
          rw [← hwk] at x1 wb
          have ws : wk ≤ s := by have := alc.sm_one (f := wf zs) hlt; have := HS.out; omega
          have KW := Lib.hid (wideV T wk s wr (by omega) wb ws (by omega) sb)
          have eQ : q j = T * wk / s := by rw [QR.out.1, hwk]; rfl
          have eR : r j = T * wk % s := by rw [QR.out.2, hwk]; rfl
          rw [← eQ, ← eR] at KW
          have smk := alc.sm_pre (f := q) (n := k) (k := j + 1) (by omega)
          have smn := AL.out.lef
          rw [alc.sm_succ] at smk
          obtain ⟨Q, hQ⟩ : ∃ Q, Q = q j := ⟨_, rfl⟩
          obtain ⟨R, hR⟩ : ∃ R, R = r j := ⟨_, rfl⟩
          obtain ⟨m, hm⟩ : ∃ m, m = alc.sm q j := ⟨_, rfl⟩
          rw [← hQ, ← hm] at smk
          rw [← hQ, ← hR] at KW
          rw [← hm]
          have m2 : m + Q ≤ T := by omega
          have HH := Lib.hid (And.intro hQ (And.intro hR hm))
          have u1 : decide (j < k) = true := by simp; omega
          have z1 : (j : Int) < (k : Int) := by omega
          have hsz := H.out.below.size
          clear hwk hQ hR hm eQ eR smk smn we
          go_wp2_with fail
          refine KW.out.mono ?_
          rintro e w' ⟨rfl, rfl⟩
          obtain ⟨hi2, hz20, hz21, hz22⟩ := INF.out
          go_wp2_with (at_builtin; refine wpList_append_own_at _ rfl _ _ 85 rfl w.heap.size 2 i2 (.int .i64 0) 1 8 Try.underlying85 hi2 hz20 hz21 hz22 rfl (by decide) _ _ _ rfl (H.out.o.alloc _) ⟨wr.heap.size, 0, none⟩ 1 1 [.int .i64 (Q : Int)] rfl rfl ?c1 ?c2 ?c3 ?c4 ?c5 ?_)
          case c1 =>
            intro j u hj
            match j, hj with
            | 0, hj => simp at hj; subst hj; simp [Addr.add]
          case c2 => intro u hu; simp at hu; subst hu; rfl
          case c3 => unfold maxLen; omega
          case c4 => omega
          case c5 => simp; omega
          intro v1 w1 hown1 hgrow1 _ hb1
          have H1 := Lib.hid (H.out.left _ (by rw [← HH.out.1]; exact hown1) hgrow1 (by simpa using hb1))
          have hs1 := H1.out.below.size
          clear hown1 hgrow1 hb1 H KW
          go_wp2_with (at_builtin; refine wpList_append_own_at _ rfl _ _ 85 rfl w.heap.size 2 i2 (.int .i64 0) 1 8 Try.underlying85 hi2 hz20 hz21 hz22 rfl (by decide) _ _ _ rfl (H1.out.o'.alloc _) ⟨w1.heap.size, 0, none⟩ 1 1 [.int .i64 (R : Int)] rfl rfl ?d1 ?d2 ?d3 ?d4 ?d5 ?_)
          case d1 =>
            intro j u hj
            match j, hj with
            | 0, hj => simp at hj; subst hj; simp [Addr.add]
          case d2 => intro u hu; simp at hu; subst hu; rfl
          case d3 => unfold maxLen; omega
          case d4 => omega
          case d5 => simp; omega
          intro v2 w2 hown2 hgrow2 _ hb2
          have H2 := Lib.hid (H1.out.right _ (by rw [← HH.out.2.1]; exact hown2) hgrow2 (by simpa using hb2))
          clear hown2 hgrow2 hb2 H1 hi2 hz20 hz21 hz22
          go_wp2
          go_roundw
          case rel =>
            refine ⟨j + 1, by omega, by go_num, ?_, H2⟩
            rw [alc.sm_succ, ← HH.out.1, ← HH.out.2.2]
            congr 1
            omega
          case measure => simp [intOf]; omega
        · have u1 : decide (j < k) = false := by simp; omega
          obtain rfl : j = k := by omega
          have eL : (T : Int) - (alc.sm q j : Nat) = (L : Int) := by have := AL.out.lef; omega
          rw [eL]
          clear eL INF
          obtain ⟨go, gr, capo, capr, rfl, rfl, hco, hcr, lo, lr, ne1, H3⟩ := H.out.start
          have ne2 : gr ≠ go := Ne.symm ne1
          have ST3 := Lib.hid H3
          have qb : Hid (∀ i, i < j → q i ≤ T) := Lib.hid fun i hi => by
            have := alc.sm_one (f := q) hi; have := AL.out.lef; omega
          clear H3 H
          go_wp2
          go_loopw [9] (fun vl wr => ∃ (m t : Nat) (S : Nat → Bool), vl = .int .i64 m ∧ m + t = L ∧ Hid (L3 w wr go gr j t q r S)) (fun vl _ => (intOf vl).toNat)
          case atStart => exact ⟨L, 0, _, rfl, by omega, ST3⟩
          case round =>
            obtain ⟨m, t, S, rfl, hmt, H⟩ := hrel
            by_cases hm : 0 < m
            · have u1 : decide (0 < m) = true := by simp; omega
              have MT := Lib.hid hmt
              clear hmt
              go_wp2
              go_loopw [14, 15] (fun vb vi wr => ∃ b i : Nat, i ≤ j ∧ vb = .int .i64 b ∧ vi = .int .i64 i ∧ b < i ∧ Hid (L3 w wr go gr j t q r S) ∧ Hid (Best (vl r S) i b)) (fun _ vi _ => j - (intOf vi).toNat)
              case atStart => exact ⟨0, 1, by omega, rfl, rfl, by omega, H, Best.start _⟩
              case round =>
                obtain ⟨b, i, hij, rfl, rfl, hbi, H, BS⟩ := hrel
                by_cases hlt : i < j
                · obtain ⟨B, hB, eB⟩ := H.out.b
                  have c1 := hB.cell i hlt
                  have c2 := hB.cell b (by omega)
                  rw [eB i hlt] at c1
                  rw [eB b (by omega)] at c2
                  have UP := Lib.hid (fun h => BS.out.up h)
                  have NO := Lib.hid (fun h => BS.out.no h)
                  obtain ⟨x, hx⟩ : ∃ x, x = vl r S i := ⟨_, rfl⟩
                  obtain ⟨y, hy⟩ : ∃ y, y = vl r S b := ⟨_, rfl⟩
                  rw [← hx] at c1 UP NO
                  rw [← hy] at c2 UP NO
                  have u2 : decide (i < j) = true := by simp; omega
                  have z1 : (i : Int) < (j : Int) := by omega
                  have z2 : (b : Int) < (j : Int) := by omega
                  clear hB eB hx hy BS
                  by_cases hxy : y < x
                  · have u3 : decide (y < x) = true := by simp; omega
                    go_wp2
                    go_quiet (fail)
                    go_wp2
                    go_roundw
                    case rel => exact ⟨i, i + 1, by omega, rfl, by go_num, by omega, H.out.drewN _, UP.out hxy⟩
                    case measure => simp [intOf]; omega
                  · have u3 : decide (y < x) = false := by simp; omega
                    go_wp2
                    go_quiet (fail)
                    go_wp2
                    go_roundw
                    case rel => exact ⟨b, i + 1, by omega, rfl, by go_num, by omega, H.out.drewN _, NO.out (by omega)⟩
                    case measure => simp [intOf]; omega
                · have u2 : decide (i < j) = false := by simp; omega
                  obtain rfl : i = j := by omega
                  obtain ⟨A, hA, eA⟩ := H.out.a
                  obtain ⟨B, hB, eB⟩ := H.out.b
                  have fr := (BS.out.free H.out.dwn (by have := MT.out; omega)).1
                  have c1 := hA.cell b (by omega)
                  rw [eA b (by omega)] at c1
                  have c2 := hA.free b
                  have c3 := hB.cell b (by omega)
                  have c4 := hB.free b
                  have qq : alc.got q S b ≤ T := by unfold alc.got; rw [fr]; exact qb.out b (by omega)
                  have STP := Lib.hid (H.out.step BS.out (by have := MT.out; omega) lo lr ne1)
                  obtain ⟨Q, hQ⟩ : ∃ Q, Q = alc.got q S b := ⟨_, rfl⟩
                  rw [← hQ] at c1 qq STP
                  have z2 : (b : Int) < (i : Int) := by omega
                  clear hA hB eA eB hQ fr
                  obtain ⟨m, rfl⟩ : ∃ m', m = m' + 1 := ⟨m - 1, by omega⟩
                  have mb : m ≤ 60 := by have := MT.out; omega
                  go_wp2
                  go_roundw
                  case rel => exact ⟨m, t + 1, _, by go_num, by have := MT.out; omega, STP⟩
                  case measure => simp [intOf]
            · obtain rfl : m = 0 := by omega
              obtain rfl : t = L := by omega
              go_wp2
              go_ret
              obtain ⟨A, hA, eA⟩ := H.out.a
              refine ⟨_, capo, go, lst (alc.got q S) j, by rw [lst_len]; rfl, hA.row (lst_len _ _) hco (fun i hi => by rw [eA i hi, lst_get _ _ _ hi]), fun _ => ⟨lo, hA.lt⟩, H.out.below, SH.out _ ⟨S, H.out.dwn, rfl⟩⟩
end Go.Proofs.Ytmnmijiikjpdnaa.shr
