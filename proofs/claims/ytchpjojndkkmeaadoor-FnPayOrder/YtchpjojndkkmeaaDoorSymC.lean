/-
  Plain helpers of this seat's proofs: the merge of the stable sort, its great case. Conditions: none.
-/
import Derived.Test.YtchpjojndkkmeaaDoorSymB
namespace Go.Proofs.YtchpjojndkkmeaaDoor.srt
open Go.Shelf Go.RowKit Go.Lib Go.Sort
open mrg (El)

/-- The merge of two sorted sides of at most N elements together. -/
def Sym (blk off cap N : Nat) : Prop := ∀ (a m b : Nat) (d : Array El) (W : World), Base W blk off d → b - a ≤ N → a < m → m < b → b ≤ d.size → mrg.Srt a m (mrg.at' d) → mrg.Srt m b (mrg.at' d) → mrg.Crs a m b (mrg.at' d) →
  Calls Tryd.prog 76 #[.slice (some ⟨blk, off, none⟩) d.size cap, .int .i64 a, .int .i64 m, .int .i64 b, .func (.func 48) #[] #[]] W (Post W blk off d fun d' => mrg.Srt a b (mrg.at' d') ∧ mrg.Frm a b (mrg.at' d) (mrg.at' d'))
theorem Sym.at {blk off cap N : Nat} (S : Sym blk off cap N) {a m b c : Nat} {d dk : Array El} {os : Array Obj} {W : World} (B : Base W blk off d) (hs : dk.size = d.size) (hN : b - a ≤ N) (h1 : a < m) (h2 : m < b) (h3 : b ≤ d.size) (h4 : mrg.Srt a m (mrg.at' dk)) (h5 : mrg.Srt m b (mrg.at' dk)) (h6 : mrg.Crs a m b (mrg.at' dk)) :
    Calls Tryd.prog 76 #[.slice (some ⟨blk, off, none⟩) d.size cap, .int .i64 a, .int .i64 m, .int .i64 b, .func (.func 48) #[] #[]] (sortWorldK enc 2 W blk off c dk os) (Post W blk off d fun d' => mrg.Srt a b (mrg.at' d') ∧ mrg.Frm a b (mrg.at' dk) (mrg.at' d')) := by
  have h := S a m b dk (sortWorldK enc 2 W blk off c dk os) (B.on hs) hN h1 h2 (by omega) h4 h5 h6
  rw [hs] at h
  exact h.mono fun e w' k => Post.on B.blk hs k
theorem rotateAt (blk off cap a m b c : Nat) (d dk : Array El) (os : Array Obj) (W : World) (B : Base W blk off d) (hs : dk.size = d.size) (ham : a < m) (hmb : m < b) (hb : b ≤ d.size) (g : Value) :
    Calls Tryd.prog 79 #[.slice (some ⟨blk, off, none⟩) d.size cap, .int .i64 a, .int .i64 m, .int .i64 b, g] (sortWorldK enc 2 W blk off c dk os) (Post W blk off d fun d' => mrg.at' d' = mrg.rot (mrg.at' dk) a m b) := by
  have h := rotate blk off cap a m b dk (sortWorldK enc 2 W blk off c dk os) (B.on hs) ham hmb (by omega) g
  rw [hs] at h
  exact h.mono fun e w' k => Post.on B.blk hs k

set_option maxRecDepth 100000 in
set_option maxHeartbeats 40000000 in
theorem symMid1 (blk off cap a m b mid p s0 r0 : Nat) (d : Array El) (W : World) (B : Base W blk off d) (S : Sym blk off cap (b - a - 1)) (ham : a + 2 ≤ m) (hmb : m + 2 ≤ b) (hb : b ≤ d.size) (M : mrg.Mid (mrg.at' d) a m b mid p s0 r0) (hc : mid < m) (hs0 : s0 + b = mid + m) (hr0 : r0 = mid) :
    Calls Tryd.prog 76 #[.slice (some ⟨blk, off, none⟩) d.size cap, .int .i64 a, .int .i64 m, .int .i64 b, .func (.func 48) #[] #[]] W (Post W blk off d fun d' => mrg.Srt a b (mrg.at' d') ∧ mrg.Frm a b (mrg.at' d) (mrg.at' d')) := by
  have BB := Lib.hid B
  have IH := Lib.hid S
  have ST := Lib.hid (sortWorldK_start enc 2 W blk off d B.hold)
  have hsz := B.small
  have MM := Lib.hid M
  have em := M.emid
  have ep := M.ep
  have ml := M.le
  have LE := Lib.hid ml.2.2.2
  have l1 := ml.1
  have l2 := ml.2.1
  have l3 := ml.2.2.1
  clear B S M ml
  obtain ⟨N, hN⟩ : ∃ N, N = mid + m := ⟨_, rfl⟩
  have e1 : ((m : Int) - (a : Int) == 1) = false := by simp; omega
  have e2 : ((b : Int) - (m : Int) == 1) = false := by simp; omega
  have e3 : ((a : Int) + (b : Int)) / 2 = (mid : Int) := by omega
  have e4 : (mid : Int) + (m : Int) = (N : Int) := by omega
  have e5 : decide (mid < m) = true := by simp; omega
  have e6 : (N : Int) - (b : Int) = (s0 : Int) := by omega
  have e7 : (N : Int) - 1 = (p : Int) := by omega
  have k1 : a < mid := by omega
  have k2 : mid < b := by omega
  have k3 : N ≤ 2 * b := by omega
  have k4 : p + 1 ≤ 2 * b := by omega
  have HE := Lib.hid (And.intro em (And.intro ep (And.intro hN (And.intro hs0 hr0))))
  clear em ep hN hs0 hr0
  go_enter Tryd.func76, Tryd.ntmps76
  go_wp2
  clear e1 e2 e3 e4 e5 e7
  go_loopw [20, 21] (fun vs vr wr => ∃ (s r n : Nat) (os : Array Obj), vs = .int .i64 s ∧ vr = .int .i64 r ∧ s0 ≤ s ∧ s ≤ r ∧ r ≤ r0 ∧ wr = sortWorldK enc 2 W blk off n d os ∧ Hid (mrg.Md (mrg.at' d) p s0 r0 s r)) (fun vs vr _ => (intOf vr).toNat - (intOf vs).toNat)
  case atStart => exact ⟨s0, r0, 0, #[], by first | rfl | (rw [HE.out.2.2.2.1]), by rw [HE.out.2.2.2.2], Nat.le_refl _, l2, Nat.le_refl _, ST.out.symm, mrg.Md.start _ _ _ _ l2⟩
  case round =>
    obtain ⟨s, r, n, os, rfl, rfl, h1, h2, h3, rfl, U⟩ := hrel
    by_cases hlt : s < r
    · have u1 : decide (s < r) = true := by simp; omega
      obtain ⟨c, hc'⟩ : ∃ c, c = (s + r) / 2 := ⟨_, rfl⟩
      have e1 : ((s : Int) + (r : Int)) / 2 = (c : Int) := by omega
      have c1 : s ≤ c := by omega
      have c2 : c < r := by omega
      have lec := LE.out c (by omega) (by omega)
      obtain ⟨lc1, lc2, lc3⟩ := lec
      obtain ⟨pc, hpc⟩ : ∃ pc, pc = p - c := ⟨_, rfl⟩
      have e8 : (p : Int) - (c : Int) = (pc : Int) := by omega
      have UL := Lib.hid (fun t => U.out.left MM.out hlt t)
      have UR := Lib.hid (fun t => U.out.right MM.out hlt t)
      rw [← hc', ← hpc] at UL UR
      rw [← hpc] at lc1 lc2
      have IX := Lib.hid (MM.out.cross c pc (by omega) (by omega) lc1 lc2)
      have SH := seen (i := c) (n := n) (os := os) BB.out rfl (by omega)
      have SA := seen (i := pc) (n := n) (os := os) BB.out rfl (by omega)
      have CLS := Lib.hid (fun n' os' => sortWorldK_grown_c enc 2 W blk off n n' d os os')
      obtain ⟨x, hx⟩ : ∃ x, x = mrg.at' d c := ⟨_, rfl⟩
      obtain ⟨y, hy⟩ : ∃ y, y = mrg.at' d pc := ⟨_, rfl⟩
      rw [← hx] at SH UL UR IX
      rw [← hy] at SA UL UR IX
      have z1 : (c : Int) < (d.size : Int) := by omega
      have z2 : (pc : Int) < (d.size : Int) := by omega
      have hwp : IntKind.i64.wrap (pc : Int) = (pc : Int) := by rw [IntKind.wrap_i64]; omega
      clear hc' hpc hx hy
      generalize hwq : sortWorldK enc 2 W blk off n d os = wq at SH SA CLS ⊢
      have HWQ := Lib.hid hwq
      clear hwq
      have sh0 := fun n' os' => (SH n' os').1
      have sh1 := fun n' os' => (SH n' os').2
      have sa0 := fun n' os' => (SA n' os').1
      have sa1 := fun n' os' => (SA n' os').2
      clear SH SA
      have hcg := fun W' => closure y x W'
      obtain ⟨v, hv⟩ : ∃ v, v = mrg.cf y x := ⟨_, rfl⟩
      rw [← hv] at hcg
      have HR := Lib.hid hv
      clear hv
      by_cases hlv : v < 0
      · have t1 : decide (v < 0) = true := by simp; omega
        have mixed := Tryd.insIv.mixed
        have eg := enters
        go_wp2_with fail
        go_quiet_grown (first | (go_at_fn 48; refine Calls.grown_of (hcg _)))
        go_wp2
        go_roundw
        case rel => exact ⟨s, c, n + nq, os ++ osq, rfl, by go_num, h1, c1, by omega, CLS.out nq osq, UR.out ((mrg.cf_neg IX.out).1 (by rw [← HR.out]; exact hlv))⟩
        case measure => simp [intOf]; omega
      · have t1 : decide (v < 0) = false := by simp; omega
        have mixed := Tryd.insIv.mixed
        have eg := enters
        go_wp2_with fail
        go_quiet_grown (first | (go_at_fn 48; refine Calls.grown_of (hcg _)))
        go_wp2
        go_roundw
        case rel => exact ⟨c + 1, r, n + nq, os ++ osq, by go_num, rfl, by omega, by omega, h3, CLS.out nq osq, UL.out (mrg.cf_not IX.out (by rw [← HR.out]; omega))⟩
        case measure => simp [intOf]; omega
    · have u1 : decide (s < r) = false := by simp; omega
      obtain rfl : s = r := by omega
      obtain ⟨em, ep, hN, hs0, hr0⟩ := HE.out
      obtain ⟨e, he⟩ : ∃ e, e + s = N := ⟨N - s, by omega⟩
      have e9 : (N : Int) - (s : Int) = (e : Int) := by omega
      have CUT := Lib.hid (mrg.cut_of U.out MM.out ham hmb e (by omega))
      have cs := CUT.out.as
      have cm := CUT.out.sm
      have ce := CUT.out.me
      have cb := CUT.out.eb
      have q1 : s ≤ m := by omega
      have q2 : m ≤ e := by omega
      have q3 : s < m ↔ mid < e := by omega
      have q4 : m < e ↔ s < mid := by omega
      clear U MM LE HE em ep hN hs0 hr0 he h1 h2 h3 hlt
      by_cases hX : s < m
      · by_cases hY : m < e
        · by_cases hP : a < s
          · by_cases hQ : e < b
            · have b1 : decide (s < m) = true := by simp; omega
              have b2 : decide (m < e) = true := by simp; omega
              have b3 : decide (a < s) = true := by simp; omega
              have b4 : decide (s < mid) = true := by simp; omega
              have b5 : decide (mid < e) = true := by simp; omega
              have b6 : decide (e < b) = true := by simp; omega
              have KR := Lib.hid (rotateAt blk off cap s m e n d d os W BB.out rfl (by omega) (by omega) (by omega) (.func (.func 48) #[] #[]))
              go_wp2_with fail
              refine KR.out.mono ?_
              rintro e1 w1 ⟨rfl, n1, d1, os1, rfl, hs1, hp1⟩
              have P1 := Lib.hid (show mrg.at' d1 = mrg.rot (mrg.at' d) s m e from hp1)
              clear hp1 KR
              have CC : Hid (mrg.Cut (mrg.at' d) (mrg.at' d1) a mid b s e) := Lib.hid (by have h := CUT.out; rw [← P1.out] at h; exact h)
              have KL := Lib.hid (IH.out.at (c := n1) (os := os1) (a := a) (m := s) (b := mid) BB.out hs1 (by omega) (by omega) (by omega) (by omega) CC.out.l1 CC.out.l2 CC.out.c1)
              go_wp2_with fail
              refine KL.out.mono ?_
              rintro e2 w2 ⟨rfl, n2, d2, os2, rfl, hs2, hp2⟩
              have P2 := Lib.hid hp2
              clear hp2 KL
              have RP := Lib.hid (CC.out.right_pre (P2.out.2))
              have KQ := Lib.hid (IH.out.at (c := n2) (os := os2) (a := mid) (m := e) (b := b) BB.out hs2 (by omega) (by omega) (by omega) (by omega) RP.out.1 RP.out.2.1 RP.out.2.2)
              go_wp2_with fail
              refine KQ.out.mono ?_
              rintro e3 w3 ⟨rfl, n3, d3, os3, rfl, hs3, hp3⟩
              have P3 := Lib.hid hp3
              clear hp3 KQ
              go_wp2
              go_end0
              exact ⟨rfl, n3, d3, os3, rfl, hs3, CC.out.done (P2.out.2) (P2.out.1) (P3.out.2) (P3.out.1)⟩
            · have b1 : decide (s < m) = true := by simp; omega
              have b2 : decide (m < e) = true := by simp; omega
              have b3 : decide (a < s) = true := by simp; omega
              have b4 : decide (s < mid) = true := by simp; omega
              have b5 : decide (mid < e) = true := by simp; omega
              have b6 : decide (e < b) = false := by simp; omega
              have KR := Lib.hid (rotateAt blk off cap s m e n d d os W BB.out rfl (by omega) (by omega) (by omega) (.func (.func 48) #[] #[]))
              go_wp2_with fail
              refine KR.out.mono ?_
              rintro e1 w1 ⟨rfl, n1, d1, os1, rfl, hs1, hp1⟩
              have P1 := Lib.hid (show mrg.at' d1 = mrg.rot (mrg.at' d) s m e from hp1)
              clear hp1 KR
              have CC : Hid (mrg.Cut (mrg.at' d) (mrg.at' d1) a mid b s e) := Lib.hid (by have h := CUT.out; rw [← P1.out] at h; exact h)
              have KL := Lib.hid (IH.out.at (c := n1) (os := os1) (a := a) (m := s) (b := mid) BB.out hs1 (by omega) (by omega) (by omega) (by omega) CC.out.l1 CC.out.l2 CC.out.c1)
              go_wp2_with fail
              refine KL.out.mono ?_
              rintro e2 w2 ⟨rfl, n2, d2, os2, rfl, hs2, hp2⟩
              have P2 := Lib.hid hp2
              clear hp2 KL
              go_wp2
              go_end0
              exact ⟨rfl, n2, d2, os2, rfl, hs2, CC.out.done (P2.out.2) (P2.out.1) (mrg.Frm.refl _ _ _) (CC.out.right_id (P2.out.2) (by omega))⟩
          · by_cases hQ : e < b
            · have b1 : decide (s < m) = true := by simp; omega
              have b2 : decide (m < e) = true := by simp; omega
              have b3 : decide (a < s) = false := by simp; omega
              have b4 : decide (s < mid) = true := by simp; omega
              have b5 : decide (mid < e) = true := by simp; omega
              have b6 : decide (e < b) = true := by simp; omega
              have KR := Lib.hid (rotateAt blk off cap s m e n d d os W BB.out rfl (by omega) (by omega) (by omega) (.func (.func 48) #[] #[]))
              go_wp2_with fail
              refine KR.out.mono ?_
              rintro e1 w1 ⟨rfl, n1, d1, os1, rfl, hs1, hp1⟩
              have P1 := Lib.hid (show mrg.at' d1 = mrg.rot (mrg.at' d) s m e from hp1)
              clear hp1 KR
              have CC : Hid (mrg.Cut (mrg.at' d) (mrg.at' d1) a mid b s e) := Lib.hid (by have h := CUT.out; rw [← P1.out] at h; exact h)
              have RP := Lib.hid (CC.out.right_pre (mrg.Frm.refl _ _ _))
              have KQ := Lib.hid (IH.out.at (c := n1) (os := os1) (a := mid) (m := e) (b := b) BB.out hs1 (by omega) (by omega) (by omega) (by omega) RP.out.1 RP.out.2.1 RP.out.2.2)
              go_wp2_with fail
              refine KQ.out.mono ?_
              rintro e3 w3 ⟨rfl, n3, d3, os3, rfl, hs3, hp3⟩
              have P3 := Lib.hid hp3
              clear hp3 KQ
              go_wp2
              go_end0
              exact ⟨rfl, n3, d3, os3, rfl, hs3, CC.out.done (mrg.Frm.refl _ _ _) (CC.out.left_id (by omega)) (P3.out.2) (P3.out.1)⟩
            · have b1 : decide (s < m) = true := by simp; omega
              have b2 : decide (m < e) = true := by simp; omega
              have b3 : decide (a < s) = false := by simp; omega
              have b4 : decide (s < mid) = true := by simp; omega
              have b5 : decide (mid < e) = true := by simp; omega
              have b6 : decide (e < b) = false := by simp; omega
              have KR := Lib.hid (rotateAt blk off cap s m e n d d os W BB.out rfl (by omega) (by omega) (by omega) (.func (.func 48) #[] #[]))
              go_wp2_with fail
              refine KR.out.mono ?_
              rintro e1 w1 ⟨rfl, n1, d1, os1, rfl, hs1, hp1⟩
              have P1 := Lib.hid (show mrg.at' d1 = mrg.rot (mrg.at' d) s m e from hp1)
              clear hp1 KR
              have CC : Hid (mrg.Cut (mrg.at' d) (mrg.at' d1) a mid b s e) := Lib.hid (by have h := CUT.out; rw [← P1.out] at h; exact h)
              go_wp2
              go_end0
              exact ⟨rfl, n1, d1, os1, rfl, hs1, CC.out.done (mrg.Frm.refl _ _ _) (CC.out.left_id (by omega)) (mrg.Frm.refl _ _ _) (CC.out.right_id (mrg.Frm.refl _ _ _) (by omega))⟩
        · by_cases hP : a < s
          · by_cases hQ : e < b
            · have b1 : decide (s < m) = true := by simp; omega
              have b2 : decide (m < e) = false := by simp; omega
              have b3 : decide (a < s) = true := by simp; omega
              have b4 : decide (s < mid) = false := by simp; omega
              have b5 : decide (mid < e) = true := by simp; omega
              have b6 : decide (e < b) = true := by simp; omega
              have P1 := Lib.hid (mrg.rot_none (mrg.at' d) s m e (by omega) (by omega) (by omega)).symm
              have CC : Hid (mrg.Cut (mrg.at' d) (mrg.at' d) a mid b s e) := Lib.hid (by have h := CUT.out; rw [← P1.out] at h; exact h)
              have RP := Lib.hid (CC.out.right_pre (mrg.Frm.refl _ _ _))
              have KQ := Lib.hid (IH.out.at (c := n) (os := os) (a := mid) (m := e) (b := b) BB.out rfl (by omega) (by omega) (by omega) (by omega) RP.out.1 RP.out.2.1 RP.out.2.2)
              go_wp2_with fail
              refine KQ.out.mono ?_
              rintro e3 w3 ⟨rfl, n3, d3, os3, rfl, hs3, hp3⟩
              have P3 := Lib.hid hp3
              clear hp3 KQ
              go_wp2
              go_end0
              exact ⟨rfl, n3, d3, os3, rfl, hs3, CC.out.done (mrg.Frm.refl _ _ _) (CC.out.left_id (by omega)) (P3.out.2) (P3.out.1)⟩
            · have b1 : decide (s < m) = true := by simp; omega
              have b2 : decide (m < e) = false := by simp; omega
              have b3 : decide (a < s) = true := by simp; omega
              have b4 : decide (s < mid) = false := by simp; omega
              have b5 : decide (mid < e) = true := by simp; omega
              have b6 : decide (e < b) = false := by simp; omega
              have P1 := Lib.hid (mrg.rot_none (mrg.at' d) s m e (by omega) (by omega) (by omega)).symm
              have CC : Hid (mrg.Cut (mrg.at' d) (mrg.at' d) a mid b s e) := Lib.hid (by have h := CUT.out; rw [← P1.out] at h; exact h)
              go_wp2
              go_end0
              exact ⟨rfl, n, d, os, rfl, rfl, CC.out.done (mrg.Frm.refl _ _ _) (CC.out.left_id (by omega)) (mrg.Frm.refl _ _ _) (CC.out.right_id (mrg.Frm.refl _ _ _) (by omega))⟩
          · by_cases hQ : e < b
            · have b1 : decide (s < m) = true := by simp; omega
              have b2 : decide (m < e) = false := by simp; omega
              have b3 : decide (a < s) = false := by simp; omega
              have b4 : decide (s < mid) = false := by simp; omega
              have b5 : decide (mid < e) = true := by simp; omega
              have b6 : decide (e < b) = true := by simp; omega
              have P1 := Lib.hid (mrg.rot_none (mrg.at' d) s m e (by omega) (by omega) (by omega)).symm
              have CC : Hid (mrg.Cut (mrg.at' d) (mrg.at' d) a mid b s e) := Lib.hid (by have h := CUT.out; rw [← P1.out] at h; exact h)
              have RP := Lib.hid (CC.out.right_pre (mrg.Frm.refl _ _ _))
              have KQ := Lib.hid (IH.out.at (c := n) (os := os) (a := mid) (m := e) (b := b) BB.out rfl (by omega) (by omega) (by omega) (by omega) RP.out.1 RP.out.2.1 RP.out.2.2)
              go_wp2_with fail
              refine KQ.out.mono ?_
              rintro e3 w3 ⟨rfl, n3, d3, os3, rfl, hs3, hp3⟩
              have P3 := Lib.hid hp3
              clear hp3 KQ
              go_wp2
              go_end0
              exact ⟨rfl, n3, d3, os3, rfl, hs3, CC.out.done (mrg.Frm.refl _ _ _) (CC.out.left_id (by omega)) (P3.out.2) (P3.out.1)⟩
            · have b1 : decide (s < m) = true := by simp; omega
              have b2 : decide (m < e) = false := by simp; omega
              have b3 : decide (a < s) = false := by simp; omega
              have b4 : decide (s < mid) = false := by simp; omega
              have b5 : decide (mid < e) = true := by simp; omega
              have b6 : decide (e < b) = false := by simp; omega
              have P1 := Lib.hid (mrg.rot_none (mrg.at' d) s m e (by omega) (by omega) (by omega)).symm
              have CC : Hid (mrg.Cut (mrg.at' d) (mrg.at' d) a mid b s e) := Lib.hid (by have h := CUT.out; rw [← P1.out] at h; exact h)
              go_wp2
              go_end0
              exact ⟨rfl, n, d, os, rfl, rfl, CC.out.done (mrg.Frm.refl _ _ _) (CC.out.left_id (by omega)) (mrg.Frm.refl _ _ _) (CC.out.right_id (mrg.Frm.refl _ _ _) (by omega))⟩
      · by_cases hY : m < e
        · by_cases hP : a < s
          · by_cases hQ : e < b
            · have b1 : decide (s < m) = false := by simp; omega
              have b2 : decide (m < e) = true := by simp; omega
              have b3 : decide (a < s) = true := by simp; omega
              have b4 : decide (s < mid) = true := by simp; omega
              have b5 : decide (mid < e) = false := by simp; omega
              have b6 : decide (e < b) = true := by simp; omega
              have P1 := Lib.hid (mrg.rot_none (mrg.at' d) s m e (by omega) (by omega) (by omega)).symm
              have CC : Hid (mrg.Cut (mrg.at' d) (mrg.at' d) a mid b s e) := Lib.hid (by have h := CUT.out; rw [← P1.out] at h; exact h)
              have KL := Lib.hid (IH.out.at (c := n) (os := os) (a := a) (m := s) (b := mid) BB.out rfl (by omega) (by omega) (by omega) (by omega) CC.out.l1 CC.out.l2 CC.out.c1)
              go_wp2_with fail
              refine KL.out.mono ?_
              rintro e2 w2 ⟨rfl, n2, d2, os2, rfl, hs2, hp2⟩
              have P2 := Lib.hid hp2
              clear hp2 KL
              go_wp2
              go_end0
              exact ⟨rfl, n2, d2, os2, rfl, hs2, CC.out.done (P2.out.2) (P2.out.1) (mrg.Frm.refl _ _ _) (CC.out.right_id (P2.out.2) (by omega))⟩
            · have b1 : decide (s < m) = false := by simp; omega
              have b2 : decide (m < e) = true := by simp; omega
              have b3 : decide (a < s) = true := by simp; omega
              have b4 : decide (s < mid) = true := by simp; omega
              have b5 : decide (mid < e) = false := by simp; omega
              have b6 : decide (e < b) = false := by simp; omega
              have P1 := Lib.hid (mrg.rot_none (mrg.at' d) s m e (by omega) (by omega) (by omega)).symm
              have CC : Hid (mrg.Cut (mrg.at' d) (mrg.at' d) a mid b s e) := Lib.hid (by have h := CUT.out; rw [← P1.out] at h; exact h)
              have KL := Lib.hid (IH.out.at (c := n) (os := os) (a := a) (m := s) (b := mid) BB.out rfl (by omega) (by omega) (by omega) (by omega) CC.out.l1 CC.out.l2 CC.out.c1)
              go_wp2_with fail
              refine KL.out.mono ?_
              rintro e2 w2 ⟨rfl, n2, d2, os2, rfl, hs2, hp2⟩
              have P2 := Lib.hid hp2
              clear hp2 KL
              go_wp2
              go_end0
              exact ⟨rfl, n2, d2, os2, rfl, hs2, CC.out.done (P2.out.2) (P2.out.1) (mrg.Frm.refl _ _ _) (CC.out.right_id (P2.out.2) (by omega))⟩
          · by_cases hQ : e < b
            · have b1 : decide (s < m) = false := by simp; omega
              have b2 : decide (m < e) = true := by simp; omega
              have b3 : decide (a < s) = false := by simp; omega
              have b4 : decide (s < mid) = true := by simp; omega
              have b5 : decide (mid < e) = false := by simp; omega
              have b6 : decide (e < b) = true := by simp; omega
              have P1 := Lib.hid (mrg.rot_none (mrg.at' d) s m e (by omega) (by omega) (by omega)).symm
              have CC : Hid (mrg.Cut (mrg.at' d) (mrg.at' d) a mid b s e) := Lib.hid (by have h := CUT.out; rw [← P1.out] at h; exact h)
              go_wp2
              go_end0
              exact ⟨rfl, n, d, os, rfl, rfl, CC.out.done (mrg.Frm.refl _ _ _) (CC.out.left_id (by omega)) (mrg.Frm.refl _ _ _) (CC.out.right_id (mrg.Frm.refl _ _ _) (by omega))⟩
            · have b1 : decide (s < m) = false := by simp; omega
              have b2 : decide (m < e) = true := by simp; omega
              have b3 : decide (a < s) = false := by simp; omega
              have b4 : decide (s < mid) = true := by simp; omega
              have b5 : decide (mid < e) = false := by simp; omega
              have b6 : decide (e < b) = false := by simp; omega
              have P1 := Lib.hid (mrg.rot_none (mrg.at' d) s m e (by omega) (by omega) (by omega)).symm
              have CC : Hid (mrg.Cut (mrg.at' d) (mrg.at' d) a mid b s e) := Lib.hid (by have h := CUT.out; rw [← P1.out] at h; exact h)
              go_wp2
              go_end0
              exact ⟨rfl, n, d, os, rfl, rfl, CC.out.done (mrg.Frm.refl _ _ _) (CC.out.left_id (by omega)) (mrg.Frm.refl _ _ _) (CC.out.right_id (mrg.Frm.refl _ _ _) (by omega))⟩
        · by_cases hP : a < s
          · by_cases hQ : e < b
            · have b1 : decide (s < m) = false := by simp; omega
              have b2 : decide (m < e) = false := by simp; omega
              have b3 : decide (a < s) = true := by simp; omega
              have b4 : decide (s < mid) = false := by simp; omega
              have b5 : decide (mid < e) = false := by simp; omega
              have b6 : decide (e < b) = true := by simp; omega
              have P1 := Lib.hid (mrg.rot_none (mrg.at' d) s m e (by omega) (by omega) (by omega)).symm
              have CC : Hid (mrg.Cut (mrg.at' d) (mrg.at' d) a mid b s e) := Lib.hid (by have h := CUT.out; rw [← P1.out] at h; exact h)
              go_wp2
              go_end0
              exact ⟨rfl, n, d, os, rfl, rfl, CC.out.done (mrg.Frm.refl _ _ _) (CC.out.left_id (by omega)) (mrg.Frm.refl _ _ _) (CC.out.right_id (mrg.Frm.refl _ _ _) (by omega))⟩
            · have b1 : decide (s < m) = false := by simp; omega
              have b2 : decide (m < e) = false := by simp; omega
              have b3 : decide (a < s) = true := by simp; omega
              have b4 : decide (s < mid) = false := by simp; omega
              have b5 : decide (mid < e) = false := by simp; omega
              have b6 : decide (e < b) = false := by simp; omega
              have P1 := Lib.hid (mrg.rot_none (mrg.at' d) s m e (by omega) (by omega) (by omega)).symm
              have CC : Hid (mrg.Cut (mrg.at' d) (mrg.at' d) a mid b s e) := Lib.hid (by have h := CUT.out; rw [← P1.out] at h; exact h)
              go_wp2
              go_end0
              exact ⟨rfl, n, d, os, rfl, rfl, CC.out.done (mrg.Frm.refl _ _ _) (CC.out.left_id (by omega)) (mrg.Frm.refl _ _ _) (CC.out.right_id (mrg.Frm.refl _ _ _) (by omega))⟩
          · by_cases hQ : e < b
            · have b1 : decide (s < m) = false := by simp; omega
              have b2 : decide (m < e) = false := by simp; omega
              have b3 : decide (a < s) = false := by simp; omega
              have b4 : decide (s < mid) = false := by simp; omega
              have b5 : decide (mid < e) = false := by simp; omega
              have b6 : decide (e < b) = true := by simp; omega
              have P1 := Lib.hid (mrg.rot_none (mrg.at' d) s m e (by omega) (by omega) (by omega)).symm
              have CC : Hid (mrg.Cut (mrg.at' d) (mrg.at' d) a mid b s e) := Lib.hid (by have h := CUT.out; rw [← P1.out] at h; exact h)
              go_wp2
              go_end0
              exact ⟨rfl, n, d, os, rfl, rfl, CC.out.done (mrg.Frm.refl _ _ _) (CC.out.left_id (by omega)) (mrg.Frm.refl _ _ _) (CC.out.right_id (mrg.Frm.refl _ _ _) (by omega))⟩
            · have b1 : decide (s < m) = false := by simp; omega
              have b2 : decide (m < e) = false := by simp; omega
              have b3 : decide (a < s) = false := by simp; omega
              have b4 : decide (s < mid) = false := by simp; omega
              have b5 : decide (mid < e) = false := by simp; omega
              have b6 : decide (e < b) = false := by simp; omega
              have P1 := Lib.hid (mrg.rot_none (mrg.at' d) s m e (by omega) (by omega) (by omega)).symm
              have CC : Hid (mrg.Cut (mrg.at' d) (mrg.at' d) a mid b s e) := Lib.hid (by have h := CUT.out; rw [← P1.out] at h; exact h)
              go_wp2
              go_end0
              exact ⟨rfl, n, d, os, rfl, rfl, CC.out.done (mrg.Frm.refl _ _ _) (CC.out.left_id (by omega)) (mrg.Frm.refl _ _ _) (CC.out.right_id (mrg.Frm.refl _ _ _) (by omega))⟩

end Go.Proofs.YtchpjojndkkmeaaDoor.srt
