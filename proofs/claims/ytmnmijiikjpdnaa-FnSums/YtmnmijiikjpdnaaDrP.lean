/-
  Plain helpers of this seat's proofs: the contract of the function that draws a plan. Conditions: none.
-/
import Derived.Test.YtmnmijiikjpdnaaPmS
import Derived.Test.YtmnmijiikjpdnaaJTt
import Derived.Test.YtmnmijiikjpdnaaJDr
import Derived.Test.YtmnmijiikjpdnaaLtS
import Derived.Test.YtmnmijiikjpdnaaCtS
import Derived.Test.YtmnmijiikjpdnaaPyS
import Derived.Test.YtmnmijiikjpdnaaRw7
import Derived.Deep.RegionHeld3
namespace Go.Proofs.Ytmnmijiikjpdnaa.base
open Go.ChangeShapes Go.WideShapes Go.ChangeAt Go.RowKit
open seven (F7 zz Row At)
open pl (inR prOk pok)
open gen
open draw (Only Got GotB GotW Tab)
theorem dz_small {d n : Int} (h0 : 0 ≤ d) (h1 : d ≤ 2000) (n1 : 1 ≤ n) (n2 : n ≤ 12) : mf.Dz d n := by
  refine ⟨n1, by omega, fun i hi => ?_⟩
  rw [mf.mf_yes (by omega)]
  obtain ⟨o, e⟩ := mf.dt_is h0 (show d ≤ 100000 by omega)
  generalize (mf.dt d).1 = y at o e ⊢
  generalize (mf.dt d).2.1 = m at o e ⊢
  generalize (mf.dt d).2.2 = q at o e ⊢
  have iy := (cal.in_year o).1
  rw [e] at iy
  obtain ⟨o1, o2, o3, o4, o5, o6, o7⟩ := o
  have ny := cal.NY_mono 1970 y (by omega) o1
  rw [cal.NY_1970] at ny
  have hk : dayOf.ok (y + (m - 1 + ((i : Int) + 1)) / 12) ((m - 1 + ((i : Int) + 1)) % 12 + 1) (monthsOn.dd y m q ((i : Int) + 1)) = true := by
    unfold dayOf.ok
    simp only [decide_eq_true_eq]
    have b := cal.mlen_bd (y + (m - 1 + ((i : Int) + 1)) / 12) ((m - 1 + ((i : Int) + 1)) % 12 + 1)
    have c := mf.dd_bd y m q ((i : Int) + 1)
    have ny2 := cal.NY_mono (y + (m - 1 + ((i : Int) + 1)) / 12) 2244 (by omega) (by omega)
    rw [cal.NY_2244] at ny2
    have cb := cal.cum_bd (y + (m - 1 + ((i : Int) + 1)) / 12) ((m - 1 + ((i : Int) + 1)) % 12 + 1) (by omega) (by omega)
    unfold cal.dayN
    refine ⟨by omega, by omega, by omega, by omega, by omega, by omega, by omega⟩
  unfold monthsOn.res
  rw [if_pos hk]
  have hk' := hk
  unfold dayOf.ok at hk'
  simp only [decide_eq_true_eq] at hk'
  unfold dayOf.val
  rw [if_pos hk']
  have := cal.day_nonneg hk'
  omega
theorem ok_small {t n d r : Int} (t0 : 1 ≤ t) (t1 : t ≤ 60000) (n1 : 1 ≤ n) (n2 : n ≤ 8) (h0 : 0 ≤ d) (h1 : d ≤ 2000) (r0 : 0 ≤ r) (r1 : r ≤ 10000) : pm.Ok t n d r := by
  refine ⟨t0, by omega, r0, r1, dz_small h0 h1 n1 (by omega), ?_⟩
  obtain ⟨N, rfl⟩ := Int.eq_ofNat_of_zero_le (show 0 ≤ n by omega)
  obtain ⟨R, rfl⟩ := Int.eq_ofNat_of_zero_le r0
  have e : (R : Int) * (N : Int) = ((R * N : Nat) : Int) := by rw [Int.natCast_mul]
  have pb : R * N ≤ 80000 := Nat.le_trans (Nat.mul_le_mul (show R ≤ 10000 by omega) (show N ≤ 8 by omega)) (by omega)
  rw [e]
  generalize R * N = p at pb
  unfold md.ok
  simp only [decide_eq_true_eq]
  have q := md.rq_le (t.natAbs * (p : Int).toNat) (120000 : Int).toNat
  have q2 : t.natAbs * (p : Int).toNat / (120000 : Int).toNat ≤ t.natAbs * (p : Int).toNat := Nat.div_le_self _ _
  have q3 : t.natAbs * (p : Int).toNat ≤ 60000 * 80000 := Nat.mul_le_mul (by omega) (by omega)
  refine ⟨by omega, by omega, by omega, by omega, by omega, by omega, by omega⟩
/-- A plan while it is drawn. -/
structure Pn (w wr : World) (b len cap g : Nat) (l : List F7) : Prop where
  row : Row wr (some ⟨g, 0, none⟩) cap g l
  lo : w.heap.size ≤ g
  lt : g < wr.heap.size
  pv : pl.PV l
  pos : 1 ≤ l.length
  due : (l.getD 0 zz).1 ≤ 2100
  only : Only b w wr
  rd : draw.Rd wr b len
theorem Pn.next {w wr wr' : World} {b len cap g : Nat} {l : List F7} (h : Pn w wr b len cap g l) (hb : b < w.heap.size) (o : Only b wr wr') (r : draw.Rd wr' b len) : Pn w wr' b len cap g l :=
  ⟨h.row.keep fun _ => o.block g h.lt (by have := h.lo; omega), h.lo, Nat.lt_of_lt_of_le h.lt o.size, h.pv, h.pos, h.due, h.only.trans o, r⟩
theorem Pn.new {w wr wr' : World} {b len cap g cap' g' : Nat} {a' : Option Addr} {l l' : List F7} (h : Pn w wr b len cap g l) (_hb : b < w.heap.size) (r : Row wr' a' cap' g' l') (hg : 0 < l'.length → wr.heap.size ≤ g' ∧ g' < wr'.heap.size) (k : Below wr.heap.size wr wr') (pv : pl.PV l') (hl : l'.length = l.length) (hd : (l'.getD 0 zz).1 = (l.getD 0 zz).1) :
    a' = some ⟨g', 0, none⟩ ∧ Pn w wr' b len cap' g' l' := by
  have p : 0 < l'.length := by have := h.pos; omega
  have e := r.addr p
  subst e
  have sz := h.only.size
  exact ⟨rfl, r, Nat.le_trans sz (hg p).1, (hg p).2, pv, p, by rw [hd]; exact h.due, h.only.trans (Only.of_below k), h.rd.below k (h.rd.lt)⟩
theorem Pn.c0 {w wr : World} {b len cap g : Nat} {l : List F7} (h : Pn w wr b len cap g l) : wr.cell? ⟨g, 0, none⟩ = some (.int .i64 (l.getD 0 zz).1) := by
  have := (h.row.cells 0 h.pos).c0
  simpa using this
theorem Pn.drew {w wr : World} {b len cap g : Nat} {l : List F7} (h : Pn w wr b len cap g l) (hb : b < w.heap.size) : Pn w wr.drew b len cap g l := h.next hb (Only.refl b wr).drew h.rd.drew
/-- A plan, drawn. -/
def GotPl (w : World) (b len : Nat) (e : Ending) (w' : World) : Prop := ∃ cap g, ∃ l : List F7, e = .returned (.slice (some ⟨g, 0, none⟩) l.length cap) ∧ Row w' (some ⟨g, 0, none⟩) cap g l ∧ w.heap.size ≤ g ∧ g < w'.heap.size ∧ 1 ≤ l.length ∧ l.length ≤ 24 ∧ (∀ i, i < l.length → (Lit.int .i64 (l.getD i zz).1).wf = true) ∧ Only b w w' ∧ draw.Rd w' b len
theorem due_wf {l : List F7} (h : pl.PV l) {i : Nat} (hi : i < l.length) : (Lit.int .i64 (l.getD i zz).1).wf = true := draw.wf_small _ (by have := (h.pin hi).d0; omega) (by have := (h.pin hi).d1; omega)
theorem Pn.got {w wr : World} {b len cap g : Nat} {l : List F7} (h : Pn w wr b len cap g l) : GotPl w b len (.returned (.slice (some ⟨g, 0, none⟩) l.length cap)) wr :=
  ⟨cap, g, l, rfl, h.row, h.lo, h.lt, h.pos, h.pv.1, fun _ hi => due_wf h.pv hi, h.only, h.rd⟩
theorem Pn.set {w wr wr' : World} {b len cap g k : Nat} {l : List F7} {x : F7} (h : Pn w wr b len cap g l) (hb : b < w.heap.size) (r : Row wr' (some ⟨g, 0, none⟩) cap g (l.set k x)) (o : Nat) (v : Value) (e : wr' = wr.setCell ⟨g, o, none⟩ v) (hx : (Lit.int .i64 x.1).wf = true) :
    GotPl w b len (.returned (.slice (some ⟨g, 0, none⟩) l.length cap)) wr' := by
  have hl : (l.set k x).length = l.length := by simp
  subst e
  have k0 : Below wr.heap.size wr (wr.setCell ⟨g, o, none⟩ v) → True := fun _ => trivial
  have bw : Below g wr (wr.setCell ⟨g, o, none⟩ v) := (Below.refl g wr).setCell (p := ⟨g, o, none⟩) (Nat.le_refl _) v
  refine ⟨cap, g, l.set k x, by rw [hl], r, h.lo, by simp [World.setCell]; exact h.lt, by rw [hl]; exact h.pos, by rw [hl]; exact h.pv.1, fun i hi => ?_, ?_, h.rd.below bw (by have := h.lo; omega)⟩
  · rw [hl] at hi
    by_cases c : i = k
    · subst c; rw [seven.getD_set_same hi]; exact hx
    · rw [seven.getD_set_other c]; exact due_wf h.pv hi
  · refine ⟨h.only.os, h.only.tape, h.only.output, by simp [World.setCell]; exact h.only.size, fun i hi hne => ?_⟩
    rw [Below.heap_setCell _ _ _ _ (show i ≠ g by have := h.lo; omega)]
    exact h.only.block i hi hne
set_option maxRecDepth 100000 in
set_option maxHeartbeats 8000000 in
theorem plan (w : World) (b len : Nat) (r : draw.Rd w b len) : Calls Try.prog 54 #[.pointer (some ⟨b, 0, none⟩)] w (GotPl w b len) := by
  have bl := r.lt
  have R := Lib.hid r
  have O0 := Lib.hid (Only.refl b w)
  clear r
  go_enter Try.func54, Try.ntmps54
  go_wp2_with fail
  refine (draw.below w b len 60000 R.out (by omega) (by omega)).mono ?_
  rintro e w1 ⟨t, t0, t1, rfl, o1, r1⟩
  have R1 := Lib.hid r1
  have O1 := Lib.hid (O0.out.trans o1)
  clear o1 r1 O0 R
  go_wp2_with fail
  refine (draw.below w1 b len 8 R1.out (by omega) (by omega)).mono ?_
  rintro e w2 ⟨n, n0, n1, rfl, o2, r2⟩
  have R2 := Lib.hid r2
  have O2 := Lib.hid (O1.out.trans o2)
  clear o2 r2 O1 R1
  go_wp2_with fail
  refine (draw.below w2 b len 2000 R2.out (by omega) (by omega)).mono ?_
  rintro e w3 ⟨d, d0, d1, rfl, o3, r3⟩
  have R3 := Lib.hid (r3.alloc (.cells #[.int .i64 0, .int .i64 0, .int .i64 1200, .int .i64 999, .int .i64 10000] 3))
  have O3 := Lib.hid ((O2.out.trans o3).alloc (.cells #[.int .i64 0, .int .i64 0, .int .i64 1200, .int .i64 999, .int .i64 10000] 3))
  have TB := Lib.hid (Tab.new #[.int .i64 0, .int .i64 0, .int .i64 1200, .int .i64 999, .int .i64 10000] 3 w3)
  have hs3 := (O2.out.trans o3).size
  clear o3 r3 O2 R2
  go_wp2_with fail
  refine (draw.below _ b len 5 R3.out (by omega) (by omega)).mono ?_
  rintro e w4 ⟨q, q0, q1, rfl, o4, r4⟩
  have T4 := Lib.hid (TB.out.only o4 (by omega))
  have R4 := Lib.hid r4
  have O4 := Lib.hid (O3.out.trans o4)
  clear o4 r4 O3 R3 TB
  obtain ⟨Q, rfl⟩ := Int.eq_ofNat_of_zero_le q0
  have hq : Q < 5 := by omega
  obtain ⟨rt, hrt, rt0, rt1⟩ : ∃ rt : Int, w4.cell? ⟨w3.heap.size, Q, none⟩ = some (.int .i64 rt) ∧ 0 ≤ rt ∧ rt ≤ 10000 := by
    have c := T4.out.2 Q
    obtain rfl | rfl | rfl | rfl | rfl : Q = 0 ∨ Q = 1 ∨ Q = 2 ∨ Q = 3 ∨ Q = 4 := by omega
    · exact ⟨0, c, by omega, by omega⟩
    · exact ⟨0, c, by omega, by omega⟩
    · exact ⟨1200, c, by omega, by omega⟩
    · exact ⟨999, c, by omega, by omega⟩
    · exact ⟨10000, c, by omega, by omega⟩
  have z5 : (Q : Int) < 5 := by omega
  have OK := ok_small (t := 1 + t) (n := 1 + n) (d := d) (r := rt) (by omega) (by omega) (by omega) (by omega) d0 (by omega) rt0 rt1
  have CM := pmS (1 + t) (1 + n) d rt w4
  have PVM := Lib.hid (pm.pv OK)
  rw [pm.okB_t OK] at CM
  have PL : (pm.pmL (1 + t) (1 + n) d rt).length = (1 + n).toNat := by rw [pm.pm_yes OK, pm.parts_len]
  have DU : ((pm.pmL (1 + t) (1 + n) d rt).getD 0 zz).1 ≤ 2100 := by
    rw [pm.pm_yes OK, pm.parts_get (by omega)]
    show mf.mf d (((0 : Nat) : Int) + 1) ≤ 2100
    have := mf.mf_one (t := d) (by have := OK.dz.2.2 0 (by omega); simpa using this)
    simp only [Int.natCast_zero, Int.zero_add]
    omega
  obtain ⟨P, hP⟩ : ∃ P, P = pm.pmL (1 + t) (1 + n) d rt := ⟨_, rfl⟩
  rw [← hP] at CM PVM PL DU
  have CMh := Lib.hid CM
  have pp : 1 ≤ P.length := by omega
  clear hP CM OK PL
  go_wp2_with fail
  refine CMh.out.mono ?_
  rintro e w5 ⟨a5, c5, g5, rfl, r5, G5, b5⟩
  obtain rfl := r5.addr (by omega)
  have W5 := Lib.hid (show Pn w w5 b len c5 g5 P from ⟨r5, Nat.le_trans O4.out.size (G5 (by omega)).1, (G5 (by omega)).2, PVM.out, pp, DU, O4.out.trans (Only.of_below b5), R4.out.below b5 R4.out.lt⟩)
  clear r5 G5 b5 O4 R4 T4 hrt CMh PVM DU
  go_wp2_with fail
  refine (draw.below w5 b len 4 W5.out.rd (by omega) (by omega)).mono ?_
  rintro e w6 ⟨i, i0, i1, rfl, o6, r6⟩
  have W6 := Lib.hid (W5.out.next bl o6 r6)
  obtain ⟨i, rfl⟩ := Int.eq_ofNat_of_zero_le i0
  clear o6 r6 W5
  go_wp2
  go_loopw [3, 5] (fun vl vi wr => ∃ k cap g : Nat, ∃ l : List F7, k ≤ 4 ∧ vi = .int .i64 k ∧ vl = .slice (some ⟨g, 0, none⟩) l.length cap ∧ Hid (Pn w wr b len cap g l)) (fun _ vi _ => (intOf vi).toNat)
  case atStart => exact ⟨i, c5, g5, P, by omega, rfl, rfl, W6⟩
  case round =>
    clear W6
    obtain ⟨k, cap, g, l, hk, rfl, rfl, H⟩ := hrel
    have l1 := H.out.pos
    have l24 := H.out.pv.1
    obtain ⟨L, hL⟩ : ∃ L, L = l.length := ⟨_, rfl⟩
    have HL := Lib.hid hL
    rw [← hL] at l1 l24 ⊢
    clear hL
    by_cases hk0 : 0 < k
    · have u1 : decide (0 < k) = true := by simp; omega
      obtain ⟨k, rfl⟩ : ∃ k', k = k' + 1 := ⟨k - 1, by omega⟩
      go_wp2_with fail
      refine (draw.below wr b len 4 H.out.rd (by omega) (by omega)).mono ?_
      rintro e wA ⟨x, x0, x1, rfl, oA, rA⟩
      have HA := Lib.hid (H.out.next bl oA rA)
      clear oA rA H
      have mixed : Try.prog.follows .mixedOrders = true := Try.checked.mixed
      by_cases e0 : x = 0
      · subst e0
        have CL := Lib.hid (show ∀ (D F G : Int) (w0 : World), Pn w w0 b len cap g l → 0 ≤ D → D ≤ 100000 → 0 ≤ F → F ≤ 100000 → 0 ≤ G → G ≤ 60 → Calls Try.prog 33 #[.slice (some ⟨g, 0, none⟩) L cap, .int .i64 D, .int .i64 F, .int .i64 G] w0 (fun e w' => ∃ c' g' l' M, e = .returned (.tuple #[.slice (some ⟨g', 0, none⟩) (List.length l') c', .int .i64 M]) ∧ Pn w w' b len c' g' l' ∧ Below w0.heap.size w0 w') from fun D F G w0 h D0 D1 F0 F1 G0 G1 => by
          have CC := ltS D F G w0 cap g l h.row (by rw [← HL.out]; omega)
          have OKC : ltOk l D F G = true := by
            unfold ltOk
            rw [pl.pv_t h.pv, Bool.true_and, Bool.and_eq_true, Bool.and_eq_true, pl.inR_iff, pl.inR_iff, pl.inR_iff]
            exact ⟨⟨⟨D0, D1⟩, F0, F1⟩, G0, G1⟩
          rw [(lt_yes OKC).1, pl.fw_all, ← HL.out] at CC
          refine CC.mono ?_
          rintro e wC ⟨aC, cC, gC, rfl, rC, GC, bC⟩
          obtain ⟨rfl, NC⟩ := h.new bl rC GC bC (late_pv h.pv F0 (by omega)) (pl.ml_len _ _ _) (late_due h.pv F0 (by omega) (by rw [← HL.out]; omega))
          exact ⟨cC, gC, _, _, rfl, NC, bC⟩)
        have X0 := (HA.out.pv.pin (show 0 < l.length from by rw [← HL.out]; omega)).d0
        have X1 := HA.out.due
        have c0 := HA.out.c0
        have H0 := Lib.hid (HA.out.drew bl)
        obtain ⟨du, hdu⟩ : ∃ du, du = (l.getD 0 zz).1 := ⟨_, rfl⟩
        rw [← hdu] at X0 X1 c0
        have KC := Lib.hid (show ∀ w0, Pn w w0 b len cap g l → w0.cell? ⟨g, 0, none⟩ = some (.int .i64 du) from fun w0 h => by rw [hdu]; exact h.c0)
        clear hdu
        have z0 : (0 : Int) < (L : Int) := by omega
        have z0' : 0 < L := by omega
        have z1' : (0 : Int) ≤ 0 := by omega
        have rmL : L ≤ cap := by rw [HL.out]; exact HA.out.row.room
        go_wp2_with fail
        go_region_held3 (fun w' => w'.cell? ⟨g, 0, none⟩ = some (.int .i64 du)) (first | exact S4.out | exact S3.out | exact S2.out | exact S1.out | go_keep)
          (first
            | (go_at_call 33; rw [show IntKind.i64.wrap (du + y1) = du + y1 from by rw [IntKind.wrap_i64]; omega]; refine (CL.out (du + y1) y2 y3 wD H3.out (by omega) (by omega) (by omega) (by omega) (by omega) (by omega)).mono ?_; rintro e wE ⟨cE, gE, Z, M, rfl, NE, bE⟩; have HE := Lib.hid NE; have S4 := Lib.hid ((bE.cell (p := ⟨g, 0, none⟩) H3.out.lt).trans S3.out); clear NE bE)
            | (go_at_call 55; refine (draw.below _ b len 10 H2.out.rd (by omega) (by omega)).mono ?_; rintro e wD ⟨y3, y30, y31, rfl, oD, rD⟩; have H3 := Lib.hid (H2.out.next bl oD rD); have S3 := Lib.hid (KC.out wD H3.out); clear oD rD)
            | (go_at_call 55; refine (draw.below _ b len 900 H1.out.rd (by omega) (by omega)).mono ?_; rintro e wC ⟨y2, y20, y21, rfl, oC, rC⟩; have H2 := Lib.hid (H1.out.next bl oC rC); have S2 := Lib.hid (KC.out wC H2.out); clear oC rC)
            | (go_at_call 55; refine (draw.below _ b len 200 H0.out.rd (by omega) (by omega)).mono ?_; rintro e wB ⟨y1, y10, y11, rfl, oB, rB⟩; have H1 := Lib.hid (H0.out.next bl oB rB); have S1 := Lib.hid (KC.out wB H1.out); clear oB rB))
        all_goals
          clear S4 S3 S2 S1 H0 H1 H2 H3 HA c0 KC CL
          go_wp2
          go_roundw
          case rel => exact ⟨k, cE, gE, Z, by omega, by go_num, rfl, HE⟩
          case measure => simp [intOf]
      · by_cases e1 : x = 1
        · subst e1
          go_wp2_with fail
          refine (draw.below wA b len 5000 HA.out.rd (by omega) (by omega)).mono ?_
          rintro e wB ⟨y, y0, y1, rfl, oB, rB⟩
          have HB := Lib.hid (HA.out.next bl oB rB)
          clear oB rB HA
          have CC := ctS y wB cap g l HB.out.row (by rw [← HL.out]; omega)
          have OKC : pyOk l y = true := by unfold pyOk; rw [pl.pv_t HB.out.pv, Bool.true_and, pl.inR_iff]; omega
          rw [(bk_yes OKC).1, pl.bw_zero, ← HL.out] at CC
          have CCh := Lib.hid CC
          clear CC OKC
          go_wp2_with fail
          refine CCh.out.mono ?_
          rintro e wC ⟨aC, cC, gC, rfl, rC, GC, bC⟩
          obtain ⟨rfl, NC⟩ := HB.out.new bl rC GC bC (cut_pv HB.out.pv y0) (pl.mr_len _ _ _) (cut_due (by rw [← HL.out]; omega))
          have HC := Lib.hid NC
          obtain ⟨Z, hZ⟩ : ∃ Z, Z = (pl.mr pl.cut y l).1 := ⟨_, rfl⟩
          rw [← hZ] at HC ⊢
          clear hZ rC GC bC NC CCh HB
          go_wp2
          go_roundw
          case rel => exact ⟨k, cC, gC, Z, by omega, by go_num, rfl, HC⟩
          case measure => simp [intOf]
        · have e0' : (x == 0) = false := by simp; omega
          have e1' : (x == 1) = false := by simp; omega
          clear e0 e1
          go_wp2_with fail
          refine (draw.below wA b len 30000 HA.out.rd (by omega) (by omega)).mono ?_
          rintro e wB ⟨y, y0, y1, rfl, oB, rB⟩
          have HB := Lib.hid (HA.out.next bl oB rB)
          clear oB rB HA
          have CC := ppS y wB cap g l HB.out.row (by rw [← HL.out]; omega)
          have OKC : pyOk l y = true := by unfold pyOk; rw [pl.pv_t HB.out.pv, Bool.true_and, pl.inR_iff]; omega
          rw [(py_yes OKC).1, pl.fw_all, ← HL.out] at CC
          have CCh := Lib.hid CC
          clear CC OKC
          go_wp2_with fail
          refine CCh.out.mono ?_
          rintro e wC ⟨aC, cC, gC, rfl, rC, GC, bC⟩
          obtain ⟨rfl, NC⟩ := HB.out.new bl rC GC bC (pay_pv HB.out.pv y0) (pl.ml_len _ _ _) (pay_due (by rw [← HL.out]; omega))
          have HC := Lib.hid NC
          obtain ⟨Z, hZ⟩ : ∃ Z, Z = (pl.ml pl.pay (y, 0, 0, 0) l).1 := ⟨_, rfl⟩
          rw [← hZ] at HC ⊢
          clear hZ rC GC bC NC CCh HB
          go_wp2
          go_roundw
          case rel => exact ⟨k, cC, gC, Z, by omega, by go_num, rfl, HC⟩
          case measure => simp [intOf]
    · have u1 : decide (0 < k) = false := by simp; omega
      obtain rfl : k = 0 := by omega
      go_wp2_with fail
      refine (draw.below wr b len (L : Int) H.out.rd (by omega) (by omega)).mono ?_
      rintro e wA ⟨x, x0, x1, rfl, oA, rA⟩
      have HA := Lib.hid (H.out.next bl oA rA)
      clear oA rA H
      obtain ⟨at_, rfl⟩ := Int.eq_ofNat_of_zero_le x0
      have ha : at_ < L := by omega
      have z1 : (at_ : Int) < (L : Int) := by omega
      go_wp2_with fail
      refine (draw.below wA b len 30 HA.out.rd (by omega) (by omega)).mono ?_
      rintro e wB ⟨y, y0, y1, rfl, oB, rB⟩
      have HB := Lib.hid (HA.out.next bl oB rB)
      clear oB rB HA
      have hal : at_ < l.length := by rw [← HL.out]; exact ha
      have qa := HB.out.row.cells at_ hal
      have fz := HB.out.row.free (by omega)
      have PX := HB.out.pv.pin hal
      obtain ⟨x, hx⟩ : ∃ x, x = l.getD at_ zz := ⟨_, rfl⟩
      rw [← hx] at qa PX
      have HX := Lib.hid hx.symm
      clear hx
      obtain ⟨s0, s1, s2, s3, s4, s5, s6⟩ := qa
      have f0 := fz (at_ * 7)
      have f2 := fz (at_ * 7 + 2)
      have f3 := fz (at_ * 7 + 3)
      have f4 := fz (at_ * 7 + 4)
      have p1 := PX.p1
      have p0 := PX.p0
      have WX := Lib.hid (draw.wf_small x.1 (by have := PX.d0; omega) (by have := PX.d1; omega))
      clear fz PX
      by_cases e0 : y = 0
      · subst e0
        go_wp2_with fail
        refine (draw.off wB b len 0 100000 HB.out.rd (by omega) (by omega) (by omega)).mono ?_
        rintro e wC ⟨v, vw, rfl, oC, rC⟩
        have HC := Lib.hid (HB.out.next bl oC rC)
        have f0' := (HC.out.row.free (by omega)) (at_ * 7)
        have s0' := (HC.out.row.cells at_ hal).c0
        have FIN := Lib.hid (HC.out.set bl (seven.rowSet0 HC.out.row hal HX.out v) _ _ rfl vw)
        clear oC rC s0 s1 s2 s3 s4 s5 s6 f0 f2 f3 f4 HB vw
        rw [HX.out] at s0'
        go_wp2
        go_ret
        rw [HL.out]
        exact FIN.out
      · have n0' : (y == 0) = false := by simp; omega
        by_cases e1 : y = 1
        · subst e1
          have FIN := Lib.hid (HB.out.set bl (seven.rowSet4 HB.out.row hal HX.out (x.2.1 + 1)) _ _ rfl WX.out)
          clear n0'
          go_wp2
          go_ret
          rw [HL.out]
          exact FIN.out
        · have n1' : (y == 1) = false := by simp; omega
          by_cases e2 : y = 2
          · subst e2
            go_wp2_with fail
            refine (draw.off wB b len 0 1000000000000 HB.out.rd (by omega) (by omega) (by omega)).mono ?_
            rintro e wC ⟨v, vw, rfl, oC, rC⟩
            have HC := Lib.hid (HB.out.next bl oC rC)
            have f0' := (HC.out.row.free (by omega)) (at_ * 7 + 3)
            have s0' := (HC.out.row.cells at_ hal).c3
            have FIN := Lib.hid (HC.out.set bl (seven.rowSet3 HC.out.row hal HX.out v) _ _ rfl WX.out)
            clear oC rC s0 s1 s2 s3 s4 s5 s6 f0 f2 f3 f4 HB vw
            rw [HX.out] at s0'
            go_wp2
            go_ret
            rw [HL.out]
            exact FIN.out
          · have n2' : (y == 2) = false := by simp; omega
            by_cases e3 : y = 3
            · subst e3
              have FIN := Lib.hid (HB.out.set bl (seven.rowSet2 HB.out.row hal HX.out (-1)) _ _ rfl WX.out)
              go_wp2
              go_ret
              rw [HL.out]
              exact FIN.out
            · have n3' : (y == 3) = false := by simp; omega
              clear e0 e1 e2 e3
              go_wp2
              go_ret
              rw [HL.out]
              exact HB.out.got
end Go.Proofs.Ytmnmijiikjpdnaa.base
