/-
  Proved: for every code, the law of due days holds of the drawn day and count; the law laws.FnDues returns true and its arguments read as before. Conditions: none beyond the given row (the listed tables are as the program's text lays them).
-/
import Derived.Test.YtlpeadkkkmpccabDoorDue
import Derived.Test.YtlpeadkkkmpccabDoorInts
import Derived.Test.YtlpeadkkkmpccabDoorDraw5
import Derived.Test.YtlpeadkkkmpccabDoorFnMonthsMath
namespace Go.Proofs.YtlpeadkkkmpccabDoor.fnDues
open Go.ChangeShapes Go.WideShapes Go.ChangeAt Go.RowKit
open Go.ChangeMaps (open_string shut_string)
open Go.Proofs.YtlpeadkkkmpccabDoor.fnMonths (next_facts zero_months res_cases)
theorem walk_big (a : Option Addr) (len cap : Nat) (w : World) (hl : len ≤ maxLen) (hb : 1048576 < len) : Calls Tryd.prog 7 #[.slice a len cap] w fun e w' => e = .returned (.bool true) ∧ Below w.heap.size w w' := by
  go_enter Tryd.func7, Tryd.ntmps7
  go_wp2_with fail
  refine (draw.bigT a len cap w hb hl).mono ?_
  rintro e w' ⟨rfl, rfl⟩
  go_wp2
  go_ret
  exact ⟨rfl, Below.refl _ _⟩

/-- MonthsOn as a function, with what the law asks of it. -/
theorem mon_fun (t : Int) : ∃ f : Int → Int, (∀ n, -1 ≤ f n) ∧ due.MonI t f ∧ due.MonS t f ∧ (∀ j : Nat, j < 100 → f (j : Int) ≠ -1 → f ((j : Int) + 1) ≠ -1 → f (j : Int) < f ((j : Int) + 1)) ∧ (f 1 ≠ -1 → f 0 = t ∧ 0 ≤ t) := by
  by_cases h : t < 0 ∨ 100000 < t
  · exact ⟨fun _ => -1, fun _ => Int.le_refl _, fun n w _ => monthsOn.impl_no t n w (by omega), fun n w _ => (monthsOn.spec_no t n w (by omega)).mono fun e w' ⟨h1, h2⟩ => ⟨h1, h2 ▸ Below.refl _ _⟩, fun _ _ h => absurd rfl h, fun h => absurd rfl h⟩
  · obtain ⟨y, m, d, hd⟩ := cal.date_exists t (by omega) (by omega)
    refine ⟨fun n => if n < 0 ∨ 600 < n then -1 else monthsOn.res y m d n, fun n => ?_, fun n w c => ?_, fun n w c => ?_, fun j hj h1 h2 => ?_, fun h1 => ?_⟩
    · by_cases k : n < 0 ∨ 600 < n
      · simp only [if_pos k]; omega
      · simp only [if_neg k]
        rcases res_cases y m d n with e | ⟨e, o⟩
        · omega
        · have := cal.day_nonneg o; omega
    · by_cases k : n < 0 ∨ 600 < n
      · simp only [if_pos k]; exact monthsOn.impl_no t n w (by omega)
      · simp only [if_neg k]; exact monthsOn.impl_yes t n y m d w c hd (by omega) (by omega)
    · by_cases k : n < 0 ∨ 600 < n
      · simp only [if_pos k]; exact (monthsOn.spec_no t n w (by omega)).mono fun e w' ⟨h1, h2⟩ => ⟨h1, h2 ▸ Below.refl _ _⟩
      · simp only [if_neg k]; exact monthsOn.spec_yes t n y m d w c hd (by omega) (by omega)
    · have k1 : ¬ ((j : Int) < 0 ∨ 600 < (j : Int)) := by omega
      have k2 : ¬ ((j : Int) + 1 < 0 ∨ 600 < (j : Int) + 1) := by omega
      simp only [if_neg k1, if_neg k2] at h1 h2 ⊢
      exact (next_facts hd.1 (by omega) h1 h2).1
    · simp only [if_neg (show ¬ ((0 : Int) < 0 ∨ 600 < (0 : Int)) by omega)]
      exact ⟨zero_months hd, by omega⟩

theorem pre_get (f : Int → Int) (m k : Nat) (h : k < m) : (due.pre f m).getD k 0 = f ((k : Int) + 1) := by
  unfold due.pre
  rw [List.getD_eq_getElem?_getD, List.getElem?_map, List.getElem?_range h]; rfl

/-- The list, where it is not empty. -/
theorem list_facts {t : Int} {f : Int → Int} {n : Int} {zs : List Int} (hz : due.Zs f n zs) (hp : 0 < zs.length) (hinc : ∀ j : Nat, j < 100 → f (j : Int) ≠ -1 → f ((j : Int) + 1) ≠ -1 → f (j : Int) < f ((j : Int) + 1)) (h0 : f 1 ≠ -1 → f 0 = t ∧ 0 ≤ t) :
    (zs.length : Int) = n ∧ zs.length ≤ 24 ∧ (∀ k, k < zs.length → zs.getD k 0 = f ((k : Int) + 1)) ∧ (∀ k, k + 1 < zs.length → zs.getD k 0 < zs.getD (k + 1) 0) ∧ t < zs.getD 0 0 := by
  rcases hz with ⟨_, rfl⟩ | ⟨h1, h2, h3, rfl⟩
  · simp at hp
  · have hl := due.pre_len f n.toNat
    rw [hl] at hp ⊢
    refine ⟨by omega, by omega, fun k hk => pre_get f _ k hk, fun k hk => ?_, ?_⟩
    · rw [pre_get f _ k (by omega), pre_get f _ (k + 1) hk]
      have a := h3 k (by omega)
      have b := h3 (k + 1) (by omega)
      have := hinc (k + 1) (by omega) (by rw [show ((k + 1 : Nat) : Int) = (k : Int) + 1 from by omega]; exact a) b
      rw [show ((k + 1 : Nat) : Int) = (k : Int) + 1 from by omega] at this ⊢
      exact this
    · rw [pre_get f _ 0 hp]
      have a := h3 0 (by omega)
      obtain ⟨e, t0⟩ := h0 (by simpa using a)
      have := hinc 0 (by omega) (by show f ((0 : Nat) : Int) ≠ -1; rw [show ((0 : Nat) : Int) = 0 from rfl, e]; omega) a
      rw [show ((0 : Nat) : Int) = 0 from rfl, e] at this
      exact this

set_option maxHeartbeats 2000000 in
theorem walk_small (a : Option Addr) (len cap : Nat) (w : World) (hb : len ≤ 1048576) (hB : draw.Bytes w a len) (c : base.Mon w) : Calls Tryd.prog 7 #[.slice a len cap] w fun e w' => e = .returned (.bool true) ∧ Below w.heap.size w w' := by
  have HB := Lib.hid hB
  have C := Lib.hid c
  have lt := c.lt
  clear hB c
  go_enter Tryd.func7, Tryd.ntmps7
  go_wp2_with fail
  refine (draw.bigF a len cap w hb).mono ?_
  rintro e w' ⟨rfl, rfl⟩
  go_wp2_with fail
  refine (draw.drawDueDays a len cap w HB.out hb C.out).mono ?_
  rintro e w1 ⟨t, n, v, v', rfl, b1⟩
  have B1 := Lib.hid b1
  have C1 := Lib.hid (draw.mon_below C.out b1)
  clear b1 v v'
  obtain ⟨f, hlo, hI, hS, hinc, h0⟩ := mon_fun t
  have HI := Lib.hid hI
  have HS := Lib.hid hS
  have HL := Lib.hid hlo
  have HINC := Lib.hid hinc
  have H0 := Lib.hid h0
  clear hI hS hlo hinc h0
  go_wp2_with fail
  refine (due.impl t n f w1 HI.out HL.out C1.out).mono ?_
  rintro e w2 ⟨v1, zs, rfl, hz, own1, b2⟩
  obtain ⟨a1, c1, g1, rfl, R1, G1⟩ := rows.of_owns own1
  have Z := Lib.hid hz
  have RR1 := Lib.hid R1
  have GG1 := Lib.hid G1
  have B2 := Lib.hid (B1.out.trans (b2.mono B1.out.size))
  have C2 := Lib.hid (draw.mon_below C1.out b2)
  have small : zs.length ≤ 24 := by
    rcases hz with ⟨_, rfl⟩ | ⟨h1, h2, _, rfl⟩
    · simp
    · rw [due.pre_len]; omega
  clear hz own1 b2 R1 G1
  go_wp2_with fail
  refine (due.spec t n f w2 HS.out HL.out C2.out).mono ?_
  rintro e w3 ⟨v3, zs3, rfl, hz3, own3, b3⟩
  obtain rfl : zs = zs3 := due.zs_fun Z.out hz3
  obtain ⟨a3, c3, g3, rfl, R3, G3⟩ := rows.of_owns own3
  have RR3 := Lib.hid R3
  have RR13 := Lib.hid (RR1.out.keep (w' := w3) fun h => b3.block g1 (GG1.out h).2)
  have S3 := Lib.hid b3.size
  have B3 := Lib.hid (B2.out.trans (b3.mono B2.out.size))
  have C3 := Lib.hid (draw.mon_below C2.out b3)
  clear hz3 own3 b3 R3 G3
  go_wp2_with fail
  refine (rows.sameT w3 a1 a3 c1 c3 g1 g3 zs RR13.out RR3.out (by omega)).mono ?_
  rintro e w4 ⟨rfl, q, hq⟩
  have B4 := Lib.hid (show Below w.heap.size w w4 from hq ▸ below_drewN B3.out q)
  have C4 := Lib.hid (show base.Mon w4 from hq ▸ C3.out.below (below_drewN (Below.refl w3.heap.size w3) q) C3.out.lt)
  have RR4 := Lib.hid (show rows.Row w4 a1 c1 g1 zs from RR13.out.keep fun _ => by rw [hq]; rfl)
  have GG4 := Lib.hid (show 0 < zs.length → g1 < w4.heap.size from fun h => by rw [hq]; exact Nat.lt_of_lt_of_le (GG1.out h).2 S3.out)
  clear hq
  rcases Nat.eq_zero_or_pos zs.length with hz0 | hp
  · have u1 : ((zs.length : Int) == 0) = true := by simp [hz0]
    have HZ0 := Lib.hid hz0
    clear hz0
    go_wp2_with fail
    refine (due.spec t n f w4 HS.out HL.out C4.out).mono ?_
    rintro e w5 ⟨v5, zs5, rfl, hz5, own5, b5⟩
    obtain rfl : zs = zs5 := due.zs_fun Z.out hz5
    obtain ⟨a5, c5, g5, rfl, R5, G5⟩ := rows.of_owns own5
    have RR5 := Lib.hid R5
    have RR15 := Lib.hid (RR4.out.keep (w' := w5) fun h => b5.block g1 (GG4.out h))
    have B5 := Lib.hid (B4.out.trans (b5.mono B4.out.size))
    clear hz5 own5 b5 R5 G5
    go_wp2_with fail
    refine (rows.sameT w5 a1 a5 c1 c5 g1 g5 zs RR15.out RR5.out (by omega)).mono ?_
    rintro e w6 ⟨rfl, q6, hq6⟩
    have B6 := Lib.hid (show Below w.heap.size w w6 from hq6 ▸ below_drewN B5.out q6)
    clear hq6
    go_wp2
    go_ret
    exact ⟨rfl, B6.out⟩
  · have u1 : ((zs.length : Int) == 0) = false := by rw [beq_eq_false_iff_ne]; omega
    obtain ⟨L1, L2, L3, L4, L5⟩ := list_facts Z.out hp HINC.out H0.out
    have HL1 := Lib.hid L1
    have HL3 := Lib.hid L3
    have HL4 := Lib.hid L4
    have HL5 := Lib.hid L5
    have HC := Lib.hid (fun k (hk : k < zs.length) => RR4.out.cells k hk)
    obtain rfl := RR4.out.addr hp
    have room := RR4.out.room
    obtain ⟨N, hN⟩ : ∃ N, N = zs.length := ⟨_, rfl⟩
    have HN := Lib.hid hN
    rw [← hN] at hp small room u1 ⊢
    rw [← hN] at L1
    have nn : n = (N : Int) := L1.symm
    subst nn
    clear L1 L2 L3 L4 L5 hN
    go_wp2
    go_loopw [6] (fun i wr => Below w.heap.size w wr ∧ base.Mon wr ∧ rows.Row wr (some ⟨g1, 0, none⟩) c1 g1 zs ∧ ∃ k : Nat, k ≤ N ∧ i = .int .i64 k) (fun i _ => N - (intOf i).toNat)
    case atStart => exact ⟨B4.out, C4.out, RR4.out, 0, by omega, rfl⟩
    case round =>
      obtain ⟨hB, hM, hR, k, hk, rfl⟩ := hrel
      have BB := Lib.hid hB
      have MM := Lib.hid hM
      have RR := Lib.hid hR
      clear hB hM hR
      by_cases hlt : k < N
      · have y1 : (k : Int) < (N : Int) := by omega
        have v1 : decide ((k : Int) < (N : Int)) = true := by simp; omega
        have x1 := RR.out.cells k (by rw [← HN.out]; exact hlt)
        have fx := HL3.out k (by rw [← HN.out]; exact hlt)
        have mq : ∀ q, base.Mon (wr.drewN q) := fun q => MM.out.below (below_drewN (Below.refl wr.heap.size wr) q) MM.out.lt
        have KC : ∀ q, Calls Tryd.prog 28 #[.int .i64 t, .int .i64 ((k : Int) + 1)] (wr.drewN q) fun e w' => e = .returned (.int .i64 (zs.getD k 0)) ∧ w' = wr.drewN q := fun q => by
          rw [fx]; exact (HI.out ((k : Int) + 1) (wr.drewN q) (mq q)).mono fun e w' h => ⟨h.1, h.2.symm⟩
        clear fx mq
        rcases Nat.eq_zero_or_pos k with rfl | hk0
        · rw [show ((0 : Nat) : Int) + 1 = 1 from rfl] at KC
          generalize zs.getD 0 0 = x at *
          have HKC := Lib.hid KC
          clear KC
          have y0 : (0 : Int) < (N : Int) := by omega
          go_wp2
          go_quiet ((go_at_call 28; exact Calls.quiet_of_same (HKC.out _)))
          go_wp2
          go_roundw
          case rel => exact ⟨below_drewN BB.out _, MM.out.below (below_drewN (Below.refl wr.heap.size wr) _) MM.out.lt, RR.out.keep fun _ => rfl, 1, by omega, by go_num⟩
          case measure => simp [intOf]; omega
        · obtain ⟨j, rfl⟩ : ∃ j, k = j + 1 := ⟨k - 1, by omega⟩
          have x2 := RR.out.cells j (by rw [← HN.out]; omega)
          have hxy := HL4.out j (by rw [← HN.out]; exact hlt)
          rw [show ((j + 1 : Nat) : Int) = (j : Int) + 1 from by omega] at y1 v1 KC
          generalize zs.getD (j + 1) 0 = x at *
          generalize zs.getD j 0 = y at *
          have HKC := Lib.hid KC
          clear KC
          have v2 : decide ((0 : Int) < (j : Int) + 1) = true := by rw [decide_eq_true_eq]; omega
          have v3 : decide (x ≤ y) = false := by simp; omega
          have y2 : (j : Int) < (N : Int) := by omega
          go_wp2
          go_quiet ((go_at_call 28; exact Calls.quiet_of_same (HKC.out _)))
          go_wp2
          go_roundw
          case rel => exact ⟨below_drewN BB.out _, MM.out.below (below_drewN (Below.refl wr.heap.size wr) _) MM.out.lt, RR.out.keep fun _ => rfl, j + 1 + 1, by omega, by go_num⟩
          case measure => simp [intOf]; omega
      · obtain rfl : k = N := by omega
        have v1 : decide ((k : Int) < (k : Int)) = false := by simp
        have x1 := RR.out.cells 0 (by rw [← HN.out]; exact hp)
        have l5 := HL5.out
        generalize zs.getD 0 0 = x at *
        have y0 : (0 : Int) < (k : Int) := by omega
        have v3 : decide (t < x) = true := by simp; omega
        have v4 : ((k : Int) == (k : Int)) = true := by simp
        go_wp2
        go_ret
        exact ⟨rfl, BB.out⟩

theorem walk (a : Option Addr) (len cap : Nat) (w : World) (hl : len ≤ maxLen) (hB : draw.Bytes w a len) (c : base.Mon w) : Calls Tryd.prog 7 #[.slice a len cap] w fun e w' => e = .returned (.bool true) ∧ Below w.heap.size w w' := by
  by_cases hb : len ≤ 1048576
  · exact walk_small a len cap w hb hB c
  · exact walk_big a len cap w hl (by omega)

theorem isLaw : lift.IsLaw Rows.fnDuesSpec 1 1 := fun _ ds gs h1 h2 => match ds, h1 with | [_], _ => match gs, h2 with | [_], _ => rfl

theorem laid_met (os : Os) : laidMetH Tryd.prog Rows.fnDuesRow.laid ((World.doorLaid Tryd.prog 400 os).forCall (fun _ _ => 0) ⟨#[], #[.slice none 0 0], []⟩).memory :=
  laidMetH_of_parts3 (fuel := 8) (laidMet_of_run' 8 (by kernel_rfl) (by kernel_rfl)) (by kernel_rfl) (by kernel_rfl)

theorem reads (os : Os) {H : Type} (enc : TypeId × Value → H) : ∃ gs places, DataW.whole enc Tryd.prog ((World.doorLaid Tryd.prog 400 os).forCall (fun _ _ => 0) ⟨#[], #[.slice none 0 0], []⟩).memory Tryd.f7.params.toList Rows.fnDuesSpec.vars false (#[.slice none 0 0] : Array Value).toList 8 = some ([.nil], gs, places) :=
  ⟨[Rows.laid_loop_example_g00714_impl_monthLengths], MemPlace.row ⟨0, 0, none⟩ 12, by kernel_rfl⟩

set_option maxRecDepth 100000 in
theorem lifted (os : Os) (started : os.Started) (H : Type) (enc : TypeId × Value → H) (F : Stop.Interp) :
    ReturnsInHanded {} Tryd.checked os 7 .any ((OpenSpec.ofChange Rows.fnDuesSpec).preRow enc Tryd.prog Tryd.f7 [] false Rows.fnDuesRow.laid) (((OpenSpec.ofChange Rows.fnDuesSpec).at F).post enc Tryd.prog Tryd.f7 false true false false) := by
  obtain ⟨gs, places, hx⟩ := reads os enc
  refine lift.law_lift (C := Tryd.checked) (tb := 4) base.own started (by kernel_rfl) Tryd.func7 base.laidOut (by kernel_rfl) (by kernel_rfl) (by kernel_rfl) Tryd.underlying4 (by rw [Tryd.params7]; exact isLaw)
    (witness_row_at (enc := enc) (C := Tryd.checked) false (World.doorLaid Tryd.prog 400 os) #[.slice none 0 0] rfl (by kernel_rfl) (by kernel_rfl) (by kernel_rfl)
      (OpenSpec.preRow_of_cond 8 hx (by kernel_rfl) (fun k hk => by cases hk) (by kernel_rfl) (laid_met os))) ?_
  intro W b0 args ds p hval hA hL
  rw [Tryd.params7] at hA hval
  obtain ⟨v0, d0, rfl, rfl, h0⟩ := trodAll_one hA
  obtain ⟨a, len, cap, rfl, hlen, hB⟩ := draw.open_code Tryd.underlying22 Tryd.underlying5 (by kernel_rfl) (hval 0 22 v0 rfl rfl) h0
  exact walk a len cap W hlen hB (base.mon_one hL)

theorem said : Rows.FnDuesSaid :=
  OpenClaim.holds_of_cond 7 Tryd.f7 rfl rfl rfl rfl rfl rfl rfl ⟨rfl, rfl, rfl, rfl, rfl⟩ rfl rfl rfl rfl rfl (by kernel_rfl) Tryd.func7 (by kernel_rfl)
    (of_decide_eq_true (by kernel_rfl)) (by unfold Func.isWrapper; first | (rw [if_pos (by decide +kernel)]; kernel_rfl) | (rw [if_neg (by decide +kernel)]; exact ⟨rfl, rfl⟩))
    (fun os started H enc _ F => by rw [OpenClaim.pre_eq_preRow]; exact lifted os started H enc F)

theorem plain (f : FuncId) (fn : Func) (hf : Tryd.pinned.checked.prog.funcNamed "loop.example/g00714/laws.FnDues" = some f) (hfn : Tryd.pinned.checked.prog.funcs[f]? = some fn) :
    false = Tryd.pinned.checked.prog.looks [] ∧ ∀ (j : Nat) t, fn.params[j]? = some t → Tryd.pinned.checked.prog.wantsStandIn t = false := by
  obtain rfl : f = 7 := Option.some.inj ((show Tryd.prog.funcNamed "loop.example/g00714/laws.FnDues" = some 7 by kernel_rfl).symm.trans hf) |>.symm
  obtain rfl : fn = Tryd.f7 := (Option.some.inj (Tryd.func7.symm.trans hfn)).symm
  refine ⟨by kernel_rfl, fun j t ht => ?_⟩
  rw [Tryd.params7] at ht
  have hm : t ∈ [22] := by simpa using Array.mem_of_getElem? ht
  have hall : ([22].all fun u => !Tryd.prog.wantsStandIn u) = true := by kernel_rfl
  exact (show Tryd.prog.wantsStandIn t = false by simpa using List.all_eq_true.1 hall t hm)

theorem card : Rows.FnDuesCardSaid :=
  Claim7.holds_tied_plain_at .later [] _ _ _ _ said (fun _ h => by cases h) (by kernel_rfl) (fun _ h => by cases h) fnDues_row_tie rfl ⟨rfl, rfl⟩ (by kernel_rfl) rfl plain (by kernel_rfl)
#print axioms card
end Go.Proofs.YtlpeadkkkmpccabDoor.fnDues
