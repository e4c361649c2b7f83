/-
  Proved: for every code, the law of later months holds of the drawn day and number; the law laws.FnMonths returns true and its arguments read as before. Conditions: none beyond the given row (the listed tables are as the program's text lays them).
-/
import Derived.Test.YtlpeadkkkmpccabDoorFnMonthsMath
namespace Go.Proofs.YtlpeadkkkmpccabDoor.fnMonths
open Go.ChangeShapes Go.WideShapes Go.ChangeAt Go.RowKit
open Go.ChangeMaps (open_string shut_string)

def NegI (t n : Int) : Prop := ∀ w, base.Mon w → Calls Tryd.prog 28 #[.int .i64 t, .int .i64 n] w fun e w' => e = .returned (.int .i64 (-1)) ∧ w = w'
def NegS (t n : Int) : Prop := ∀ w, base.Mon w → Calls Tryd.prog 29 #[.int .i64 t, .int .i64 n] w fun e w' => e = .returned (.int .i64 (-1)) ∧ Below w.heap.size w w'
theorem split (t n : Int) : (NegI t n ∧ NegS t n) ∨ ∃ y m d, cal.isDate t y m d ∧ 0 ≤ n ∧ n ≤ 600 ∧ ¬ monthsOn.res y m d n = -1 := by
  by_cases h : t < 0 ∨ 100000 < t ∨ n < 0 ∨ 600 < n
  · left; exact ⟨fun w _ => monthsOn.impl_no t n w h, fun w _ => (monthsOn.spec_no t n w h).mono fun e w' ⟨h1, h2⟩ => ⟨h1, h2 ▸ Below.refl _ _⟩⟩
  · obtain ⟨y, m, d, hd⟩ := cal.date_exists t (by omega) (by omega)
    by_cases k : monthsOn.res y m d n = -1
    · left
      refine ⟨fun w c => ?_, fun w c => ?_⟩
      · have := monthsOn.impl_yes t n y m d w c hd (by omega) (by omega)
        rw [k] at this; exact this
      · have := monthsOn.spec_yes t n y m d w c hd (by omega) (by omega)
        rw [k] at this; exact this
    · right; exact ⟨y, m, d, hd, by omega, by omega, k⟩

set_option maxHeartbeats 4000000 in
theorem walk_small (a : Option Addr) (len cap : Nat) (w : World) (hb : len ≤ 1048576) (hB : draw.Bytes w a len) (c : base.Mon w) : Calls Tryd.prog 6 #[.slice a len cap] w fun e w' => e = .returned (.bool true) ∧ Below w.heap.size w w' := by
  have HB := Lib.hid hB
  have C := Lib.hid c
  clear hB c
  go_enter Tryd.func6, Tryd.ntmps6
  go_wp2_with fail
  refine (draw.bigF a len cap w hb).mono ?_
  rintro e w' ⟨rfl, rfl⟩
  go_wp2_with fail
  refine (draw.drawMonthsOn a len cap w HB.out hb C.out).mono ?_
  rintro e w1 ⟨t, n, v, v', rfl, b1⟩
  have B1 := Lib.hid b1
  have C1 := Lib.hid (draw.mon_below C.out b1)
  clear b1 v v'

  rcases split t n with ⟨k1, k2⟩ | ⟨y, m, d, hd, n1, n2, hx⟩
  · have K1 := Lib.hid k1
    have K2 := Lib.hid k2
    clear k1 k2
    go_wp2_with fail
    refine (K1.out w1 C1.out).mono ?_
    rintro e w' ⟨rfl, rfl⟩
    go_wp2_with fail
    refine (K2.out w1 C1.out).mono ?_
    rintro e w2 ⟨rfl, b2⟩
    have B2 := Lib.hid (B1.out.trans (b2.mono B1.out.size))
    have C2 := Lib.hid (draw.mon_below C1.out b2)
    clear b2
    go_wp2_with fail
    refine (K2.out w2 C2.out).mono ?_
    rintro e w3 ⟨rfl, b3⟩
    have B3 := Lib.hid (B2.out.trans (b3.mono B2.out.size))
    clear b3
    go_wp2
    go_ret
    exact ⟨rfl, B3.out⟩
  · obtain ⟨Y, M, D, hD, eY, eM, eD⟩ := res_nonneg hx
    obtain ⟨f1, f2, f3⟩ := facts hd.1 n1 eY eM eD
    obtain ⟨nx, g1, g2⟩ := next_call t n y m d hd n1 n2 hx
    have hz := zero_months hd
    have K1 := Lib.hid (fun (w : World) (c : base.Mon w) => monthsOn.impl_yes t n y m d w c hd n1 n2)
    have K2 := Lib.hid (fun (w : World) (c : base.Mon w) => monthsOn.spec_yes t n y m d w c hd n1 n2)
    have K0 : ∀ (w : World) (c : base.Mon w), Calls Tryd.prog 28 #[.int .i64 t, .int .i64 0] w fun e w' => e = .returned (.int .i64 t) ∧ w = w' := fun w c => by
      have := monthsOn.impl_yes t 0 y m d w c hd (by omega) (by omega)
      rw [hz] at this; exact this
    have H0 := Lib.hid K0
    have G2 := Lib.hid g2
    have HD := Lib.hid hd
    have HX := Lib.hid hD
    have lo := res_lo y m d n
    have h0 : 0 ≤ monthsOn.res y m d n := by omega
    have hy := hd.1.1
    have hy2 := hd.1.2.1
    have hm1 := hd.1.2.2.1
    have hm2 := hd.1.2.2.2.1
    have hY1 := hD.1.1
    have hY2 := hD.1.2.1
    have hM1 := hD.1.2.2.1
    have hM2 := hD.1.2.2.2.1
    have hl := cal.mlen_bd y m
    have hd5 := hd.1.2.2.2.2.1
    have hd6 := hd.1.2.2.2.2.2.1
    have hl2 := cal.mlen_bd Y M
    have hD5 := hD.1.2.2.2.2.1
    have hD6 := hD.1.2.2.2.2.2.1
    have d31 : d ≤ 31 := by omega
    have D31 : D ≤ 31 := by omega
    generalize monthsOn.res y m d n = x at *
    clear hx eY eM eD hz K0 g2 hd hD hl hl2 hd6 hD6
    obtain ⟨lo1, lo2⟩ := lo
    have nx1 : -1 ≤ nx := by omega
    have nx2 : nx ≤ 200000 := by omega
    have t0 : decide (x < 0) = false := by simp; omega
    have t1 : (12 * Y + M == 12 * y + m + n) = true := by simp; omega
    have tt : (t == t) = true := by simp
    clear f1
    go_wp2_with fail
    refine (K1.out w1 C1.out).mono ?_
    rintro e w' ⟨rfl, rfl⟩
    go_wp2_with fail
    refine (K2.out w1 C1.out).mono ?_
    rintro e w2 ⟨rfl, b2⟩
    have B2 := Lib.hid (B1.out.trans (b2.mono B1.out.size))
    have C2 := Lib.hid (draw.mon_below C1.out b2)
    clear b2
    go_wp2_with fail
    refine (dateOf.impl t y m d w2 C2.out HD.out).mono ?_
    rintro e w' ⟨rfl, rfl⟩
    go_wp2_with fail
    refine (dateOf.impl x Y M D w2 C2.out HX.out).mono ?_
    rintro e w' ⟨rfl, rfl⟩
    go_wp2_with fail
    refine (G2.out w2 C2.out).mono ?_
    rintro e w' ⟨rfl, rfl⟩
    go_wp2_with fail
    refine (H0.out w2 C2.out).mono ?_
    rintro e w' ⟨rfl, rfl⟩
    iterate 4 (first | go_values | go_skip | go_guarded | go_step | go_upon | go_in | go_back | (go_values <;> (try go_simp)) | go_simp)
    simp only [List.append_eq, List.cons_append, List.nil_append]
    by_cases hDd : D = d
    · skip
      by_cases hnx : nx < 0
      · by_cases h12 : n % 12 = 0
        · skip
          have q1 : (D == d) = true := by simp; omega
          have q4 : decide (nx < 0) = true := by simp; omega
          have q7 : (n % 12 != 0) = false := by simp; omega
          clear hDd hnx h12 f2 f3 g1
          go_wp2
          go_ret
          exact ⟨rfl, B2.out⟩
        · skip
          have q1 : (D == d) = true := by simp; omega
          have q4 : decide (nx < 0) = true := by simp; omega
          have q7 : (n % 12 != 0) = true := by simp; omega
          clear hDd hnx h12 f2 f3 g1
          go_wp2
          go_ret
          exact ⟨rfl, B2.out⟩
      · by_cases h12 : n % 12 = 0
        · skip
          have q1 : (D == d) = true := by simp; omega
          have q4 : decide (nx < 0) = false := by simp; omega
          have q5 : decide (x < nx) = true := by simp; omega
          have q6 : decide (nx - x ≤ 31) = true := by simp; omega
          have q7 : (n % 12 != 0) = false := by simp; omega
          clear hDd hnx h12 f2 f3 g1
          go_wp2
          go_ret
          exact ⟨rfl, B2.out⟩
        · skip
          have q1 : (D == d) = true := by simp; omega
          have q4 : decide (nx < 0) = false := by simp; omega
          have q5 : decide (x < nx) = true := by simp; omega
          have q6 : decide (nx - x ≤ 31) = true := by simp; omega
          have q7 : (n % 12 != 0) = true := by simp; omega
          clear hDd hnx h12 f2 f3 g1
          go_wp2
          go_ret
          exact ⟨rfl, B2.out⟩
    · skip
      by_cases hnx : nx < 0
      · by_cases h12 : n % 12 = 0
        · skip
          have q1 : (D == d) = false := by simp; omega
          have q2 : decide (D < d) = true := by simp; omega
          have q3 : decide (28 ≤ D) = true := by simp; omega
          have q4 : decide (nx < 0) = true := by simp; omega
          have q7 : (n % 12 != 0) = false := by simp; omega
          have q8 : (m == 2) = true := by simp; omega
          have q9 : (d == 29) = true := by simp; omega
          clear hDd hnx h12 f2 f3 g1
          go_wp2
          go_ret
          exact ⟨rfl, B2.out⟩
        · skip
          have q1 : (D == d) = false := by simp; omega
          have q2 : decide (D < d) = true := by simp; omega
          have q3 : decide (28 ≤ D) = true := by simp; omega
          have q4 : decide (nx < 0) = true := by simp; omega
          have q7 : (n % 12 != 0) = true := by simp; omega
          clear hDd hnx h12 f2 f3 g1
          go_wp2
          go_ret
          exact ⟨rfl, B2.out⟩
      · by_cases h12 : n % 12 = 0
        · skip
          have q1 : (D == d) = false := by simp; omega
          have q2 : decide (D < d) = true := by simp; omega
          have q3 : decide (28 ≤ D) = true := by simp; omega
          have q4 : decide (nx < 0) = false := by simp; omega
          have q5 : decide (x < nx) = true := by simp; omega
          have q6 : decide (nx - x ≤ 31) = true := by simp; omega
          have q7 : (n % 12 != 0) = false := by simp; omega
          have q8 : (m == 2) = true := by simp; omega
          have q9 : (d == 29) = true := by simp; omega
          clear hDd hnx h12 f2 f3 g1
          go_wp2
          go_ret
          exact ⟨rfl, B2.out⟩
        · skip
          have q1 : (D == d) = false := by simp; omega
          have q2 : decide (D < d) = true := by simp; omega
          have q3 : decide (28 ≤ D) = true := by simp; omega
          have q4 : decide (nx < 0) = false := by simp; omega
          have q5 : decide (x < nx) = true := by simp; omega
          have q6 : decide (nx - x ≤ 31) = true := by simp; omega
          have q7 : (n % 12 != 0) = true := by simp; omega
          clear hDd hnx h12 f2 f3 g1
          go_wp2
          go_ret
          exact ⟨rfl, B2.out⟩

theorem walk (a : Option Addr) (len cap : Nat) (w : World) (hl : len ≤ maxLen) (hB : draw.Bytes w a len) (c : base.Mon w) : Calls Tryd.prog 6 #[.slice a len cap] w fun e w' => e = .returned (.bool true) ∧ Below w.heap.size w w' := by
  by_cases hb : len ≤ 1048576
  · exact walk_small a len cap w hb hB c
  · exact walk_big a len cap w hl (by omega)

theorem isLaw : lift.IsLaw Rows.fnMonthsSpec 1 1 := fun _ ds gs h1 h2 => match ds, h1 with | [_], _ => match gs, h2 with | [_], _ => rfl

theorem laid_met (os : Os) : laidMetH Tryd.prog Rows.fnMonthsRow.laid ((World.doorLaid Tryd.prog 400 os).forCall (fun _ _ => 0) ⟨#[], #[.slice none 0 0], []⟩).memory :=
  laidMetH_of_parts3 (fuel := 8) (laidMet_of_run' 8 (by kernel_rfl) (by kernel_rfl)) (by kernel_rfl) (by kernel_rfl)

theorem reads (os : Os) {H : Type} (enc : TypeId × Value → H) : ∃ gs places, DataW.whole enc Tryd.prog ((World.doorLaid Tryd.prog 400 os).forCall (fun _ _ => 0) ⟨#[], #[.slice none 0 0], []⟩).memory Tryd.f6.params.toList Rows.fnMonthsSpec.vars false (#[.slice none 0 0] : Array Value).toList 8 = some ([.nil], gs, places) :=
  ⟨[Rows.laid_loop_example_g00714_impl_monthLengths], MemPlace.row ⟨0, 0, none⟩ 12, by kernel_rfl⟩

set_option maxRecDepth 100000 in
theorem lifted (os : Os) (started : os.Started) (H : Type) (enc : TypeId × Value → H) (F : Stop.Interp) :
    ReturnsInHanded {} Tryd.checked os 6 .any ((OpenSpec.ofChange Rows.fnMonthsSpec).preRow enc Tryd.prog Tryd.f6 [] false Rows.fnMonthsRow.laid) (((OpenSpec.ofChange Rows.fnMonthsSpec).at F).post enc Tryd.prog Tryd.f6 false true false false) := by
  obtain ⟨gs, places, hx⟩ := reads os enc
  refine lift.law_lift (C := Tryd.checked) (tb := 4) base.own started (by kernel_rfl) Tryd.func6 base.laidOut (by kernel_rfl) (by kernel_rfl) (by kernel_rfl) Tryd.underlying4 (by rw [Tryd.params6]; exact isLaw)
    (witness_row_at (enc := enc) (C := Tryd.checked) false (World.doorLaid Tryd.prog 400 os) #[.slice none 0 0] rfl (by kernel_rfl) (by kernel_rfl) (by kernel_rfl)
      (OpenSpec.preRow_of_cond 8 hx (by kernel_rfl) (fun k hk => by cases hk) (by kernel_rfl) (laid_met os))) ?_
  intro W b0 args ds p hval hA hL
  rw [Tryd.params6] at hA hval
  obtain ⟨v0, d0, rfl, rfl, h0⟩ := trodAll_one hA
  obtain ⟨a, len, cap, rfl, hlen, hB⟩ := draw.open_code Tryd.underlying22 Tryd.underlying5 (by kernel_rfl) (hval 0 22 v0 rfl rfl) h0
  exact walk a len cap W hlen hB (base.mon_one hL)

theorem said : Rows.FnMonthsSaid :=
  OpenClaim.holds_of_cond 6 Tryd.f6 rfl rfl rfl rfl rfl rfl rfl ⟨rfl, rfl, rfl, rfl, rfl⟩ rfl rfl rfl rfl rfl (by kernel_rfl) Tryd.func6 (by kernel_rfl)
    (of_decide_eq_true (by kernel_rfl)) (by unfold Func.isWrapper; first | (rw [if_pos (by decide +kernel)]; kernel_rfl) | (rw [if_neg (by decide +kernel)]; exact ⟨rfl, rfl⟩))
    (fun os started H enc _ F => by rw [OpenClaim.pre_eq_preRow]; exact lifted os started H enc F)

theorem plain (f : FuncId) (fn : Func) (hf : Tryd.pinned.checked.prog.funcNamed "loop.example/g00714/laws.FnMonths" = some f) (hfn : Tryd.pinned.checked.prog.funcs[f]? = some fn) :
    false = Tryd.pinned.checked.prog.looks [] ∧ ∀ (j : Nat) t, fn.params[j]? = some t → Tryd.pinned.checked.prog.wantsStandIn t = false := by
  obtain rfl : f = 6 := Option.some.inj ((show Tryd.prog.funcNamed "loop.example/g00714/laws.FnMonths" = some 6 by kernel_rfl).symm.trans hf) |>.symm
  obtain rfl : fn = Tryd.f6 := (Option.some.inj (Tryd.func6.symm.trans hfn)).symm
  refine ⟨by kernel_rfl, fun j t ht => ?_⟩
  rw [Tryd.params6] at ht
  have hm : t ∈ [22] := by simpa using Array.mem_of_getElem? ht
  have hall : ([22].all fun u => !Tryd.prog.wantsStandIn u) = true := by kernel_rfl
  exact (show Tryd.prog.wantsStandIn t = false by simpa using List.all_eq_true.1 hall t hm)

theorem card : Rows.FnMonthsCardSaid :=
  Claim7.holds_tied_plain_at .later [] _ _ _ _ said (fun _ h => by cases h) (by kernel_rfl) (fun _ h => by cases h) fnMonths_row_tie rfl ⟨rfl, rfl⟩ (by kernel_rfl) rfl plain (by kernel_rfl)
#print axioms card
end Go.Proofs.YtlpeadkkkmpccabDoor.fnMonths
