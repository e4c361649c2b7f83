/-
  Proved: for every code, the sums of the drawn plan are those of its first Parts and of the others together; the law laws.FnSums returns true and its arguments read as before. Conditions: none beyond the given row.
-/
import Derived.Test.YtmnmijiikjpdnaaDrS
import Derived.Test.YtmnmijiikjpdnaaSmS
import Derived.Test.YtmnmijiikjpdnaaSmI
import Derived.Test.YtmnmijiikjpdnaaPkS
import Derived.Test.YtmnmijiikjpdnaaPkI
import Derived.Test.YtmnmijiikjpdnaaLn7
import Derived.Carry
import Derived.Deep.RegionHeld3
namespace Go.Proofs.Ytmnmijiikjpdnaa.fnSums
open Go.ChangeShapes Go.WideShapes Go.ChangeAt Go.RowKit


theorem walk_big (a : Option Addr) (len cap : Nat) (w : World) (hl : len ≤ maxLen) (hb : 1048576 < len) : Calls Try.prog 10 #[.slice a len cap] w fun e w' => e = .returned (.bool true) ∧ Below w.heap.size w w' := by
  go_enter Try.func10, Try.ntmps10
  go_wp2_with fail
  refine (draw.bigT a len cap w hb hl).mono ?_
  rintro e w' ⟨rfl, rfl⟩
  go_wp2
  go_ret
  exact ⟨rfl, Below.refl _ _⟩

set_option maxRecDepth 100000 in
set_option maxHeartbeats 8000000 in
theorem walk_small (a : Option Addr) (cap len : Nat) (w : World) (hB : draw.Bytes w a len) (hn : len ≤ 1048576) : Calls Try.prog 10 #[.slice a len cap] w fun e w' => e = .returned (.bool true) ∧ Below w.heap.size w w' := by
  have HB := Lib.hid hB
  clear hB
  go_enter Try.func10, Try.ntmps10
  go_wp2_with fail
  refine (draw.bigF a len cap w hn).mono ?_
  rintro e w' ⟨rfl, rfl⟩
  go_wp2_with fail
  refine (base.drawSums a len cap w HB.out hn).mono ?_
  rintro e w1 ⟨cl, g, l, rfl, rl, lo, hi, p1, p24, b1⟩
  have RL := Lib.hid rl
  have BB := Lib.hid b1
  clear rl b1 HB
  obtain ⟨L, hL⟩ : ∃ L, L = l.length := ⟨_, rfl⟩
  have HL := Lib.hid hL
  have CA := fun w0 c g r => base.smI w0 (some ⟨g, 0, none⟩) c g l r (by omega)
  have CSS := fun w0 c g r => base.smS w0 (some ⟨g, 0, none⟩) c g l r (by omega)
  have CPS := fun w0 c g r => base.pkS w0 (some ⟨g, 0, none⟩) c g l r (by omega)
  have rmL := RL.out.room
  obtain ⟨S, hS⟩ : ∃ S, S = pl.sums l := ⟨_, rfl⟩
  rw [← hS] at CA CSS
  have HS := Lib.hid hS
  clear hS
  obtain ⟨s0, s1, s2, s3, s4, s5, s6⟩ := S
  dsimp only at CA CSS
  rw [← hL] at CA CSS CPS p1 p24 rmL ⊢
  clear hL
  have CAh := Lib.hid CA
  have CSSh := Lib.hid CSS
  have CPSh := Lib.hid CPS
  clear CA CSS CPS
  go_wp2_with fail
  refine (CAh.out w1 _ g RL.out).mono ?_
  rintro e w2 ⟨rfl, bb⟩
  replace BB := Lib.hid (BB.out.trans (bb.mono BB.out.size))
  have z2 := bb.size
  replace RL := Lib.hid (RL.out.keep (w' := w2) fun h => bb.block g (by omega))
  clear bb
  have XS := Lib.hid (base.Bx.new w2 (s0, s1, s2, s3, s4, s5, s6))
  have zbbs : (w2.alloc (.cells #[.int .i64 s0, .int .i64 s1, .int .i64 s2, .int .i64 s3, .int .i64 s4, .int .i64 s5, .int .i64 s6] 26)).heap.size = w2.heap.size + 1 := by simp
  have al := fun k hk => Below.heap_alloc w2 (.cells #[.int .i64 s0, .int .i64 s1, .int .i64 s2, .int .i64 s3, .int .i64 s4, .int .i64 s5, .int .i64 s6] 26) k hk
  replace RL := Lib.hid (RL.out.keep (w' := w2.alloc (.cells #[.int .i64 s0, .int .i64 s1, .int .i64 s2, .int .i64 s3, .int .i64 s4, .int .i64 s5, .int .i64 s6] 26)) fun h => al g (by omega))
  replace BB := Lib.hid (BB.out.alloc BB.out.size (.cells #[.int .i64 s0, .int .i64 s1, .int .i64 s2, .int .i64 s3, .int .i64 s4, .int .i64 s5, .int .i64 s6] 26))
  clear al
  go_wp2_with fail
  obtain ⟨bs, hbs⟩ : ∃ bs, bs = w2.heap.size := ⟨_, rfl⟩
  rw [← hbs] at XS zbbs ⊢
  generalize w2.alloc (.cells #[.int .i64 s0, .int .i64 s1, .int .i64 s2, .int .i64 s3, .int .i64 s4, .int .i64 s5, .int .i64 s6] 26) = Wbs at XS BB zbbs RL ⊢
  have lbs : bs < Wbs.heap.size := by omega
  have mbs : w2.heap.size ≤ bs := by omega
  clear hbs
  cases hv : pl.pv l with
  | false =>
    rw [hv] at CPSh
    clear hv HS
    have KS := Lib.hid (show ∀ w', Below Wbs.heap.size Wbs w' → w'.cell? ⟨bs, 0, none⟩ = some (.int .i64 s0) ∧ w'.cell? ⟨bs, 1, none⟩ = some (.int .i64 s1) ∧ w'.cell? ⟨bs, 2, none⟩ = some (.int .i64 s2) ∧ w'.cell? ⟨bs, 3, none⟩ = some (.int .i64 s3) ∧ w'.cell? ⟨bs, 4, none⟩ = some (.int .i64 s4) ∧ w'.cell? ⟨bs, 5, none⟩ = some (.int .i64 s5) ∧ w'.cell? ⟨bs, 6, none⟩ = some (.int .i64 s6) from fun w' hb => by
      obtain ⟨q0, q1, q2, q3, q4, q5, q6⟩ := (XS.out.keep (w' := w') (hb.block bs (by omega))).at_
      simp only [Nat.zero_add] at q0 q1 q2 q3 q4 q5 q6
      exact ⟨q0, q1, q2, q3, q4, q5, q6⟩)
    have KRL := Lib.hid (show ∀ w', Below Wbs.heap.size Wbs w' → seven.Row w' (some ⟨g, 0, none⟩) cl g l from fun w' hb => RL.out.keep fun h => hb.block g (by omega))
    have T0 := Lib.hid (show Below Wbs.heap.size Wbs Wbs.drew from (Below.refl _ _).drew)
    go_region_held3 (fun w' => w'.cell? ⟨bs, 0, none⟩ = some (.int .i64 s0) ∧ w'.cell? ⟨bs, 1, none⟩ = some (.int .i64 s1) ∧ w'.cell? ⟨bs, 2, none⟩ = some (.int .i64 s2) ∧ w'.cell? ⟨bs, 3, none⟩ = some (.int .i64 s3) ∧ w'.cell? ⟨bs, 4, none⟩ = some (.int .i64 s4) ∧ w'.cell? ⟨bs, 5, none⟩ = some (.int .i64 s5) ∧ w'.cell? ⟨bs, 6, none⟩ = some (.int .i64 s6)) (first | exact KS.out _ T2.out | exact KS.out _ T1.out | exact KS.out _ T0.out | go_keep)
      (first
        | (go_at_call 24; have tk := T1.out; refine (CPSh.out _ _ g (KRL.out _ T1.out)).mono ?_; rintro e wT2 ⟨rfl, bk⟩; have T2 := Lib.hid (T1.out.trans (bk.mono T1.out.size)); clear bk tk)
        | (go_at_call 41; have tk := T0.out; refine (CSSh.out _ _ g (KRL.out _ T0.out)).mono ?_; rintro e wT1 ⟨rfl, bk⟩; have T1 := Lib.hid (T0.out.trans (bk.mono T0.out.size)); clear bk tk))
    all_goals
      have U0 := Lib.hid (show Below Wbs.heap.size Wbs wT2.drew from T2.out.drew)
      go_wp2_with fail
      go_region_held3 (fun w' => w'.cell? ⟨bs, 0, none⟩ = some (.int .i64 s0) ∧ w'.cell? ⟨bs, 1, none⟩ = some (.int .i64 s1) ∧ w'.cell? ⟨bs, 2, none⟩ = some (.int .i64 s2) ∧ w'.cell? ⟨bs, 3, none⟩ = some (.int .i64 s3) ∧ w'.cell? ⟨bs, 4, none⟩ = some (.int .i64 s4) ∧ w'.cell? ⟨bs, 5, none⟩ = some (.int .i64 s5) ∧ w'.cell? ⟨bs, 6, none⟩ = some (.int .i64 s6)) (first | exact KS.out _ U1.out | exact KS.out _ U0.out | go_keep)
        (first
          | (go_at_call 41; have tk := U0.out; refine (CSSh.out _ _ g (KRL.out _ U0.out)).mono ?_; rintro e wU1 ⟨rfl, bk⟩; have U1 := Lib.hid (U0.out.trans (bk.mono U0.out.size)); clear bk tk))
      all_goals
        go_wp2
        go_ret
        exact ⟨rfl, BB.out.trans (U1.out.mono BB.out.size)⟩
  | true =>
    rw [hv] at CPSh
    have PV := Lib.hid (pl.pv_iff.1 hv)
    clear hv
    have KS := Lib.hid (show ∀ w', Below Wbs.heap.size Wbs w' → w'.cell? ⟨bs, 0, none⟩ = some (.int .i64 s0) ∧ w'.cell? ⟨bs, 1, none⟩ = some (.int .i64 s1) ∧ w'.cell? ⟨bs, 2, none⟩ = some (.int .i64 s2) ∧ w'.cell? ⟨bs, 3, none⟩ = some (.int .i64 s3) ∧ w'.cell? ⟨bs, 4, none⟩ = some (.int .i64 s4) ∧ w'.cell? ⟨bs, 5, none⟩ = some (.int .i64 s5) ∧ w'.cell? ⟨bs, 6, none⟩ = some (.int .i64 s6) from fun w' hb => by
      obtain ⟨q0, q1, q2, q3, q4, q5, q6⟩ := (XS.out.keep (w' := w') (hb.block bs (by omega))).at_
      simp only [Nat.zero_add] at q0 q1 q2 q3 q4 q5 q6
      exact ⟨q0, q1, q2, q3, q4, q5, q6⟩)
    have KRL := Lib.hid (show ∀ w', Below Wbs.heap.size Wbs w' → seven.Row w' (some ⟨g, 0, none⟩) cl g l from fun w' hb => RL.out.keep fun h => hb.block g (by omega))
    have T0 := Lib.hid (show Below Wbs.heap.size Wbs Wbs.drew from (Below.refl _ _).drew)
    go_region_held3 (fun w' => w'.cell? ⟨bs, 0, none⟩ = some (.int .i64 s0) ∧ w'.cell? ⟨bs, 1, none⟩ = some (.int .i64 s1) ∧ w'.cell? ⟨bs, 2, none⟩ = some (.int .i64 s2) ∧ w'.cell? ⟨bs, 3, none⟩ = some (.int .i64 s3) ∧ w'.cell? ⟨bs, 4, none⟩ = some (.int .i64 s4) ∧ w'.cell? ⟨bs, 5, none⟩ = some (.int .i64 s5) ∧ w'.cell? ⟨bs, 6, none⟩ = some (.int .i64 s6)) (first | exact KS.out _ T2.out | exact KS.out _ T1.out | exact KS.out _ T0.out | go_keep)
      (first
        | (go_at_call 24; have tk := T1.out; refine (CPSh.out _ _ g (KRL.out _ T1.out)).mono ?_; rintro e wT2 ⟨rfl, bk⟩; have T2 := Lib.hid (T1.out.trans (bk.mono T1.out.size)); clear bk tk)
        | (go_at_call 41; have tk := T0.out; refine (CSSh.out _ _ g (KRL.out _ T0.out)).mono ?_; rintro e wT1 ⟨rfl, bk⟩; have T1 := Lib.hid (T0.out.trans (bk.mono T0.out.size)); clear bk tk))
    all_goals
      have RLx := Lib.hid (KRL.out _ T2.out)
      have XSx := Lib.hid (XS.out.keep (w' := wT2) (T2.out.block bs (by omega)))
      replace BB := Lib.hid (BB.out.trans (T2.out.mono BB.out.size))
      have zT := T2.out.size
      clear KS KRL T0 T1 T2 RL XS CSSh CPSh
      obtain ⟨h, hh⟩ : ∃ h, h = L / 2 := ⟨_, rfl⟩
      have h0 : h ≤ L := by omega
      have k1 : (L : Int).tdiv 2 = (h : Int) := by rw [Int.tdiv_eq_ediv_of_nonneg (by omega)]; omega
      have k2 : (L : Int) / 2 = (h : Int) := by omega
      have k3 : (h : Int) ≤ (L : Int) := by omega
      have k4 : (h : Int) ≤ (cl : Int) := by omega
      have h0' : h ≤ l.length := by rw [← HL.out]; exact h0
      have PT := base.take_pv PV.out h0'
      have PD := base.drop_pv PV.out h0'
      have CT := fun w0 (r : seven.Row w0 (some ⟨g, 0, none⟩) cl g l) => base.smI w0 (some ⟨g, 0, none⟩) cl g (l.take h) (base.take_row r h0') (by rw [List.length_take]; omega)
      have CD := fun w0 (r : seven.Row w0 (some ⟨g, 0, none⟩) cl g l) => base.smO w0 (cl - h) g (h * 7) (l.drop h) (base.drop_row r h0') (by rw [List.length_drop, ← HL.out]; omega)
      rw [show (l.take h).length = h from by rw [List.length_take]; omega] at CT
      rw [show (l.drop h).length = L - h from by rw [List.length_drop, ← HL.out]] at CD
      have SMT := base.sml_sums PT
      have SMD := base.sml_sums PD
      have ST := base.sums_tot PT
      have SD := base.sums_tot PD
      have SL := HS.out.trans (base.sums_tot PV.out)
      rw [base.tot_cut base.fP l h, base.tot_cut base.fI l h, base.tot_cut base.fF l h, base.tot_cut base.fp l h, base.tot_cut base.fi l h, base.tot_cut base.ff l h] at SL
      rw [ST] at CT SMT
      rw [SD] at CD SMD
      generalize base.tot base.fP (l.take h) = a1 at *
      generalize base.tot base.fI (l.take h) = a2 at *
      generalize base.tot base.fF (l.take h) = a3 at *
      generalize base.tot base.fp (l.take h) = a4 at *
      generalize base.tot base.fi (l.take h) = a5 at *
      generalize base.tot base.ff (l.take h) = a6 at *
      generalize base.tot base.fP (l.drop h) = b1 at *
      generalize base.tot base.fI (l.drop h) = b2 at *
      generalize base.tot base.fF (l.drop h) = b3 at *
      generalize base.tot base.fp (l.drop h) = b4 at *
      generalize base.tot base.fi (l.drop h) = b5 at *
      generalize base.tot base.ff (l.drop h) = b6 at *
      simp only [Prod.mk.injEq] at SL
      obtain ⟨rfl, rfl, rfl, rfl, rfl, rfl, rfl⟩ := SL
      have CTh := Lib.hid CT
      have CDh := Lib.hid CD
      obtain ⟨A1, A2, A3, A4, A5, A6, A7, A8, A9, A10, A11, A12⟩ := SMT
      obtain ⟨B1, B2, B3, B4, B5, B6, B7, B8, B9, B10, B11, B12⟩ := SMD
      dsimp only at A1 A2 A3 A4 A5 A6 A7 A8 A9 A10 A11 A12 B1 B2 B3 B4 B5 B6 B7 B8 B9 B10 B11 B12
      clear CT CD ST SD PT PD HS hh h0'
      go_wp2_with fail
      refine (CTh.out wT2 RLx.out).mono ?_
      rintro e w21 ⟨rfl, bb⟩
      replace BB := Lib.hid (BB.out.trans (bb.mono BB.out.size))
      have z21 := bb.size
      replace RLx := Lib.hid (RLx.out.keep (w' := w21) fun h => bb.block g (by omega))
      replace XSx := Lib.hid (XSx.out.keep (w' := w21) (bb.block bs (by omega)))
      clear bb
      have XT := Lib.hid (base.Bx.new w21 (0, a1, a2, a3, a4, a5, a6))
      have zbbt : (w21.alloc (.cells #[.int .i64 0, .int .i64 a1, .int .i64 a2, .int .i64 a3, .int .i64 a4, .int .i64 a5, .int .i64 a6] 26)).heap.size = w21.heap.size + 1 := by simp
      have al := fun k hk => Below.heap_alloc w21 (.cells #[.int .i64 0, .int .i64 a1, .int .i64 a2, .int .i64 a3, .int .i64 a4, .int .i64 a5, .int .i64 a6] 26) k hk
      replace RLx := Lib.hid (RLx.out.keep (w' := w21.alloc (.cells #[.int .i64 0, .int .i64 a1, .int .i64 a2, .int .i64 a3, .int .i64 a4, .int .i64 a5, .int .i64 a6] 26)) fun h => al g (by omega))
      replace XSx := Lib.hid (XSx.out.keep (w' := w21.alloc (.cells #[.int .i64 0, .int .i64 a1, .int .i64 a2, .int .i64 a3, .int .i64 a4, .int .i64 a5, .int .i64 a6] 26)) (al bs (by omega)))
      replace BB := Lib.hid (BB.out.alloc BB.out.size (.cells #[.int .i64 0, .int .i64 a1, .int .i64 a2, .int .i64 a3, .int .i64 a4, .int .i64 a5, .int .i64 a6] 26))
      clear al
      go_wp2_with fail
      obtain ⟨bt, hbt⟩ : ∃ bt, bt = w21.heap.size := ⟨_, rfl⟩
      rw [← hbt] at XT zbbt ⊢
      generalize w21.alloc (.cells #[.int .i64 0, .int .i64 a1, .int .i64 a2, .int .i64 a3, .int .i64 a4, .int .i64 a5, .int .i64 a6] 26) = Wbt at XT BB zbbt RLx XSx ⊢
      have lbt : bt < Wbt.heap.size := by omega
      have mbt : w21.heap.size ≤ bt := by omega
      clear hbt
      refine (CDh.out Wbt RLx.out).mono ?_
      rintro e w22 ⟨rfl, bb⟩
      replace BB := Lib.hid (BB.out.trans (bb.mono BB.out.size))
      have z22 := bb.size
      replace RLx := Lib.hid (RLx.out.keep (w' := w22) fun h => bb.block g (by omega))
      replace XSx := Lib.hid (XSx.out.keep (w' := w22) (bb.block bs (by omega)))
      replace XT := Lib.hid (XT.out.keep (w' := w22) (bb.block bt (by omega)))
      clear bb
      have XD := Lib.hid (base.Bx.new w22 (0, b1, b2, b3, b4, b5, b6))
      have al := fun k hk => Below.heap_alloc w22 (.cells #[.int .i64 0, .int .i64 b1, .int .i64 b2, .int .i64 b3, .int .i64 b4, .int .i64 b5, .int .i64 b6] 26) k hk
      replace XSx := Lib.hid (XSx.out.keep (w' := w22.alloc (.cells #[.int .i64 0, .int .i64 b1, .int .i64 b2, .int .i64 b3, .int .i64 b4, .int .i64 b5, .int .i64 b6] 26)) (al bs (by omega)))
      replace XT := Lib.hid (XT.out.keep (w' := w22.alloc (.cells #[.int .i64 0, .int .i64 b1, .int .i64 b2, .int .i64 b3, .int .i64 b4, .int .i64 b5, .int .i64 b6] 26)) (al bt (by omega)))
      replace BB := Lib.hid (BB.out.alloc BB.out.size (.cells #[.int .i64 0, .int .i64 b1, .int .i64 b2, .int .i64 b3, .int .i64 b4, .int .i64 b5, .int .i64 b6] 26))
      clear al
      obtain ⟨q0, q1, q2, q3, q4, q5, q6⟩ := XSx.out.at_
      obtain ⟨r0, r1, r2, r3, r4, r5, r6⟩ := XT.out.at_
      obtain ⟨y0, y1, y2, y3, y4, y5, y6⟩ := XD.out.at_
      simp only [Nat.zero_add] at q0 q1 q2 q3 q4 q5 q6 r0 r1 r2 r3 r4 r5 r6 y0 y1 y2 y3 y4 y5 y6
      go_wp2
      go_ret
      exact ⟨rfl, BB.out⟩

theorem own : ownKnob Try.prog.godebug = none := by kernel_rfl
theorem laidOut : laidOutB Try.prog = true := by kernel_rfl
theorem isLaw : lift.IsLaw Rows.fnSumsSpec 1 0 := fun _ ds gs h1 h2 => match ds, h1 with | [_], _ => match gs, h2 with | [], _ => rfl

set_option maxRecDepth 100000 in
theorem lifted (os : Os) (started : os.Started) (H : Type) (enc : TypeId × Value → H) :
    ReturnsInHanded {} Try.checked os 10 .any (Rows.fnSumsSpec.pre6 enc Try.prog Try.f10 Rows.fnSumsRow.domain false) (Rows.fnSumsSpec.post enc Try.prog Try.f10 false true false false) := by
  refine returnsInHanded_of_change (C := Try.checked) own started (by kernel_rfl) Try.func10
    (ChangeSpec.witness6 (enc := enc) (C := Try.checked) false ⟨#[], #[.slice none 0 0], []⟩ 8 (by kernel_rfl) (by kernel_rfl) (by kernel_rfl) (by kernel_rfl)) ?_
  intro W base args ds gs before hval0 hW _ _
  have hval : ∀ (j : Nat) t v, Try.f10.params[j]? = some t → args[j]? = some v → Value.okWide Try.prog W .any base t v := hval0
  have hW' := hW
  obtain ⟨p, q, hA0, hV, hrest⟩ := hW
  have hA : DataW.TrodAll enc Try.prog W 0 (fun _ => true) true Try.f10.params.toList args.toList ds p := hA0
  clear hA0 hval0 hV hrest
  rw [Try.params10] at hA hval
  obtain ⟨v0, d0, rfl, rfl, h0⟩ := trodAll_one hA
  obtain ⟨a, len, cap, rfl, hlen, hB⟩ := draw.open_code Try.underlying34 Try.underlying5 (by kernel_rfl) (hval 0 34 v0 rfl rfl) h0
  have wk : Calls Try.prog 10 #[.slice a len cap] W fun e w' => e = .returned (.bool true) ∧ Below W.heap.size W w' := by
    by_cases hb : len ≤ 1048576
    · exact walk_small a cap len W hB hb
    · exact walk_big a len cap W hlen (by omega)
  refine (wk).mono fun e W' ⟨he, hb⟩ => ?_
  subst he
  exact ⟨_, rfl, lift.law_post laidOut (by kernel_rfl) (by kernel_rfl) (by kernel_rfl) Try.underlying4 (by rw [Try.params10]; exact isLaw) hW' hb⟩

theorem over : Rows.fnSumsRow.holds Try.pinned (OpenSpec.ofChange Rows.fnSumsSpec) :=
  OpenClaim.holds_of_wide 10 Try.f10 rfl rfl rfl rfl rfl rfl rfl ⟨rfl, rfl, rfl, rfl, rfl⟩ rfl rfl rfl rfl rfl (by kernel_rfl) Try.func10 (by kernel_rfl)
    (of_decide_eq_true (by kernel_rfl)) (by unfold Func.isWrapper; first | (rw [if_pos (by decide +kernel)]; kernel_rfl) | (rw [if_neg (by decide +kernel)]; exact ⟨rfl, rfl⟩))
    (fun os started H enc _ => lifted os started H enc)

theorem proved : Rows.FnSumsSaid := over
#print axioms proved
end Go.Proofs.Ytmnmijiikjpdnaa.fnSums
