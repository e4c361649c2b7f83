/-
  Plain helpers of this seat's proofs: the contracts of the two conversions. Conditions: none.
-/
import Derived.Test.YtnkdjnfbllkgiabOnI
import Derived.Test.YtnkdjnfbllkgiabMd2
namespace Go.Proofs.Ytnkdjnfbllkgiab.base
open Go.ChangeShapes Go.WideShapes Go.ChangeAt Go.RowKit
open led (F5 z5)
open five (Row At)

/-- What a conversion answers where there is a rate. -/
def cvo (n : Int) : Option F5 → Int × Bool
  | none => (0, false)
  | some x => (md.val n x.2.2.2.1 x.2.2.2.2, md.ok n x.2.2.2.1 x.2.2.2.2)
noncomputable def cvt (l : List F5) (n f t d : Int) : Int × Bool := if (led.lv l && led.amt n && led.cur f && led.cur t) = true then (if f = t then (n, true) else cvo n (ron l f t d)) else (0, false)
theorem cvt_no (l : List F5) (n f t d : Int) (h : (led.lv l && led.amt n && led.cur f && led.cur t) = false) : cvt l n f t d = (0, false) := by unfold cvt; rw [if_neg (by rw [h]; decide)]
theorem cvt_yes (l : List F5) (n f t d : Int) (h : (led.lv l && led.amt n && led.cur f && led.cur t) = true) : cvt l n f t d = if f = t then (n, true) else cvo n (ron l f t d) := by unfold cvt; rw [if_pos h]

set_option maxRecDepth 40000 in
set_option maxHeartbeats 4000000 in
theorem cvS (w : World) (a : Option Addr) (cap g : Nat) (l : List F5) (n f t d : Int) (r : Row w a cap g l) (hn : l.length ≤ 1048577) : Calls Try.prog 26 #[.slice a l.length cap, .int .i64 n, .int .i64 f, .int .i64 t, .int .i64 d] w (fun e w' => e = .returned (.tuple #[.int .i64 (cvt l n f t d).1, .bool (cvt l n f t d).2]) ∧ Below w.heap.size w w') := by
  have R := Lib.hid r
  have HN := Lib.hid hn
  have CR := Lib.hid (rsS w a cap g l r hn)
  have CA := amtS n
  have CF := curS f
  have CT := curS t
  clear r hn
  cases h1 : led.lv l with
  | false =>
    rw [h1] at CR
    have NO := Lib.hid (cvt_no l n f t d (by rw [h1]; rfl))
    clear h1 CA CF CT
    go_enter Try.func26, Try.ntmps26
    go_wp2_with fail
    refine CR.out.mono ?_
    rintro e w1 ⟨rfl, b1⟩
    have B1 := Lib.hid b1
    clear b1
    go_wp2
    go_ret2
    exact ⟨by rw [NO.out]; rfl, B1.out⟩
  | true =>
    rw [h1] at CR
    cases h2 : led.inR n (-1000000000000) 1000000000000 with
    | false =>
      rw [h2] at CA
      have NO := Lib.hid (cvt_no l n f t d (by unfold led.amt; rw [h1, h2]; rfl))
      clear h1 h2 CF CT
      go_enter Try.func26, Try.ntmps26
      go_wp2_with fail
      refine CR.out.mono ?_
      rintro e w1 ⟨rfl, b1⟩
      have B1 := Lib.hid b1
      clear b1
      go_wp2_with fail
      refine (CA _).mono ?_
      rintro e w' ⟨rfl, rfl⟩
      go_wp2
      go_ret2
      exact ⟨by rw [NO.out]; rfl, B1.out⟩
    | true =>
      rw [h2] at CA
      cases h3 : led.inR f 0 5 with
      | false =>
        rw [h3] at CF
        have NO := Lib.hid (cvt_no l n f t d (by unfold led.amt led.cur; rw [h1, h2, h3]; rfl))
        clear h1 h2 h3 CT
        go_enter Try.func26, Try.ntmps26
        go_wp2_with fail
        refine CR.out.mono ?_
        rintro e w1 ⟨rfl, b1⟩
        have B1 := Lib.hid b1
        clear b1
        go_wp2_with fail
        refine (CA _).mono ?_
        rintro e w' ⟨rfl, rfl⟩
        go_wp2_with fail
        refine (CF _).mono ?_
        rintro e w' ⟨rfl, rfl⟩
        go_wp2
        go_ret2
        exact ⟨by rw [NO.out]; rfl, B1.out⟩
      | true =>
        rw [h3] at CF
        cases h4 : led.inR t 0 5 with
        | false =>
          rw [h4] at CT
          have NO := Lib.hid (cvt_no l n f t d (by unfold led.amt led.cur; rw [h1, h2, h3, h4]; rfl))
          clear h1 h2 h3 h4
          go_enter Try.func26, Try.ntmps26
          go_wp2_with fail
          refine CR.out.mono ?_
          rintro e w1 ⟨rfl, b1⟩
          have B1 := Lib.hid b1
          clear b1
          go_wp2_with fail
          refine (CA _).mono ?_
          rintro e w' ⟨rfl, rfl⟩
          go_wp2_with fail
          refine (CF _).mono ?_
          rintro e w' ⟨rfl, rfl⟩
          go_wp2_with fail
          refine (CT _).mono ?_
          rintro e w' ⟨rfl, rfl⟩
          go_wp2
          go_ret2
          exact ⟨by rw [NO.out]; rfl, B1.out⟩
        | true =>
          rw [h4] at CT
          have YES := Lib.hid (cvt_yes l n f t d (by unfold led.amt led.cur; rw [h1, h2, h3, h4]; rfl))
          clear h1 h2 h3 h4
          by_cases h5 : f = t
          · have E := Lib.hid (show cvt l n f t d = (n, true) from by rw [YES.out, if_pos h5])
            have t5 : (f == t) = true := by simp [h5]
            clear h5
            go_enter Try.func26, Try.ntmps26
            go_wp2_with fail
            refine CR.out.mono ?_
            rintro e w1 ⟨rfl, b1⟩
            have B1 := Lib.hid b1
            clear b1
            go_wp2_with fail
            refine (CA _).mono ?_
            rintro e w' ⟨rfl, rfl⟩
            go_wp2_with fail
            refine (CF _).mono ?_
            rintro e w' ⟨rfl, rfl⟩
            go_wp2_with fail
            refine (CT _).mono ?_
            rintro e w' ⟨rfl, rfl⟩
            go_wp2
            go_ret2
            exact ⟨by rw [E.out]; rfl, B1.out⟩
          · have E := Lib.hid (show cvt l n f t d = cvo n (ron l f t d) from by rw [YES.out, if_neg h5])
            have t5 : (f == t) = false := by simp [h5]
            clear h5
            have CO := fun w' hb => onS w' a cap g l f t d (R.out.keep fun h => (hb : Below w.heap.size w w').block g (R.out.lt h)) HN.out
            obtain ⟨o, ho⟩ : ∃ o, o = ron l f t d := ⟨_, rfl⟩
            rw [← ho] at E CO
            have COh := Lib.hid CO
            clear ho CO
            cases o with
            | none =>
              unfold onv at COh
              go_enter Try.func26, Try.ntmps26
              go_wp2_with fail
              refine CR.out.mono ?_
              rintro e w1 ⟨rfl, b1⟩
              have B1 := Lib.hid b1
              clear b1
              go_wp2_with fail
              refine (CA _).mono ?_
              rintro e w' ⟨rfl, rfl⟩
              go_wp2_with fail
              refine (CF _).mono ?_
              rintro e w' ⟨rfl, rfl⟩
              go_wp2_with fail
              refine (CT _).mono ?_
              rintro e w' ⟨rfl, rfl⟩
              go_wp2_with fail
              refine (COh.out w1 B1.out).mono ?_
              rintro e w2 ⟨rfl, b2⟩
              have B2 := Lib.hid (B1.out.trans (b2.mono B1.out.size))
              clear b2
              go_wp2
              go_ret2
              exact ⟨by rw [E.out]; rfl, five.Grew.step B2.out (Nat.le_refl _) (five.Grew.alloc _ _)⟩
            | some x =>
              unfold onv at COh
              have CM := fun w' => md.spec n x.2.2.2.1 x.2.2.2.2 w'
              unfold md.Ans at CM
              have E2 := Lib.hid (show cvt l n f t d = (md.val n x.2.2.2.1 x.2.2.2.2, md.ok n x.2.2.2.1 x.2.2.2.2) from E.out)
              generalize md.val n x.2.2.2.1 x.2.2.2.2 = mv at CM E2
              generalize md.ok n x.2.2.2.1 x.2.2.2.2 = mo at CM E2
              have CMh := Lib.hid CM
              clear CM
              go_enter Try.func26, Try.ntmps26
              go_wp2_with fail
              refine CR.out.mono ?_
              rintro e w1 ⟨rfl, b1⟩
              have B1 := Lib.hid b1
              clear b1
              go_wp2_with fail
              refine (CA _).mono ?_
              rintro e w' ⟨rfl, rfl⟩
              go_wp2_with fail
              refine (CF _).mono ?_
              rintro e w' ⟨rfl, rfl⟩
              go_wp2_with fail
              refine (CT _).mono ?_
              rintro e w' ⟨rfl, rfl⟩
              go_wp2_with fail
              refine (COh.out w1 B1.out).mono ?_
              rintro e w2 ⟨rfl, b2⟩
              have B2 := Lib.hid (B1.out.trans (b2.mono B1.out.size))
              clear b2
              go_wp2_with fail
              refine (CMh.out _).mono ?_
              rintro e w3 ⟨rfl, b3⟩
              have B3 := Lib.hid ((five.Grew.step B2.out (Nat.le_refl _) (five.Grew.alloc w2 (.cells #[.int .i64 x.1, .int .i64 x.2.1, .int .i64 x.2.2.1, .int .i64 x.2.2.2.1, .int .i64 x.2.2.2.2] 25))).trans (b3.mono (by have := B2.out.size; simp; omega)))
              clear b3
              go_wp2
              go_ret2
              exact ⟨by rw [E2.out]; rfl, B3.out⟩

set_option maxRecDepth 40000 in
set_option maxHeartbeats 4000000 in
theorem cvI (w : World) (a : Option Addr) (cap g : Nat) (l : List F5) (n f t d : Int) (r : Row w a cap g l) (hn : l.length ≤ 1048577) : Calls Try.prog 27 #[.slice a l.length cap, .int .i64 n, .int .i64 f, .int .i64 t, .int .i64 d] w (fun e w' => e = .returned (.tuple #[.int .i64 (cvt l n f t d).1, .bool (cvt l n f t d).2]) ∧ Below w.heap.size w w') := by
  have R := Lib.hid r
  have HN := Lib.hid hn
  have CR := Lib.hid (rsI w a cap g l r hn)
  have CA := amtI n
  have CF := curI f
  have CT := curI t
  clear r hn
  cases h1 : led.lv l with
  | false =>
    rw [h1] at CR
    have NO := Lib.hid (cvt_no l n f t d (by rw [h1]; rfl))
    clear h1 CA CF CT
    go_enter Try.func27, Try.ntmps27
    go_wp2_with fail
    refine CR.out.mono ?_
    rintro e w1 ⟨rfl, b1⟩
    have B1 := Lib.hid b1
    clear b1
    go_wp2
    go_ret2
    exact ⟨by rw [NO.out]; rfl, B1.out⟩
  | true =>
    rw [h1] at CR
    cases h2 : led.inR n (-1000000000000) 1000000000000 with
    | false =>
      rw [h2] at CA
      have NO := Lib.hid (cvt_no l n f t d (by unfold led.amt; rw [h1, h2]; rfl))
      clear h1 h2 CF CT
      go_enter Try.func27, Try.ntmps27
      go_wp2_with fail
      refine CR.out.mono ?_
      rintro e w1 ⟨rfl, b1⟩
      have B1 := Lib.hid b1
      clear b1
      go_wp2_with fail
      refine (CA _).mono ?_
      rintro e w' ⟨rfl, rfl⟩
      go_wp2
      go_ret2
      exact ⟨by rw [NO.out]; rfl, B1.out⟩
    | true =>
      rw [h2] at CA
      cases h3 : led.inR f 0 5 with
      | false =>
        rw [h3] at CF
        have NO := Lib.hid (cvt_no l n f t d (by unfold led.amt led.cur; rw [h1, h2, h3]; rfl))
        clear h1 h2 h3 CT
        go_enter Try.func27, Try.ntmps27
        go_wp2_with fail
        refine CR.out.mono ?_
        rintro e w1 ⟨rfl, b1⟩
        have B1 := Lib.hid b1
        clear b1
        go_wp2_with fail
        refine (CA _).mono ?_
        rintro e w' ⟨rfl, rfl⟩
        go_wp2_with fail
        refine (CF _).mono ?_
        rintro e w' ⟨rfl, rfl⟩
        go_wp2
        go_ret2
        exact ⟨by rw [NO.out]; rfl, B1.out⟩
      | true =>
        rw [h3] at CF
        cases h4 : led.inR t 0 5 with
        | false =>
          rw [h4] at CT
          have NO := Lib.hid (cvt_no l n f t d (by unfold led.amt led.cur; rw [h1, h2, h3, h4]; rfl))
          clear h1 h2 h3 h4
          go_enter Try.func27, Try.ntmps27
          go_wp2_with fail
          refine CR.out.mono ?_
          rintro e w1 ⟨rfl, b1⟩
          have B1 := Lib.hid b1
          clear b1
          go_wp2_with fail
          refine (CA _).mono ?_
          rintro e w' ⟨rfl, rfl⟩
          go_wp2_with fail
          refine (CF _).mono ?_
          rintro e w' ⟨rfl, rfl⟩
          go_wp2_with fail
          refine (CT _).mono ?_
          rintro e w' ⟨rfl, rfl⟩
          go_wp2
          go_ret2
          exact ⟨by rw [NO.out]; rfl, B1.out⟩
        | true =>
          rw [h4] at CT
          have YES := Lib.hid (cvt_yes l n f t d (by unfold led.amt led.cur; rw [h1, h2, h3, h4]; rfl))
          clear h1 h2 h3 h4
          by_cases h5 : f = t
          · have E := Lib.hid (show cvt l n f t d = (n, true) from by rw [YES.out, if_pos h5])
            have t5 : (f == t) = true := by simp [h5]
            clear h5
            go_enter Try.func27, Try.ntmps27
            go_wp2_with fail
            refine CR.out.mono ?_
            rintro e w1 ⟨rfl, b1⟩
            have B1 := Lib.hid b1
            clear b1
            go_wp2_with fail
            refine (CA _).mono ?_
            rintro e w' ⟨rfl, rfl⟩
            go_wp2_with fail
            refine (CF _).mono ?_
            rintro e w' ⟨rfl, rfl⟩
            go_wp2_with fail
            refine (CT _).mono ?_
            rintro e w' ⟨rfl, rfl⟩
            go_wp2
            go_ret2
            exact ⟨by rw [E.out]; rfl, B1.out⟩
          · have E := Lib.hid (show cvt l n f t d = cvo n (ron l f t d) from by rw [YES.out, if_neg h5])
            have t5 : (f == t) = false := by simp [h5]
            clear h5
            have CO := fun w' hb => onI w' a cap g l f t d (R.out.keep fun h => (hb : Below w.heap.size w w').block g (R.out.lt h)) HN.out
            obtain ⟨o, ho⟩ : ∃ o, o = ron l f t d := ⟨_, rfl⟩
            rw [← ho] at E CO
            have COh := Lib.hid CO
            clear ho CO
            cases o with
            | none =>
              unfold onv at COh
              go_enter Try.func27, Try.ntmps27
              go_wp2_with fail
              refine CR.out.mono ?_
              rintro e w1 ⟨rfl, b1⟩
              have B1 := Lib.hid b1
              clear b1
              go_wp2_with fail
              refine (CA _).mono ?_
              rintro e w' ⟨rfl, rfl⟩
              go_wp2_with fail
              refine (CF _).mono ?_
              rintro e w' ⟨rfl, rfl⟩
              go_wp2_with fail
              refine (CT _).mono ?_
              rintro e w' ⟨rfl, rfl⟩
              go_wp2_with fail
              refine (COh.out w1 B1.out).mono ?_
              rintro e w2 ⟨rfl, b2⟩
              have B2 := Lib.hid (B1.out.trans (b2.mono B1.out.size))
              clear b2
              go_wp2
              go_ret2
              exact ⟨by rw [E.out]; rfl, five.Grew.step B2.out (Nat.le_refl _) (five.Grew.alloc _ _)⟩
            | some x =>
              unfold onv at COh
              have CM := fun w' => md.impl n x.2.2.2.1 x.2.2.2.2 w'
              unfold md.Ans at CM
              have E2 := Lib.hid (show cvt l n f t d = (md.val n x.2.2.2.1 x.2.2.2.2, md.ok n x.2.2.2.1 x.2.2.2.2) from E.out)
              generalize md.val n x.2.2.2.1 x.2.2.2.2 = mv at CM E2
              generalize md.ok n x.2.2.2.1 x.2.2.2.2 = mo at CM E2
              have CMh := Lib.hid CM
              clear CM
              go_enter Try.func27, Try.ntmps27
              go_wp2_with fail
              refine CR.out.mono ?_
              rintro e w1 ⟨rfl, b1⟩
              have B1 := Lib.hid b1
              clear b1
              go_wp2_with fail
              refine (CA _).mono ?_
              rintro e w' ⟨rfl, rfl⟩
              go_wp2_with fail
              refine (CF _).mono ?_
              rintro e w' ⟨rfl, rfl⟩
              go_wp2_with fail
              refine (CT _).mono ?_
              rintro e w' ⟨rfl, rfl⟩
              go_wp2_with fail
              refine (COh.out w1 B1.out).mono ?_
              rintro e w2 ⟨rfl, b2⟩
              have B2 := Lib.hid (B1.out.trans (b2.mono B1.out.size))
              clear b2
              go_wp2_with fail
              refine (CMh.out _).mono ?_
              rintro e w3 ⟨rfl, b3⟩
              have B3 := Lib.hid ((five.Grew.step B2.out (Nat.le_refl _) (five.Grew.alloc w2 (.cells #[.int .i64 x.1, .int .i64 x.2.1, .int .i64 x.2.2.1, .int .i64 x.2.2.2.1, .int .i64 x.2.2.2.2] 25))).trans (b3.mono (by have := B2.out.size; simp; omega)))
              clear b3
              go_wp2
              go_ret2
              exact ⟨by rw [E2.out]; rfl, B3.out⟩
end Go.Proofs.Ytnkdjnfbllkgiab.base
