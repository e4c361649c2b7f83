/-
  Proved: for every code, an added rate counts from its day on, for its pair alone; the law laws.FnRateOn returns true and its arguments read as before. Conditions: none beyond the given row.
-/
import Derived.Deep.RegionWith
import Derived.Deep.DeepCutAuto
import Derived.Test.YtnkdjnfbllkgiabRoLaw
import Derived.Test.YtnkdjnfbllkgiabDrawRa
import Derived.Test.YtnkdjnfbllkgiabSam
namespace Go.Proofs.Ytnkdjnfbllkgiab.fnRateOn
open Go.ChangeShapes Go.WideShapes Go.ChangeAt Go.RowKit


theorem walk_big (a : Option Addr) (len cap : Nat) (w : World) (hl : len ≤ maxLen) (hb : 1048576 < len) : Calls Try.prog 8 #[.slice a len cap] w fun e w' => e = .returned (.bool true) ∧ Below w.heap.size w w' := by
  go_enter Try.func8, Try.ntmps8
  go_wp2_with fail
  refine (draw.bigT a len cap w hb hl).mono ?_
  rintro e w' ⟨rfl, rfl⟩
  go_wp2
  go_ret
  exact ⟨rfl, Below.refl _ _⟩
theorem pcell {B W : World} {n i : Nat} {v : Value} (h : Below B.heap.size B W) (hn : n < B.heap.size) (hc : B.cell? ⟨n, i, none⟩ = some v) : W.cell? ⟨n, i, none⟩ = some v := (h.cell (p := ⟨n, i, none⟩) hn).trans hc
/-- Five cells of a box, in every world that comes behind it. -/
theorem bcell {B W : World} {n : Nat} {x : led.F5} (h : Below B.heap.size B W) (hc : five.At B n 0 x) : five.At W n 0 x := hc.keep (h.block n hc.lt)
theorem box5 (w : World) (y : led.F5) {W : World} (h : Below (w.heap.size + 1) (w.alloc (.cells #[.int .i64 y.1, .int .i64 y.2.1, .int .i64 y.2.2.1, .int .i64 y.2.2.2.1, .int .i64 y.2.2.2.2] 25)) W) : five.At W w.heap.size 0 y :=
  (five.At.boxed w y _).keep (h.block _ (Nat.lt_succ_self _))
set_option maxRecDepth 100000 in
set_option maxHeartbeats 4000000 in
theorem walk_small (a : Option Addr) (cap len : Nat) (w : World) (hB : draw.Bytes w a len) (hn : len ≤ 1048576) : Calls Try.prog 8 #[.slice a len cap] w fun e w' => e = .returned (.bool true) ∧ Below w.heap.size w w' := by
  have HB := Lib.hid hB
  clear hB
  go_enter Try.func8, Try.ntmps8
  go_wp2_with fail
  refine (draw.bigF a len cap w hn).mono ?_
  rintro e w' ⟨rfl, rfl⟩
  go_wp2_with fail
  refine (draw.drawRa a len cap w HB.out hn).mono ?_
  rintro e w1 ⟨cl, g, l, x, rfl, rl, G1, G2, hl, b1⟩
  obtain ⟨W0, hW0⟩ : ∃ W0, W0 = w1.alloc (.cells #[.int .i64 x.1, .int .i64 x.2.1, .int .i64 x.2.2.1, .int .i64 x.2.2.2.1, .int .i64 x.2.2.2.2] 25) := ⟨_, rfl⟩
  have FIN := Lib.hid (show ∀ w', Below W0.heap.size W0 w' → Below w.heap.size w w' from fun w' hb => by
    have h1 : Below w.heap.size w W0 := by rw [hW0]; exact b1.trans ((five.Grew.alloc w1 _).below.mono b1.size)
    exact h1.trans (hb.mono h1.size))
  have g0 : g < W0.heap.size := by rw [hW0]; simp; omega
  have ROW := Lib.hid (show five.Row W0 (some ⟨g, 0, none⟩) cl g l from rl.keep fun _ => by rw [hW0]; exact Below.heap_alloc w1 _ g G2)
  have AT0 := Lib.hid (show five.At W0 w1.heap.size 0 x from by rw [hW0]; exact five.At.boxed w1 x _)
  have KEEP := Lib.hid (show ∀ w', Below W0.heap.size W0 w' → five.Row w' (some ⟨g, 0, none⟩) cl g l from fun w' hb => ROW.out.keep fun _ => hb.block g g0)
  have AI := Lib.hid (base.addI W0 g cl l x (by omega) ROW.out)
  have ASx := Lib.hid (show ∀ w', Below W0.heap.size W0 w' → _ from fun w' hb => base.addS w' g cl l x (by omega) (Nat.lt_of_lt_of_le g0 hb.size) (KEEP.out w' hb))
  have room := rl.room
  have x0 := AT0.out.c0
  have x1 := AT0.out.c1
  have x2 := AT0.out.c2
  have x3 := AT0.out.c3
  have x4 := AT0.out.c4
  simp only [Nat.zero_add] at x0 x1 x2 x3 x4
  clear rl b1 G1
  go_wp2_with fail
  rw [← hW0]
  clear hW0
  refine AI.out.mono ?_
  rintro e w2 ⟨am, cm, gm, rfl, rm, GM, b2⟩
  have B2 := Lib.hid b2
  have RM := Lib.hid rm
  have GMh := Lib.hid GM
  obtain ⟨y0, y1, y2, y3, y4⟩ := bcell b2 AT0.out
  simp only [Nat.zero_add] at y0 y1 y2 y3 y4
  clear rm GM b2 x0 x1 x2 x3 x4
  obtain ⟨m, hm⟩ : ∃ m, m = base.adl l x := ⟨_, rfl⟩
  have ASm := Lib.hid (ASx.out w2 B2.out)
  unfold base.Added at ASm
  rw [← hm] at RM GMh ASm ⊢
  obtain ⟨bb, hbb⟩ : ∃ bb, bb = led.lv (l ++ [x]) := ⟨_, rfl⟩
  rw [← hbb] at ASm ⊢
  have HM := Lib.hid hm
  have HBB := Lib.hid hbb
  have mn : m.length ≤ 200 := by
    rw [hm]; unfold base.adl
    split
    · rw [List.length_append]; simp; omega
    · simp
  clear hm hbb ASx
  go_wp2_with fail
  refine ASm.out.mono ?_
  rintro e w3 ⟨aw, cw, gw, rfl, rw3, GW, b3⟩
  have B3 := Lib.hid (B2.out.trans (b3.mono B2.out.size))
  have KM := Lib.hid (show ∀ w', Below w3.heap.size w3 w' → five.Row w' am cm gm m from fun w' hb => RM.out.keep fun h => (hb.block gm (Nat.lt_of_lt_of_le (GMh.out h).2 b3.size)).trans (b3.block gm (GMh.out h).2))
  have KW := Lib.hid (show ∀ w', Below w3.heap.size w3 w' → five.Row w' aw cw gw m from fun w' hb => rw3.keep fun h => hb.block gw (GW h).2)
  have AT3 := Lib.hid (bcell B3.out AT0.out)
  have SAM := Lib.hid (show ∀ w', Below w3.heap.size w3 w' → Calls Try.prog 30 #[.slice am m.length cm, .slice aw m.length cw] w' (fun e w'' => e = .returned (.bool true) ∧ Below w3.heap.size w3 w'') from fun w' hb => (five.samT w' am aw cm cw gm gw m (KM.out w' hb) (KW.out w' hb) (by omega)).mono fun _ _ ⟨he, b⟩ => ⟨he, hb.trans (b.mono hb.size)⟩)
  have FIN3 := Lib.hid (show ∀ w', Below w3.heap.size w3 w' → Below w.heap.size w w' from fun w' hb => FIN.out w' (B3.out.trans (hb.mono B3.out.size)))
  have KL := Lib.hid (show ∀ w', Below w3.heap.size w3 w' → five.Row w' (some ⟨g, 0, none⟩) cl g l from fun w' hb => KEEP.out w' (B3.out.trans (hb.mono B3.out.size)))
  have P3 := Lib.hid (Below.refl w3.heap.size w3)
  have kk : w1.heap.size < w3.heap.size := AT3.out.lt
  clear rw3 GW b3 B2 RM GMh ASm y0 y1 y2 y3 y4 AI ROW KEEP FIN
  have tbb : (bb != bb) = false := by simp
  cases bb with
  | false =>
    have RI := Lib.hid (show ∀ w', Below w3.heap.size w3 w' → Calls Try.prog 13 #[.agg #[.int .i64 x.1, .int .i64 x.2.1, .int .i64 x.2.2.1, .int .i64 x.2.2.2.1, .int .i64 x.2.2.2.2]] w' (fun e w'' => e = .returned (.bool (led.rok x)) ∧ Below w3.heap.size w3 w'') from fun w' hb => (base.rokI x w').mono fun _ _ ⟨he, b⟩ => ⟨he, hb.trans (b.below.mono hb.size)⟩)
    have RS := Lib.hid (show ∀ w', Below w3.heap.size w3 w' → Calls Try.prog 11 #[.agg #[.int .i64 x.1, .int .i64 x.2.1, .int .i64 x.2.2.1, .int .i64 x.2.2.2.1, .int .i64 x.2.2.2.2]] w' (fun e w'' => e = .returned (.bool (led.rok x)) ∧ Below w3.heap.size w3 w'') from fun w' hb => (base.rokS x w').mono fun _ _ ⟨he, b⟩ => ⟨he, hb.trans (b.below.mono hb.size)⟩)
    generalize led.rok x = t at RI RS
    have tt : (t == t) = true := by simp
    go_wp2_with fail
    refine (SAM.out w3 P3.out).mono ?_
    rintro e w4 ⟨rfl, b4⟩
    have P4 := Lib.hid b4
    clear b4
    obtain ⟨x0, x1, x2, x3, x4⟩ := bcell P4.out AT3.out
    simp only [Nat.zero_add] at x0 x1 x2 x3 x4
    go_upto_region 7 with (fail)
    go_region_with (first
      | (go_at_call 30; refine (SAM.out _ ?_).mono ?_; (first | exact P4.out | exact P4.out.drew); rintro e w5 ⟨rfl, b5⟩; have P5 := Lib.hid b5; clear b5; obtain ⟨n0, n1, n2, n3, n4⟩ := bcell P5.out AT3.out; simp only [Nat.zero_add] at n0 n1 n2 n3 n4)
      | (go_at_call 13; refine (RI.out _ ?_).mono ?_; exact P5.out; rintro e w6 ⟨rfl, b6⟩; have P6 := Lib.hid b6; clear b6; obtain ⟨m0, m1, m2, m3, m4⟩ := bcell P6.out AT3.out; simp only [Nat.zero_add] at m0 m1 m2 m3 m4)
      | (go_at_call 11; refine (RS.out _ ?_).mono ?_; exact P6.out; rintro e w7 ⟨rfl, b7⟩; have P7 := Lib.hid b7; clear b7))
    all_goals
      clear n0 n1 n2 n3 n4 m0 m1 m2 m3 m4 x0 x1 x2 x3 x4
      go_wp2
      go_ret
      exact ⟨rfl, FIN3.out _ P7.out⟩
  | true =>
    have HV := Lib.hid HBB.out.symm
    have ME := Lib.hid (show m = l ++ [x] from by rw [HM.out, base.adl_t HV.out])
    have rk := (led.LV_init (led.lv_iff.1 HV.out)).2.day
    have d1 := rk.1
    have d2 := rk.2
    have ON := Lib.hid (show ∀ (f t d : Int) w', Below w3.heap.size w3 w' → Calls Try.prog 20 #[.slice am m.length cm, .int .i64 f, .int .i64 t, .int .i64 d] w' (fun e w'' => e = .returned (base.onv (base.ron m f t d)) ∧ Below w3.heap.size w3 w'' ∧ Below w'.heap.size w' w'') from fun f t d w' hb => (base.onI w' am cm gm m f t d (KM.out w' hb) (by omega)).mono fun _ _ ⟨he, b⟩ => ⟨he, hb.trans (b.mono hb.size), b⟩)
    have OL := Lib.hid (show ∀ (f t d : Int) w', Below w3.heap.size w3 w' → Calls Try.prog 20 #[.slice (some ⟨g, 0, none⟩) l.length cl, .int .i64 f, .int .i64 t, .int .i64 d] w' (fun e w'' => e = .returned (base.onv (base.ron l f t d)) ∧ Below w3.heap.size w3 w'' ∧ Below w'.heap.size w' w'') from fun f t d w' hb => (base.onI w' _ cl g l f t d (KL.out w' hb) (by omega)).mono fun _ _ ⟨he, b⟩ => ⟨he, hb.trans (b.mono hb.size), b⟩)
    have RO := Lib.hid (show ∀ w', Below w3.heap.size w3 w' → Calls Try.prog 17 #[.slice am m.length cm] w' (fun e w'' => e = .returned (.bool true) ∧ Below w3.heap.size w3 w'') from fun w' hb => (base.rsI w' am cm gm m (KM.out w' hb) (by omega)).mono fun _ _ ⟨he, b⟩ => ⟨by rw [he, ME.out, HV.out], hb.trans (b.mono hb.size)⟩)
    have O1 := Lib.hid (ON.out x.2.1 x.2.2.1 x.1)
    have O2 := Lib.hid (OL.out x.2.1 x.2.2.1 (x.1 - 1))
    have O3 := Lib.hid (ON.out x.2.1 x.2.2.1 (x.1 - 1))
    have O4 := Lib.hid (OL.out x.2.2.1 x.2.1 (x.1 + 9))
    have O5 := Lib.hid (ON.out x.2.2.1 x.2.1 (x.1 + 9))
    have q1 : base.ron m x.2.1 x.2.2.1 x.1 = some x := by rw [ME.out]; exact base.ron_new HV.out
    have q3 : base.ron m x.2.1 x.2.2.1 (x.1 - 1) = base.ron l x.2.1 x.2.2.1 (x.1 - 1) := by rw [ME.out]; exact base.ron_before HV.out
    have q5 : base.ron m x.2.2.1 x.2.1 (x.1 + 9) = base.ron l x.2.2.1 x.2.1 (x.1 + 9) := by rw [ME.out]; exact base.ron_other HV.out _
    rw [q1] at O1
    rw [q3] at O3
    rw [q5] at O5
    clear q1 q3 q5 ON OL rk HV ME HM HBB KL KM
    rw [base.onv_is] at O2 O3 O4 O5
    generalize base.ob (base.ron l x.2.1 x.2.2.1 (x.1 - 1)) = bb at O2 O3
    generalize base.ov (base.ron l x.2.1 x.2.2.1 (x.1 - 1)) = y at O2 O3
    generalize base.ob (base.ron l x.2.2.1 x.2.1 (x.1 + 9)) = cc at O4 O5
    generalize base.ov (base.ron l x.2.2.1 x.2.1 (x.1 + 9)) = z at O4 O5
    unfold base.onv at O1
    have tb : (bb == bb) = true := by simp
    have tc : (cc == cc) = true := by simp
    go_wp2_with fail
    refine (SAM.out w3 P3.out).mono ?_
    rintro e w4 ⟨rfl, b4⟩
    have P4 := Lib.hid b4
    clear b4
    obtain ⟨x0, x1, x2, x3, x4⟩ := bcell P4.out AT3.out
    simp only [Nat.zero_add] at x0 x1 x2 x3 x4
    go_wp2_with fail
    refine (O1.out w4 P4.out).mono ?_
    rintro e w5 ⟨rfl, b5, bb5⟩
    have P5 := Lib.hid b5
    clear b5 bb5 x0 x1 x2 x3 x4
    obtain ⟨V5, hV5⟩ : ∃ V, V = w5.alloc (.cells #[.int .i64 x.1, .int .i64 x.2.1, .int .i64 x.2.2.1, .int .i64 x.2.2.2.1, .int .i64 x.2.2.2.2] 25) := ⟨_, rfl⟩
    have Q5 := Lib.hid (show Below w3.heap.size w3 V5 from by rw [hV5]; exact P5.out.alloc P5.out.size _)
    have A5 := Lib.hid (show five.At V5 w5.heap.size 0 x from by rw [hV5]; exact five.At.boxed w5 x _)
    obtain ⟨x0, x1, x2, x3, x4⟩ := bcell Q5.out AT3.out
    simp only [Nat.zero_add] at x0 x1 x2 x3 x4
    rw [hV5] at x0 x1 x2 x3 x4
    go_wp2_with fail
    rw [← hV5]
    clear hV5
    refine (O2.out V5 Q5.out).mono ?_
    rintro e w6 ⟨rfl, b, kb⟩
    have P6 := Lib.hid b
    replace A5 := Lib.hid (A5.out.keep (w' := w6) (kb.block _ A5.out.lt))
    clear b kb x0 x1 x2 x3 x4
    obtain ⟨V6, hV6⟩ : ∃ V, V = w6.alloc (.cells #[.int .i64 y.1, .int .i64 y.2.1, .int .i64 y.2.2.1, .int .i64 y.2.2.2.1, .int .i64 y.2.2.2.2] 25) := ⟨_, rfl⟩
    have Q6 := Lib.hid (show Below w3.heap.size w3 V6 from by rw [hV6]; exact P6.out.alloc P6.out.size _)
    have A6 := Lib.hid (show five.At V6 w6.heap.size 0 y from by rw [hV6]; exact five.At.boxed w6 y _)
    replace A5 := Lib.hid (A5.out.keep (w' := V6) (by rw [hV6]; exact Below.heap_alloc w6 _ _ A5.out.lt))
    obtain ⟨x0, x1, x2, x3, x4⟩ := bcell Q6.out AT3.out
    simp only [Nat.zero_add] at x0 x1 x2 x3 x4
    rw [hV6] at x0 x1 x2 x3 x4
    go_wp2_with fail
    rw [← hV6]
    clear hV6
    refine (O3.out V6 Q6.out).mono ?_
    rintro e w7 ⟨rfl, b, kb⟩
    have P7 := Lib.hid b
    replace A5 := Lib.hid (A5.out.keep (w' := w7) (kb.block _ A5.out.lt))
    replace A6 := Lib.hid (A6.out.keep (w' := w7) (kb.block _ A6.out.lt))
    clear b kb x0 x1 x2 x3 x4
    obtain ⟨V7, hV7⟩ : ∃ V, V = w7.alloc (.cells #[.int .i64 y.1, .int .i64 y.2.1, .int .i64 y.2.2.1, .int .i64 y.2.2.2.1, .int .i64 y.2.2.2.2] 25) := ⟨_, rfl⟩
    have Q7 := Lib.hid (show Below w3.heap.size w3 V7 from by rw [hV7]; exact P7.out.alloc P7.out.size _)
    have A7 := Lib.hid (show five.At V7 w7.heap.size 0 y from by rw [hV7]; exact five.At.boxed w7 y _)
    replace A5 := Lib.hid (A5.out.keep (w' := V7) (by rw [hV7]; exact Below.heap_alloc w7 _ _ A5.out.lt))
    replace A6 := Lib.hid (A6.out.keep (w' := V7) (by rw [hV7]; exact Below.heap_alloc w7 _ _ A6.out.lt))
    obtain ⟨x0, x1, x2, x3, x4⟩ := bcell Q7.out AT3.out
    simp only [Nat.zero_add] at x0 x1 x2 x3 x4
    rw [hV7] at x0 x1 x2 x3 x4
    go_wp2_with fail
    rw [← hV7]
    clear hV7
    refine (O4.out V7 Q7.out).mono ?_
    rintro e w8 ⟨rfl, b, kb⟩
    have P8 := Lib.hid b
    replace A5 := Lib.hid (A5.out.keep (w' := w8) (kb.block _ A5.out.lt))
    replace A6 := Lib.hid (A6.out.keep (w' := w8) (kb.block _ A6.out.lt))
    replace A7 := Lib.hid (A7.out.keep (w' := w8) (kb.block _ A7.out.lt))
    clear b kb x0 x1 x2 x3 x4
    obtain ⟨V8, hV8⟩ : ∃ V, V = w8.alloc (.cells #[.int .i64 z.1, .int .i64 z.2.1, .int .i64 z.2.2.1, .int .i64 z.2.2.2.1, .int .i64 z.2.2.2.2] 25) := ⟨_, rfl⟩
    have Q8 := Lib.hid (show Below w3.heap.size w3 V8 from by rw [hV8]; exact P8.out.alloc P8.out.size _)
    have A8 := Lib.hid (show five.At V8 w8.heap.size 0 z from by rw [hV8]; exact five.At.boxed w8 z _)
    replace A5 := Lib.hid (A5.out.keep (w' := V8) (by rw [hV8]; exact Below.heap_alloc w8 _ _ A5.out.lt))
    replace A6 := Lib.hid (A6.out.keep (w' := V8) (by rw [hV8]; exact Below.heap_alloc w8 _ _ A6.out.lt))
    replace A7 := Lib.hid (A7.out.keep (w' := V8) (by rw [hV8]; exact Below.heap_alloc w8 _ _ A7.out.lt))
    obtain ⟨x0, x1, x2, x3, x4⟩ := bcell Q8.out AT3.out
    simp only [Nat.zero_add] at x0 x1 x2 x3 x4
    rw [hV8] at x0 x1 x2 x3 x4
    go_wp2_with fail
    rw [← hV8]
    clear hV8
    refine (O5.out V8 Q8.out).mono ?_
    rintro e w9 ⟨rfl, b, kb⟩
    have P9 := Lib.hid b
    replace A5 := Lib.hid (A5.out.keep (w' := w9) (kb.block _ A5.out.lt))
    replace A6 := Lib.hid (A6.out.keep (w' := w9) (kb.block _ A6.out.lt))
    replace A7 := Lib.hid (A7.out.keep (w' := w9) (kb.block _ A7.out.lt))
    replace A8 := Lib.hid (A8.out.keep (w' := w9) (kb.block _ A8.out.lt))
    clear b kb x0 x1 x2 x3 x4
    obtain ⟨V9, hV9⟩ : ∃ V, V = w9.alloc (.cells #[.int .i64 z.1, .int .i64 z.2.1, .int .i64 z.2.2.1, .int .i64 z.2.2.2.1, .int .i64 z.2.2.2.2] 25) := ⟨_, rfl⟩
    have Q9 := Lib.hid (show Below w3.heap.size w3 V9 from by rw [hV9]; exact P9.out.alloc P9.out.size _)
    have nx : ∀ (n : Nat) (y : led.F5), five.At w9 n 0 y → five.At V9 n 0 y := fun _ _ h => h.keep (by rw [hV9]; exact Below.heap_alloc w9 _ _ h.lt)
    obtain ⟨u0, u1, u2, u3, u4⟩ := nx _ _ A5.out
    obtain ⟨r0, r1, r2, r3, r4⟩ := nx _ _ A6.out
    obtain ⟨s0, s1, s2, s3, s4⟩ := nx _ _ A7.out
    obtain ⟨v0, v1, v2, v3, v4⟩ := nx _ _ A8.out
    obtain ⟨x0, x1, x2, x3, x4⟩ := bcell Q9.out AT3.out
    simp only [Nat.zero_add] at u0 u1 u2 u3 u4 r0 r1 r2 r3 r4 s0 s1 s2 s3 s4 v0 v1 v2 v3 v4 x0 x1 x2 x3 x4
    rw [hV9] at u0 u1 u2 u3 u4 r0 r1 r2 r3 r4 s0 s1 s2 s3 s4 v0 v1 v2 v3 v4 x0 x1 x2 x3 x4
    clear nx
    go_wp2_with fail
    rw [← hV9]
    clear hV9
    refine (RO.out V9 Q9.out).mono ?_
    rintro e w10 ⟨rfl, b10⟩
    have P10 := Lib.hid b10
    clear b10
    go_wp2
    go_ret
    exact ⟨rfl, FIN3.out _ P10.out⟩

theorem own : ownKnob Try.prog.godebug = none := by kernel_rfl
theorem laidOut : laidOutB Try.prog = true := by kernel_rfl
theorem isLaw : lift.IsLaw Rows.fnRateOnSpec 1 0 := fun _ ds gs h1 h2 => match ds, h1 with | [_], _ => match gs, h2 with | [], _ => rfl

set_option maxRecDepth 100000 in
theorem lifted (os : Os) (started : os.Started) (H : Type) (enc : TypeId × Value → H) :
    ReturnsInHanded {} Try.checked os 8 .any (Rows.fnRateOnSpec.pre6 enc Try.prog Try.f8 Rows.fnRateOnRow.domain false) (Rows.fnRateOnSpec.post enc Try.prog Try.f8 false true false false) := by
  refine returnsInHanded_of_change (C := Try.checked) own started (by kernel_rfl) Try.func8
    (ChangeSpec.witness6 (enc := enc) (C := Try.checked) false ⟨#[], #[.slice none 0 0], []⟩ 8 (by kernel_rfl) (by kernel_rfl) (by kernel_rfl) (by kernel_rfl)) ?_
  intro W base args ds gs before hval0 hW _ _
  have hval : ∀ (j : Nat) t v, Try.f8.params[j]? = some t → args[j]? = some v → Value.okWide Try.prog W .any base t v := hval0
  have hW' := hW
  obtain ⟨p, q, hA0, hV, hrest⟩ := hW
  have hA : DataW.TrodAll enc Try.prog W 0 (fun _ => true) true Try.f8.params.toList args.toList ds p := hA0
  clear hA0 hval0 hV hrest
  rw [Try.params8] at hA hval
  obtain ⟨v0, d0, rfl, rfl, h0⟩ := trodAll_one hA
  obtain ⟨a, len, cap, rfl, hlen, hB⟩ := draw.open_code Try.underlying46 Try.underlying5 (by kernel_rfl) (hval 0 46 v0 rfl rfl) h0
  have wk : Calls Try.prog 8 #[.slice a len cap] W fun e w' => e = .returned (.bool true) ∧ Below W.heap.size W w' := by
    by_cases hb : len ≤ 1048576
    · exact walk_small a cap len W hB hb
    · exact walk_big a len cap W hlen (by omega)
  refine (wk).mono fun e W' ⟨he, hb⟩ => ?_
  subst he
  exact ⟨_, rfl, lift.law_post laidOut (by kernel_rfl) (by kernel_rfl) (by kernel_rfl) Try.underlying4 (by rw [Try.params8]; exact isLaw) hW' hb⟩

theorem over : Rows.fnRateOnRow.holds Try.pinned (OpenSpec.ofChange Rows.fnRateOnSpec) :=
  OpenClaim.holds_of_wide 8 Try.f8 rfl rfl rfl rfl rfl rfl rfl ⟨rfl, rfl, rfl, rfl, rfl⟩ rfl rfl rfl rfl rfl (by kernel_rfl) Try.func8 (by kernel_rfl)
    (of_decide_eq_true (by kernel_rfl)) (by unfold Func.isWrapper; first | (rw [if_pos (by decide +kernel)]; kernel_rfl) | (rw [if_neg (by decide +kernel)]; exact ⟨rfl, rfl⟩))
    (fun os started H enc _ => lifted os started H enc)

theorem proved : Rows.FnRateOnSaid := over
#print axioms proved
end Go.Proofs.Ytnkdjnfbllkgiab.fnRateOn
