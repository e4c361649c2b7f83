/-
  Proved: for every command, the landed CmdText answers as its model does; the law laws.FnExactCmdText returns true and its arguments read as before. Conditions: none beyond the given row (the listed tables are as the program's text lays them).
-/
import Derived.Test.YtcpglphhhmgjkaaDoorTie
import Derived.Test.YtcpglphhhmgjkaaDoorCards
import Derived.Test.YtcpglphhhmgjkaaDoorTxc
import Derived.Test.YtcpglphhhmgjkaaDoorCxI
import Derived.Test.YtcpglphhhmgjkaaDoorCmt
import Derived.Test.YtcpglphhhmgjkaaDoorCms
import Derived.Test.YtcpglphhhmgjkaaDoorCme
import Derived.Deep.RegionHeld3
import Derived.Carry
namespace Go.Proofs.YtcpglphhhmgjkaaDoor.fnExactCmdText
open Go.ChangeShapes Go.WideShapes Go.ChangeAt Go.RowKit
open Go.ChangeMaps (open_string shut_string)
open gen
open four (F4)
open cm
theorem tPow : (Tryd.prog.globals[1]?).map (·.type) = some 121 := by kernel_rfl
theorem four {W : World} (h : laidMetH Tryd.prog Rows.fnExactCmdTextRow.laid W) : laidMet Tryd.prog [("math/bits.deBruijn32tab", Rows.laid_math_bits_deBruijn32tab), ("math/bits.deBruijn64tab", Rows.laid_math_bits_deBruijn64tab), ("internal/strconv.uint64pow10", Rows.laid_internal_strconv_uint64pow10), ("loop.example/g00714/impl.cmdForms", Rows.laid_loop_example_g00714_impl_cmdForms)] W := by
  rw [MakeChecks.laidMetH_plain _ _ _ (by kernel_rfl)] at h
  exact h
theorem frm_one {W : World} (h : laidMetH Tryd.prog Rows.fnExactCmdTextRow.laid W) : cm.Frm W := by
  obtain ⟨ps, h, _⟩ := (four h).tail.tail.tail
  exact cm.frm_of h
theorem nms_one {W : World} (h : laidMetH Tryd.prog Rows.fnExactCmdTextRow.laid W) : cm.Nms W := by
  obtain ⟨ps, h, _⟩ := (four h).tail.tail.tail
  exact cm.nms_of h
theorem pow_one {W : World} (h : laidMetH Tryd.prog Rows.fnExactCmdTextRow.laid W) : cm.Pow W := by
  have h := (four h).tail.tail
  refine Lib.tabIs_of_head cm.gPow tPow Tryd.underlying121 Tryd.underlying108 (by kernel_rfl) (by kernel_rfl) (rest := [("loop.example/g00714/impl.cmdForms", Rows.laid_loop_example_g00714_impl_cmdForms)]) ?_
  exact h
theorem pow_lt {W : World} (h : cm.Pow W) : 1 < W.heap.size := cell_lt (h.cell cm.gPow 0 (by decide))
theorem own : ownKnob Tryd.prog.godebug = none := by kernel_rfl
theorem laidOut : laidOutB Tryd.prog = true := by kernel_rfl
set_option maxRecDepth 100000 in
set_option maxHeartbeats 8000000 in
theorem walk (s : Sc) (ai : Option Addr) (ci : Nat) (l : List F4) (w : World) (h1 : four.Inp w ai l) (hk : s.key.size ≤ maxLen) (hl : l.length ≤ maxLen) (c : cm.Frm w) (cn : cm.Nms w) (cp : cm.Pow w) (hP : 1 < w.heap.size) :
    Calls Tryd.prog 4 #[.agg #[.int .i64 s.k, .string s.key, .int .i64 s.a, .int .i64 s.b, .int .i64 s.c, .int .i64 s.d, .int .i64 s.e, .int .i64 s.f, .slice ai l.length ci]] w fun e w' => e = .returned (.bool true) ∧ Below w.heap.size w w' := by
  have B0 := Lib.hid (show Below w.heap.size w (w.alloc (.cells #[.int .i64 s.k, .string s.key, .int .i64 s.a, .int .i64 s.b, .int .i64 s.c, .int .i64 s.d, .int .i64 s.e, .int .i64 s.f, .slice ai l.length ci] 24)) from bAl (Below.refl _ _) (Nat.le_refl _) _)
  have O0 := Lib.hid (CB.new w s ai l.length ci 24)
  have z0 : (w.alloc (.cells #[.int .i64 s.k, .string s.key, .int .i64 s.a, .int .i64 s.b, .int .i64 s.c, .int .i64 s.d, .int .i64 s.e, .int .i64 s.f, .slice ai l.length ci] 24)).heap.size = w.heap.size + 1 := by simp only [sz_al]
  have SZ := Lib.hid (fun W => szC s ai ci l W hk hl)
  have HF := Lib.hid (fun W (hb : Below w.heap.size w W) => c.below hb c.lt)
  have HN := Lib.hid (fun W (hb : Below w.heap.size w W) => cn.below hb cn.lt)
  have HP := Lib.hid (fun W (hb : Below w.heap.size w W) => cm.Pow.below cp hb hP)
  have HL := Lib.hid (fun W (hb : Below w.heap.size w W) => Nat.lt_of_lt_of_le hP hb.size)
  clear c cn cp hP
  by_cases hT : s.key.size + l.length ≤ 1048576
  · rw [lft_t hT] at SZ
    have hl' : l.length ≤ 1048576 := by omega
    have hk' : s.key.size ≤ 1048576 := by omega
    obtain ⟨d, hd⟩ : ∃ d, d = 1048576 - (s.key.size + l.length) := ⟨_, rfl⟩
    rw [← hd] at SZ
    have t1 : decide ((d : Int) < 0) = false := by simp
    have CT := Lib.hid (fun W (hb : Below w.heap.size w W) => toC s ai ci l W (h1.below hb) hl')
    have CSP := Lib.hid (fun W gi (r : four.Row W (some ⟨gi, 0, none⟩) l.length gi l) => ctS W s (some ⟨gi, 0, none⟩) l.length gi l r hl' hk')
    have CIM := Lib.hid (fun W gi (r : four.Row W (some ⟨gi, 0, none⟩) l.length gi l) hf hn hp hP => ctI W s (some ⟨gi, 0, none⟩) l.length gi l r hf hn hp hP hl' hk')
    have CEQ := Lib.hid (fun W gi gi' (r : four.Row W (some ⟨gi, 0, none⟩) l.length gi l) (r' : four.Row W (some ⟨gi', 0, none⟩) l.length gi' l) => eqCT W s l (some ⟨gi, 0, none⟩) (some ⟨gi', 0, none⟩) l.length gi l.length gi' r r' hl')
    clear h1 hd hT hl hk
    generalize ctx s l = V at CSP CIM
    go_enter Tryd.func4, Tryd.ntmps4
    go_wp2_with fail
    generalize w.alloc (.cells #[.int .i64 s.k, .string s.key, .int .i64 s.a, .int .i64 s.b, .int .i64 s.c, .int .i64 s.d, .int .i64 s.e, .int .i64 s.f, .slice ai l.length ci] 24) = W0 at B0 O0 z0 ⊢
    have ob := Lib.hid (show w.heap.size < W0.heap.size by omega)
    refine (SZ.out _).mono ?_
    rintro e w1 ⟨rfl, b⟩
    have B1 := Lib.hid (B0.out.trans (b.mono B0.out.size))
    have O1 := Lib.hid (O0.out.keep (b.block w.heap.size ob.out))
    have z1 := b.size
    obtain ⟨y0, y1, y2, y3, y4, y5, y6, y7, y8⟩ := O1.out
    clear b B0 O0 ob
    go_wp2_with fail
    refine (CT.out w1 B1.out).mono ?_
    rintro e w2 ⟨gi, rfl, ol, -, -, b⟩
    have OL2 := Lib.hid ol
    have B2 := Lib.hid (B1.out.trans (b.mono B1.out.size))
    have O2 := Lib.hid (O1.out.keep (b.block w.heap.size (by omega)))
    have z2 := b.size
    clear b ol B1 O1 y0 y1 y2 y3 y4 y5 y6 y7 y8
    go_wp2_with fail
    refine (CSP.out w2 gi OL2.out).mono ?_
    rintro e w3 ⟨rfl, b⟩
    have B3 := Lib.hid (B2.out.trans (b.mono B2.out.size))
    have O3 := Lib.hid (O2.out.keep (b.block w.heap.size (by omega)))
    have z3 := b.size
    clear b B2 O2 OL2
    obtain ⟨y0, y1, y2, y3, y4, y5, y6, y7, y8⟩ := O3.out
    go_wp2_with fail
    refine (CT.out w3 B3.out).mono ?_
    rintro e w4 ⟨gx, rfl, ol, lo, up, b⟩
    have B4 := Lib.hid ((B3.out.trans (b.mono B3.out.size)).alloc (B3.out.trans (b.mono B3.out.size)).size (.cells #[.int .i64 s.k, .string s.key, .int .i64 s.a, .int .i64 s.b, .int .i64 s.c, .int .i64 s.d, .int .i64 s.e, .int .i64 s.f, .slice (some ⟨gx, 0, none⟩) l.length l.length] 29))
    have LX := Lib.hid (ol.keep (w' := w4.alloc (.cells #[.int .i64 s.k, .string s.key, .int .i64 s.a, .int .i64 s.b, .int .i64 s.c, .int .i64 s.d, .int .i64 s.e, .int .i64 s.f, .slice (some ⟨gx, 0, none⟩) l.length l.length] 29)) fun _ => Below.heap_alloc w4 _ gx up)
    have OX := Lib.hid (CB.new w4 s (some ⟨gx, 0, none⟩) l.length l.length 29)
    have O4 := Lib.hid ((O3.out.keep (b.block w.heap.size (by omega))).keep (Below.heap_alloc w4 (.cells #[.int .i64 s.k, .string s.key, .int .i64 s.a, .int .i64 s.b, .int .i64 s.c, .int .i64 s.d, .int .i64 s.e, .int .i64 s.f, .slice (some ⟨gx, 0, none⟩) l.length l.length] 29) w.heap.size (by have := b.size; omega)))
    have z4 := b.size
    have z4' : (w4.alloc (.cells #[.int .i64 s.k, .string s.key, .int .i64 s.a, .int .i64 s.b, .int .i64 s.c, .int .i64 s.d, .int .i64 s.e, .int .i64 s.f, .slice (some ⟨gx, 0, none⟩) l.length l.length] 29)).heap.size = w4.heap.size + 1 := by simp only [sz_al]
    clear b ol B3 O3 lo y0 y1 y2 y3 y4 y5 y6 y7 y8
    go_wp2_with fail
    obtain ⟨bx, hbx⟩ : ∃ bx, bx = w4.heap.size := ⟨_, rfl⟩
    have HW4 := Lib.hid (Nat.le_refl w4.heap.size)
    rw [← hbx] at OX z4' z4 up ⊢
    generalize w4.alloc (.cells #[.int .i64 s.k, .string s.key, .int .i64 s.a, .int .i64 s.b, .int .i64 s.c, .int .i64 s.d, .int .i64 s.e, .int .i64 s.f, .slice (some ⟨gx, 0, none⟩) l.length l.length] 29) = W4 at B4 LX OX O4 z4' ⊢
    clear hbx HW4
    refine (CIM.out W4 gx LX.out (HF.out W4 B4.out) (HN.out W4 B4.out) (HP.out W4 B4.out) (HL.out W4 B4.out)).mono ?_
    rintro e w5 ⟨rfl, b⟩
    have B5 := Lib.hid (B4.out.trans (b.mono B4.out.size))
    have ux := Lib.hid (show gx < W4.heap.size by omega)
    replace LX := Lib.hid (LX.out.keep (w' := w5) fun _ => b.block gx ux.out)
    replace OX := Lib.hid (OX.out.keep (b.block bx (by omega)))
    replace O4 := Lib.hid (O4.out.keep (b.block w.heap.size (by omega)))
    have z5 := b.size
    have ux5 := Lib.hid (show gx < w5.heap.size by have := ux.out; omega)
    clear b B4 ux
    have tv : (V != V) = false := by simp
    have tv' : (V == V) = true := by simp
    have KS := Lib.hid (show ∀ W, CB W w.heap.size s ai l.length ci → CB W bx s (some ⟨gx, 0, none⟩) l.length l.length → (W.cell? ⟨w.heap.size, 0, none⟩ = some (.int .i64 s.k) ∧ W.cell? ⟨w.heap.size, 1, none⟩ = some (.string s.key) ∧ W.cell? ⟨w.heap.size, 2, none⟩ = some (.int .i64 s.a) ∧ W.cell? ⟨w.heap.size, 3, none⟩ = some (.int .i64 s.b) ∧ W.cell? ⟨w.heap.size, 4, none⟩ = some (.int .i64 s.c) ∧ W.cell? ⟨w.heap.size, 5, none⟩ = some (.int .i64 s.d) ∧ W.cell? ⟨w.heap.size, 6, none⟩ = some (.int .i64 s.e) ∧ W.cell? ⟨w.heap.size, 7, none⟩ = some (.int .i64 s.f) ∧ W.cell? ⟨w.heap.size, 8, none⟩ = some (.slice ai l.length ci) ∧ W.cell? ⟨bx, 0, none⟩ = some (.int .i64 s.k) ∧ W.cell? ⟨bx, 1, none⟩ = some (.string s.key) ∧ W.cell? ⟨bx, 2, none⟩ = some (.int .i64 s.a) ∧ W.cell? ⟨bx, 3, none⟩ = some (.int .i64 s.b) ∧ W.cell? ⟨bx, 4, none⟩ = some (.int .i64 s.c) ∧ W.cell? ⟨bx, 5, none⟩ = some (.int .i64 s.d) ∧ W.cell? ⟨bx, 6, none⟩ = some (.int .i64 s.e) ∧ W.cell? ⟨bx, 7, none⟩ = some (.int .i64 s.f) ∧ W.cell? ⟨bx, 8, none⟩ = some (.slice (some ⟨gx, 0, none⟩) l.length l.length)) from fun W h k => ⟨h.c0, h.c1, h.c2, h.c3, h.c4, h.c5, h.c6, h.c7, h.c8, k.c0, k.c1, k.c2, k.c3, k.c4, k.c5, k.c6, k.c7, k.c8⟩)
    have SD := Lib.hid (KS.out w5.drew (O4.out.keep rfl) (OX.out.keep rfl))
    have S0 := Lib.hid (KS.out w5 O4.out OX.out)
    have BD := Lib.hid B5.out.drew
    have LD := Lib.hid (LX.out.keep (w' := w5.drew) fun _ => rfl)
    have zo : w.heap.size < w5.heap.size := by have := O4.out.lt; exact this
    have zx : bx < w5.heap.size := OX.out.lt
    have O4d := Lib.hid (O4.out.keep (w' := w5.drew) rfl)
    have OXd := Lib.hid (OX.out.keep (w' := w5.drew) rfl)
    clear O4 OX
    go_wp2_with fail
    go_region_held3 (fun w' => w'.cell? ⟨w.heap.size, 0, none⟩ = some (.int .i64 s.k) ∧ w'.cell? ⟨w.heap.size, 1, none⟩ = some (.string s.key) ∧ w'.cell? ⟨w.heap.size, 2, none⟩ = some (.int .i64 s.a) ∧ w'.cell? ⟨w.heap.size, 3, none⟩ = some (.int .i64 s.b) ∧ w'.cell? ⟨w.heap.size, 4, none⟩ = some (.int .i64 s.c) ∧ w'.cell? ⟨w.heap.size, 5, none⟩ = some (.int .i64 s.d) ∧ w'.cell? ⟨w.heap.size, 6, none⟩ = some (.int .i64 s.e) ∧ w'.cell? ⟨w.heap.size, 7, none⟩ = some (.int .i64 s.f) ∧ w'.cell? ⟨w.heap.size, 8, none⟩ = some (.slice ai l.length ci) ∧ w'.cell? ⟨bx, 0, none⟩ = some (.int .i64 s.k) ∧ w'.cell? ⟨bx, 1, none⟩ = some (.string s.key) ∧ w'.cell? ⟨bx, 2, none⟩ = some (.int .i64 s.a) ∧ w'.cell? ⟨bx, 3, none⟩ = some (.int .i64 s.b) ∧ w'.cell? ⟨bx, 4, none⟩ = some (.int .i64 s.c) ∧ w'.cell? ⟨bx, 5, none⟩ = some (.int .i64 s.d) ∧ w'.cell? ⟨bx, 6, none⟩ = some (.int .i64 s.e) ∧ w'.cell? ⟨bx, 7, none⟩ = some (.int .i64 s.f) ∧ w'.cell? ⟨bx, 8, none⟩ = some (.slice (some ⟨gx, 0, none⟩) l.length l.length)) (first | exact S9.out | exact S7.out | exact SD.out | exact S0.out | go_keep)
      (first
        | (go_at_call 11; refine (CEQ.out w7 gx gy LX7.out LY.out).mono ?_; rintro e w8 ⟨rfl, b8⟩; have B8 := Lib.hid (B7.out.trans (b8.mono B7.out.size)); have S9 := Lib.hid (KS.out w8 (O7.out.keep (b8.block w.heap.size O7.out.lt)) (OX7.out.keep (b8.block bx OX7.out.lt))); clear b8)
        | (go_at_call 9; refine (CT.out _ BD.out).mono ?_; rintro e w7 ⟨gy, rfl, ol, -, -, b7⟩; have B7 := Lib.hid (BD.out.trans (b7.mono BD.out.size)); have LX7 := Lib.hid (LD.out.keep (w' := w7) fun _ => b7.block gx ux5.out); have LY := Lib.hid ol; have O7 := Lib.hid (O4d.out.keep (b7.block w.heap.size zo)); have OX7 := Lib.hid (OXd.out.keep (b7.block bx zx)); have S7 := Lib.hid (KS.out w7 O7.out OX7.out); clear b7 ol))
    all_goals
      go_wp2
      go_ret
      exact ⟨rfl, B8.out⟩
  · rw [lft_f hT] at SZ
    have t1 : decide ((-1 : Int) < 0) = true := by decide
    clear h1 hT hl hk
    go_enter Tryd.func4, Tryd.ntmps4
    go_wp2_with fail
    refine (SZ.out _).mono ?_
    rintro e w1 ⟨rfl, b⟩
    have B1 := Lib.hid (B0.out.trans (b.mono B0.out.size))
    clear b
    go_wp2
    go_ret
    exact ⟨rfl, B1.out⟩

theorem isLaw : lift.IsLaw Rows.fnExactCmdTextSpec 1 1 := fun _ ds gs h1 h2 => match ds, h1 with | [_], _ => match gs, h2 with | [_], _ => rfl

theorem laid_met (os : Os) : laidMetH Tryd.prog Rows.fnExactCmdTextRow.laid ((World.doorLaid Tryd.prog 400 os).forCall (fun _ _ => 0) ⟨#[], #[.agg #[.int .i64 0, .string ⟨#[]⟩, .int .i64 0, .int .i64 0, .int .i64 0, .int .i64 0, .int .i64 0, .int .i64 0, .slice none 0 0]], []⟩).memory :=
  laidMetH_of_parts3 (fuel := 8) (laidMet_of_run' 8 (by kernel_rfl) (by kernel_rfl)) (by kernel_rfl) (by kernel_rfl)

theorem reads (os : Os) {H : Type} (enc : TypeId × Value → H) : ∃ gs places, DataW.whole enc Tryd.prog ((World.doorLaid Tryd.prog 400 os).forCall (fun _ _ => 0) ⟨#[], #[.agg #[.int .i64 0, .string ⟨#[]⟩, .int .i64 0, .int .i64 0, .int .i64 0, .int .i64 0, .int .i64 0, .int .i64 0, .slice none 0 0]], []⟩).memory Tryd.f4.params.toList Rows.fnExactCmdTextSpec.vars false (#[.agg #[.int .i64 0, .string ⟨#[]⟩, .int .i64 0, .int .i64 0, .int .i64 0, .int .i64 0, .int .i64 0, .int .i64 0, .slice none 0 0]] : Array Value).toList 8 = some ([.agg [.lit (.int .i64 0), .lit (.string []), .lit (.int .i64 0), .lit (.int .i64 0), .lit (.int .i64 0), .lit (.int .i64 0), .lit (.int .i64 0), .lit (.int .i64 0), .nil]], gs, places) :=
  ⟨[Rows.laid_loop_example_g00714_impl_cmdForms], MemPlace.row ⟨0, 0, none⟩ 28, by kernel_rfl⟩

set_option maxRecDepth 100000 in
theorem lifted (os : Os) (started : os.Started) (H : Type) (enc : TypeId × Value → H) (F : Stop.Interp) :
    ReturnsInHanded {} Tryd.checked os 4 .any ((OpenSpec.ofChange Rows.fnExactCmdTextSpec).preRow enc Tryd.prog Tryd.f4 [] false Rows.fnExactCmdTextRow.laid) (((OpenSpec.ofChange Rows.fnExactCmdTextSpec).at F).post enc Tryd.prog Tryd.f4 false true false false) := by
  obtain ⟨gs, places, hx⟩ := reads os enc
  refine lift.law_lift (C := Tryd.checked) (tb := 4) own started (by kernel_rfl) Tryd.func4 laidOut (by kernel_rfl) (by kernel_rfl) (by kernel_rfl) Tryd.underlying4 (by rw [Tryd.params4]; exact isLaw)
    (witness_row_at (enc := enc) (C := Tryd.checked) false (World.doorLaid Tryd.prog 400 os) #[.agg #[.int .i64 0, .string ⟨#[]⟩, .int .i64 0, .int .i64 0, .int .i64 0, .int .i64 0, .int .i64 0, .int .i64 0, .slice none 0 0]] rfl (by kernel_rfl) (by kernel_rfl) (by kernel_rfl)
      (OpenSpec.preRow_of_cond 8 hx (by kernel_rfl) (fun k hk => by cases hk) (by kernel_rfl) (laid_met os))) ?_
  intro W b0 args ds p hval hA hL
  rw [Tryd.params4] at hA hval
  obtain ⟨v0, d0, rfl, rfl, h0⟩ := trodAll_one hA
  obtain ⟨s, ai, ci, l, rfl, hk, hl, h1⟩ := open_cmd (hval 0 24 v0 rfl rfl) h0
  exact walk s ai ci l W h1 hk hl (frm_one hL) (nms_one hL) (pow_one hL) (pow_lt (pow_one hL))

theorem said : Rows.FnExactCmdTextSaid :=
  OpenClaim.holds_of_cond 4 Tryd.f4 rfl rfl rfl rfl rfl rfl rfl ⟨rfl, rfl, rfl, rfl, rfl⟩ rfl rfl rfl rfl rfl (by kernel_rfl) Tryd.func4 (by kernel_rfl)
    (of_decide_eq_true (by kernel_rfl)) (by unfold Func.isWrapper; first | (rw [if_pos (by decide +kernel)]; kernel_rfl) | (rw [if_neg (by decide +kernel)]; exact ⟨rfl, rfl⟩))
    (fun os started H enc _ F => by rw [OpenClaim.pre_eq_preRow]; exact lifted os started H enc F)

theorem plain (f : FuncId) (fn : Func) (hf : Tryd.pinned.checked.prog.funcNamed "loop.example/g00714/laws.FnExactCmdText" = some f) (hfn : Tryd.pinned.checked.prog.funcs[f]? = some fn) :
    false = Tryd.pinned.checked.prog.looks [] ∧ ∀ (j : Nat) t, fn.params[j]? = some t → Tryd.pinned.checked.prog.wantsStandIn t = false := by
  obtain rfl : f = 4 := Option.some.inj ((show Tryd.prog.funcNamed "loop.example/g00714/laws.FnExactCmdText" = some 4 by kernel_rfl).symm.trans hf) |>.symm
  obtain rfl : fn = Tryd.f4 := (Option.some.inj (Tryd.func4.symm.trans hfn)).symm
  refine ⟨by kernel_rfl, fun j t ht => ?_⟩
  rw [Tryd.params4] at ht
  have hm : t ∈ [24] := by simpa using Array.mem_of_getElem? ht
  have hall : ([24].all fun u => !Tryd.prog.wantsStandIn u) = true := by kernel_rfl
  exact (show Tryd.prog.wantsStandIn t = false by simpa using List.all_eq_true.1 hall t hm)

theorem card : Rows.FnExactCmdTextCardSaid :=
  Claim7.holds_tied_plain_at .later [] _ _ _ _ said (fun _ h => by cases h) (by kernel_rfl) (fun _ h => by cases h) fnExactCmdText_row_tie rfl ⟨rfl, rfl⟩ (by kernel_rfl) rfl plain (by kernel_rfl)
#print axioms card
end Go.Proofs.YtcpglphhhmgjkaaDoor.fnExactCmdText
