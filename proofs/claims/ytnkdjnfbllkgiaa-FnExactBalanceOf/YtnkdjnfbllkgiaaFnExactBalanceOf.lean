/-
  Proved: for every list of posts, account and currency, the landed BalanceOf answers as its model does and writes into no argument; the law laws.FnExactBalanceOf returns true and its arguments read as before. Conditions: none beyond the given row.
-/
import Derived.Deep.RegionWith
import Derived.Deep.DeepCutAuto
import Derived.Test.YtnkdjnfbllkgiaaBalS
import Derived.Test.YtnkdjnfbllkgiaaCopy
import Derived.Test.YtnkdjnfbllkgiaaEqS
import Derived.Test.YtnkdjnfbllkgiaaOpA
namespace Go.Proofs.Ytnkdjnfbllkgiaa.fnExactBalanceOf
open Go.ChangeShapes Go.WideShapes Go.ChangeAt Go.RowKit


theorem cpB (B : World) (a : Option Addr) (cap : Nat) (l0 : List led.F5) (hI : five.Inp B a l0) (hn : l0.length ≤ 1048576) (W : World) (p : Below B.heap.size B W) : Calls Try.prog 18 #[.slice a l0.length cap] W fun e w' => ∃ g, e = .returned (.slice (some ⟨g, 0, none⟩) l0.length l0.length) ∧ five.Row w' (some ⟨g, 0, none⟩) l0.length g l0 ∧ B.heap.size ≤ g ∧ g < w'.heap.size ∧ Below B.heap.size B w' ∧ Below W.heap.size W w' :=
  (five.copy a cap l0 W (hI.below p) hn).mono fun _ _ ⟨g, he, r, l1, k1, b⟩ => ⟨g, he, r, Nat.le_trans p.size l1, k1, p.trans (b.mono p.size), b⟩
theorem toB (B : World) (p : led.F5) (W : World) (h : Below B.heap.size B W) : Calls Try.prog 14 #[.agg #[.int .i64 p.1, .int .i64 p.2.1, .int .i64 p.2.2.1]] W fun e w' => e = .returned (.agg #[.int .i64 p.1, .int .i64 p.2.1, .int .i64 p.2.2.1]) ∧ Below B.heap.size B w' ∧ Below W.heap.size W w' :=
  (five.toAcct p.1 p.2.1 p.2.2.1 W).mono fun e w' ⟨he, o1, o2, o3, hw⟩ => by
    have b : Below W.heap.size W w' := by rw [hw]; exact (((five.Grew.alloc W o1).trans (five.Grew.alloc _ o2)).trans (five.Grew.alloc _ o3)).below
    exact ⟨he, h.trans (b.mono h.size), b⟩
theorem pcell {B W : World} {n i : Nat} {v : Value} (h : Below B.heap.size B W) (hn : n < B.heap.size) (hc : B.cell? ⟨n, i, none⟩ = some v) : W.cell? ⟨n, i, none⟩ = some v := (h.cell (p := ⟨n, i, none⟩) hn).trans hc
theorem walk_big (p : led.F5) (a : Option Addr) (len cap : Nat) (w : World) (hl : len ≤ maxLen) (hb : 1048576 < len) : Calls Try.prog 7 #[.slice a len cap, .agg #[.int .i64 p.1, .int .i64 p.2.1, .int .i64 p.2.2.1], .int .i64 p.2.2.2.1] w fun e w' => e = .returned (.bool true) ∧ Below w.heap.size w w' := by
  unfold maxLen at hl
  have t1 : decide ((1048576 : Int) < (len : Int)) = true := by simp; omega
  go_enter Try.func7, Try.ntmps7
  go_wp2
  go_ret
  exact ⟨rfl, (five.Grew.alloc w _).below⟩
set_option maxRecDepth 100000 in
set_option maxHeartbeats 4000000 in
theorem walk_small (p : led.F5) (hp : mp.W4 p) (a : Option Addr) (cap : Nat) (l0 : List led.F5) (w : World) (hI : five.Inp w a l0) (hn : l0.length ≤ 1048576) : Calls Try.prog 7 #[.slice a l0.length cap, .agg #[.int .i64 p.1, .int .i64 p.2.1, .int .i64 p.2.2.1], .int .i64 p.2.2.2.1] w fun e w' => e = .returned (.bool true) ∧ Below w.heap.size w w' := by
  have HI := Lib.hid hI
  clear hI
  have t1 : decide ((1048576 : Int) < (l0.length : Int)) = false := by simp; omega
  have CS := fun w0 c g r => mp.blS w0 (some ⟨g, 0, none⟩) c g l0 p r (by omega)
  have CI := fun w0 c g r => mp.blI w0 (some ⟨g, 0, none⟩) c g l0 p r hp (by omega)
  generalize mp.blv l0 p = t at CS CI
  have CSB := Lib.hid (show ∀ (B W : World) (g c : Nat), five.Row W (some ⟨g, 0, none⟩) c g l0 → Below B.heap.size B W → Calls Try.prog 29 #[.slice (some ⟨g, 0, none⟩) l0.length c, .agg #[.int .i64 p.1, .int .i64 p.2.1, .int .i64 p.2.2.1], .int .i64 p.2.2.2.1] W fun e w' => e = .returned (.int .i64 t) ∧ Below B.heap.size B w' from fun B W g c r h => (CS W c g r).mono fun e w' ⟨he, b⟩ => ⟨he, h.trans (b.mono h.size)⟩)
  have CIh := Lib.hid CI
  clear CS CI hp
  have tt : (t != t) = false := by simp
  obtain ⟨W0, hW0⟩ : ∃ W0, W0 = w.alloc (.cells #[.int .i64 p.1, .int .i64 p.2.1, .int .i64 p.2.2.1] 23) := ⟨_, rfl⟩
  have BW := Lib.hid (show Below w.heap.size w W0 from by rw [hW0]; exact (five.Grew.alloc w _).below)
  have c0 : W0.cell? ⟨w.heap.size, 0, none⟩ = some (.int .i64 p.1) := by rw [hW0]; exact five.box_cell (five.box_refl w _) 0 rfl
  have c1 : W0.cell? ⟨w.heap.size, 1, none⟩ = some (.int .i64 p.2.1) := by rw [hW0]; exact five.box_cell (five.box_refl w _) 1 rfl
  have c2 : W0.cell? ⟨w.heap.size, 2, none⟩ = some (.int .i64 p.2.2.1) := by rw [hW0]; exact five.box_cell (five.box_refl w _) 2 rfl
  have sz : w.heap.size < W0.heap.size := by rw [hW0]; simp
  have H0 := Lib.hid (HI.out.below BW.out)
  go_enter Try.func7, Try.ntmps7
  go_wp2_with fail
  rw [← hW0]
  clear hW0
  refine (five.szOk a l0.length cap 1048576 W0 hn (Nat.le_refl _)).mono ?_
  rintro e w' ⟨rfl, rfl⟩
  go_upto_region 5 with (fail)
  go_cut [8] (fun s8 wx => s8 = .int .i64 t ∧ Below W0.heap.size W0 wx)
  case first =>
    have P0 := Lib.hid (Below.refl W0.heap.size W0)
    have CPB := Lib.hid (cpB W0 a cap l0 H0.out hn)
    have TOB := Lib.hid (toB W0 p)
    have CC := Lib.hid (CSB.out W0)
    go_region_with (first
      | (go_at_call 18; refine (CPB.out _ ?_).mono ?_; (first | exact PT.out | exact PT.out.drew | exact P0.out | exact P0.out.drew | exact P0.out.drew.drew); rintro e wC ⟨gC, rfl, rc, lc, kc, pc, bc⟩; have RC := Lib.hid rc; have KC := Lib.hid kc; have PC := Lib.hid pc; clear rc kc pc bc lc; have n0 := pcell PC.out sz c0; have n1 := pcell PC.out sz c1; have n2 := pcell PC.out sz c2)
      | (go_at_call 14; refine (TOB.out _ ?_).mono ?_; (first | exact PC.out | exact PC.out.drew | exact P0.out | exact P0.out.drew | exact P0.out.drew.drew); rintro e wT ⟨rfl, pt, bt⟩; (try (have RT := Lib.hid (RC.out.keep (w' := wT) fun _ => bt.block gC KC.out); have KT := Lib.hid (show gC < wT.heap.size from Nat.lt_of_lt_of_le KC.out bt.size))); have PT := Lib.hid pt; clear pt bt)
      | (go_at_call 29; refine (CC.out _ gC l0.length ?_ ?_).mono ?_; (first | exact RT.out | exact RT.out.keep fun _ => rfl | exact RC.out | exact RC.out.keep fun _ => rfl); (first | exact PT.out | exact PT.out.drew | exact PC.out | exact PC.out.drew); rintro e wS ⟨rfl, pS⟩; have PS := Lib.hid pS; clear pS))
    all_goals (go_wp2_with fail; go_meet; exact ⟨rfl, PS.out⟩)
  case rest =>
  obtain ⟨rfl, b2⟩ := hcut
  generalize wc = w2 at *
  have B2 := Lib.hid b2
  clear b2
  go_wp2_with fail
  refine (five.copy a cap l0 w2 (H0.out.below B2.out) hn).mono ?_
  rintro e w3 ⟨gx, rfl, rx, lx, kx, b3⟩
  have RX := Lib.hid rx
  have B3 := Lib.hid (B2.out.trans (b3.mono B2.out.size))
  clear rx b3
  have n0 := pcell B3.out sz c0
  have n1 := pcell B3.out sz c1
  have n2 := pcell B3.out sz c2
  go_wp2_with fail
  refine (toB W0 p w3 B3.out).mono ?_
  rintro e w4 ⟨rfl, b4, bb4⟩
  have B4 := Lib.hid b4
  have RX4 := Lib.hid (RX.out.keep (w' := w4) fun _ => bb4.block gx kx)
  have z34 := bb4.size
  clear b4 bb4 RX n0 n1 n2
  go_wp2_with fail
  refine (CIh.out w4 _ gx RX4.out).mono ?_
  rintro e w5 ⟨rfl, b5⟩
  have RX5 := Lib.hid (RX4.out.keep (w' := w5) fun _ => b5.block gx (by omega))
  have B5 := Lib.hid (B4.out.trans (b5.mono B4.out.size))
  have z45 := b5.size
  clear b5 RX4
  go_wp2_with fail
  refine (five.copy a cap l0 w5 (H0.out.below B5.out) hn).mono ?_
  rintro e w6 ⟨gy, rfl, ry, ly, ky, b6⟩
  have RY := Lib.hid ry
  have RX6 := Lib.hid (RX5.out.keep (w' := w6) fun _ => b6.block gx (by omega))
  have B6 := Lib.hid (B5.out.trans (b6.mono B5.out.size))
  clear ry b6 RX5
  go_wp2_with fail
  refine (five.eqT w6 _ _ _ _ gx gy l0 RX6.out RY.out hn).mono ?_
  rintro e w7 ⟨rfl, b7⟩
  have B7 := Lib.hid (B6.out.trans (b7.mono B6.out.size))
  clear b7
  go_wp2
  go_ret
  exact ⟨rfl, BW.out.trans (B7.out.mono BW.out.size)⟩

theorem own : ownKnob Try.prog.godebug = none := by kernel_rfl
theorem laidOut : laidOutB Try.prog = true := by kernel_rfl
theorem isLaw : lift.IsLaw Rows.fnExactBalanceOfSpec 3 0 := fun _ ds gs h1 h2 => match ds, h1 with | [_, _, _], _ => match gs, h2 with | [], _ => rfl

set_option maxRecDepth 100000 in
theorem lifted (os : Os) (started : os.Started) (H : Type) (enc : TypeId × Value → H) :
    ReturnsInHanded {} Try.checked os 7 .any (Rows.fnExactBalanceOfSpec.pre6 enc Try.prog Try.f7 Rows.fnExactBalanceOfRow.domain false) (Rows.fnExactBalanceOfSpec.post enc Try.prog Try.f7 false true false false) := by
  refine returnsInHanded_of_change (C := Try.checked) own started (by kernel_rfl) Try.func7
    (ChangeSpec.witness6 (enc := enc) (C := Try.checked) false ⟨#[], #[.slice none 0 0, .agg #[.int .i64 0, .int .i64 0, .int .i64 0], .int .i64 0], []⟩ 8 (by kernel_rfl) (by kernel_rfl) (by kernel_rfl) (by kernel_rfl)) ?_
  intro W base args ds gs before hval0 hW _ _
  have hval : ∀ (j : Nat) t v, Try.f7.params[j]? = some t → args[j]? = some v → Value.okWide Try.prog W .any base t v := hval0
  have hW' := hW
  obtain ⟨p, q, hA0, hV, hrest⟩ := hW
  have hA : DataW.TrodAll enc Try.prog W 0 (fun _ => true) true Try.f7.params.toList args.toList ds p := hA0
  clear hA0 hval0 hV hrest
  rw [Try.params7] at hA hval
  obtain ⟨v0, v1, v2, d0, d1, d2, p0, p1, p2, rfl, rfl, rfl, h0, h1, h2⟩ := trodAll_three hA
  obtain ⟨a, cap, l, rfl, hlen, hI, wfl⟩ := five.open_posts (hval 0 28 v0 rfl rfl) h0
  obtain ⟨x, y, z, rfl, wx, wy, wz⟩ := five.open_acct (hval 1 23 v1 rfl rfl) h1
  obtain ⟨a2, rfl, rfl, rfl, w2⟩ := open_int Try.underlying2 (hval 2 2 v2 rfl rfl) h2
  have wk : Calls Try.prog 7 #[.slice a l.length cap, .agg #[.int .i64 x, .int .i64 y, .int .i64 z], .int .i64 a2] W fun e w' => e = .returned (.bool true) ∧ Below W.heap.size W w' := by
    by_cases hb : l.length ≤ 1048576
    · exact walk_small (x, y, z, a2, 0) ⟨wx, wy, wz, w2⟩ a cap l W hI hb
    · exact walk_big (x, y, z, a2, 0) a l.length cap W hlen (by omega)
  refine (wk).mono fun e W' ⟨he, hb⟩ => ?_
  subst he
  exact ⟨_, rfl, lift.law_post laidOut (by kernel_rfl) (by kernel_rfl) (by kernel_rfl) Try.underlying4 (by rw [Try.params7]; exact isLaw) hW' hb⟩

theorem over : Rows.fnExactBalanceOfRow.holds Try.pinned (OpenSpec.ofChange Rows.fnExactBalanceOfSpec) :=
  OpenClaim.holds_of_wide 7 Try.f7 rfl rfl rfl rfl rfl rfl rfl ⟨rfl, rfl, rfl, rfl, rfl⟩ rfl rfl rfl rfl rfl (by kernel_rfl) Try.func7 (by kernel_rfl)
    (of_decide_eq_true (by kernel_rfl)) (by unfold Func.isWrapper; first | (rw [if_pos (by decide +kernel)]; kernel_rfl) | (rw [if_neg (by decide +kernel)]; exact ⟨rfl, rfl⟩))
    (fun os started H enc _ => lifted os started H enc)

theorem proved : Rows.FnExactBalanceOfSaid := over
#print axioms proved
end Go.Proofs.Ytnkdjnfbllkgiaa.fnExactBalanceOf
