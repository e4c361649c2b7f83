/-
  Proved: for every order, the landed OpenOf answers as its model does and writes into no argument; the law laws.FnExactOpenOf returns true and its arguments read as before. Conditions: none beyond the given row.
-/
import Derived.Test.YtmaejlfjdkkpdaaOo6
import Derived.Test.YtmaejlfjdkkpdaaSz6
import Derived.Test.YtmaejlfjdkkpdaaTO6
import Derived.Test.YtmaejlfjdkkpdaaEq6
import Derived.Deep.RegionHeld3
namespace Go.Proofs.Ytmaejlfjdkkpdaa.fnExactOpenOf
open Go.ChangeShapes Go.WideShapes Go.ChangeAt Go.RowKit
open gen
open seven (F7 zz)
open four (F4)
open pls (nth Pls OL InpP)
open ob (OB)
set_option maxRecDepth 100000 in
set_option maxHeartbeats 8000000 in
theorem walk (s : ord.Sc) (ai : Option Addr) (ci : Nat) (l : List F4) (ap : Option Addr) (cp : Nat) (p : List (List F7)) (w : World) (h1 : four.Inp w ai l) (h2 : InpP w ap p) (hl : l.length ≤ maxLen) (hn : p.length ≤ maxLen) (hm : ∀ i, i < p.length → (nth p i).length ≤ maxLen) :
    Calls Try.prog 8 #[.agg #[.int .i64 s.id, .int .i64 s.co, .int .i64 s.me, .int .i64 s.cu, .int .i64 s.da, .int .i64 s.nn, .int .i64 s.ra, .int .i64 s.nu, .int .i64 s.de, .slice ai l.length ci, .slice ap p.length cp, .int .i64 s.op, .int .i64 s.up]] w fun e w' => e = .returned (.bool true) ∧ Below w.heap.size w w' := by
  have B0 := Lib.hid (show Below w.heap.size w (w.alloc (.cells #[.int .i64 s.id, .int .i64 s.co, .int .i64 s.me, .int .i64 s.cu, .int .i64 s.da, .int .i64 s.nn, .int .i64 s.ra, .int .i64 s.nu, .int .i64 s.de, .slice ai l.length ci, .slice ap p.length cp, .int .i64 s.op, .int .i64 s.up] 25)) from bAl (Below.refl _ _) (Nat.le_refl _) _)
  have O0 := Lib.hid (OB.new w s ai l.length ci ap p.length cp 25)
  have z0 : (w.alloc (.cells #[.int .i64 s.id, .int .i64 s.co, .int .i64 s.me, .int .i64 s.cu, .int .i64 s.da, .int .i64 s.nn, .int .i64 s.ra, .int .i64 s.nu, .int .i64 s.de, .slice ai l.length ci, .slice ap p.length cp, .int .i64 s.op, .int .i64 s.up] 25)).heap.size = w.heap.size + 1 := by simp only [sz_al]
  have SZ := pls.szO s ai ci l ap cp p (w.alloc (.cells #[.int .i64 s.id, .int .i64 s.co, .int .i64 s.me, .int .i64 s.cu, .int .i64 s.da, .int .i64 s.nn, .int .i64 s.ra, .int .i64 s.nu, .int .i64 s.de, .slice ai l.length ci, .slice ap p.length cp, .int .i64 s.op, .int .i64 s.up] 25)) (h2.below B0.out) hl hn hm
  by_cases hT : l.length + (p.length + pls.tl p p.length) ≤ 1048576
  · rw [pls.lft_t hT] at SZ
    have hl' : l.length ≤ 1048576 := by omega
    have hn' : p.length ≤ 1048576 := by omega
    have hm' : ∀ i, i < p.length → (nth p i).length ≤ 1048576 := fun i hi => by have := pls.tl_le p hi; omega
    obtain ⟨d, hd⟩ : ∃ d, d = 1048576 - (l.length + (p.length + pls.tl p p.length)) := ⟨_, rfl⟩
    rw [← hd] at SZ
    have t1 : decide ((d : Int) < 0) = false := by simp
    have CT := Lib.hid (fun W (hb : Below w.heap.size w W) => pls.toO s ai ci l ap cp p W (h1.below hb) (h2.below hb) hl' hn' hm')
    have CSP := Lib.hid (fun W B gi gp gs (h : OL W B l p (some ⟨gi, 0, none⟩) l.length gi (some ⟨gp, 0, none⟩) p.length gp gs (fun i => (nth p i).length)) => ob.opS W B s _ _ _ l _ _ _ p gs _ h hl' hn' (fun i hi => Nat.le_trans (hm' i hi) (by omega)))
    have CIM := Lib.hid (fun W B gi gp gs (h : OL W B l p (some ⟨gi, 0, none⟩) l.length gi (some ⟨gp, 0, none⟩) p.length gp gs (fun i => (nth p i).length)) => ob.opI W B s _ _ _ l _ _ _ p gs _ h hl' hn' (fun i hi => Nat.le_trans (hm' i hi) (by omega)))
    have CEQ := Lib.hid (fun W B B' gi gp gs gi' gp' gs' (h : OL W B l p (some ⟨gi, 0, none⟩) l.length gi (some ⟨gp, 0, none⟩) p.length gp gs (fun i => (nth p i).length)) (h' : OL W B' l p (some ⟨gi', 0, none⟩) l.length gi' (some ⟨gp', 0, none⟩) p.length gp' gs' (fun i => (nth p i).length)) => pls.eqOT W s l p B B' _ _ _ _ _ _ _ _ _ _ _ _ gs _ gs' _ h h' hl' hn' hm')
    clear h1 h2 hm hm' hd hT hl hn
    generalize ob.oof s l p = V at CSP CIM
    go_enter Try.func8, Try.ntmps8
    go_wp2_with fail
    generalize w.alloc (.cells #[.int .i64 s.id, .int .i64 s.co, .int .i64 s.me, .int .i64 s.cu, .int .i64 s.da, .int .i64 s.nn, .int .i64 s.ra, .int .i64 s.nu, .int .i64 s.de, .slice ai l.length ci, .slice ap p.length cp, .int .i64 s.op, .int .i64 s.up] 25) = W0 at B0 O0 z0 SZ ⊢
    have ob := Lib.hid (show w.heap.size < W0.heap.size by omega)
    refine SZ.mono ?_
    rintro e w1 ⟨rfl, b⟩
    have B1 := Lib.hid (B0.out.trans (b.mono B0.out.size))
    have O1 := Lib.hid (O0.out.keep (b.block w.heap.size ob.out))
    have z1 := b.size
    obtain ⟨y0, y1, y2, y3, y4, y5, y6, y7, y8, y9, y10, y11, y12⟩ := O1.out
    clear b B0 O0 ob
    go_wp2_with fail
    refine (CT.out w1 B1.out).mono ?_
    rintro e w2 ⟨gi, gp, gs, rfl, ol, -, -, -, b⟩
    have OL2 := Lib.hid ol
    have B2 := Lib.hid (B1.out.trans (b.mono B1.out.size))
    have O2 := Lib.hid (O1.out.keep (b.block w.heap.size (by omega)))
    have z2 := b.size
    clear b ol B1 O1 y0 y1 y2 y3 y4 y5 y6 y7 y8 y9 y10 y11 y12
    go_wp2_with fail
    refine (CSP.out w2 w1.heap.size gi gp gs OL2.out).mono ?_
    rintro e w3 ⟨rfl, b⟩
    have B3 := Lib.hid (B2.out.trans (b.mono B2.out.size))
    have O3 := Lib.hid (O2.out.keep (b.block w.heap.size (by omega)))
    have z3 := b.size
    clear b B2 O2 OL2
    obtain ⟨y0, y1, y2, y3, y4, y5, y6, y7, y8, y9, y10, y11, y12⟩ := O3.out
    go_wp2_with fail
    refine (CT.out w3 B3.out).mono ?_
    rintro e w4 ⟨gx, hx, gsx, rfl, ol, -, -, -, b⟩
    have B4 := Lib.hid ((B3.out.trans (b.mono B3.out.size)).alloc (B3.out.trans (b.mono B3.out.size)).size (.cells #[.int .i64 s.id, .int .i64 s.co, .int .i64 s.me, .int .i64 s.cu, .int .i64 s.da, .int .i64 s.nn, .int .i64 s.ra, .int .i64 s.nu, .int .i64 s.de, .slice (some ⟨gx, 0, none⟩) l.length l.length, .slice (some ⟨hx, 0, none⟩) p.length p.length, .int .i64 s.op, .int .i64 s.up] 31))
    have LX := Lib.hid (ol.below ((Below.refl w4.heap.size w4).alloc (Nat.le_refl _) (.cells #[.int .i64 s.id, .int .i64 s.co, .int .i64 s.me, .int .i64 s.cu, .int .i64 s.da, .int .i64 s.nn, .int .i64 s.ra, .int .i64 s.nu, .int .i64 s.de, .slice (some ⟨gx, 0, none⟩) l.length l.length, .slice (some ⟨hx, 0, none⟩) p.length p.length, .int .i64 s.op, .int .i64 s.up] 31)))
    have OX := Lib.hid (OB.new w4 s (some ⟨gx, 0, none⟩) l.length l.length (some ⟨hx, 0, none⟩) p.length p.length 31)
    have O4 := Lib.hid ((O3.out.keep (b.block w.heap.size (by omega))).keep (Below.heap_alloc w4 (.cells #[.int .i64 s.id, .int .i64 s.co, .int .i64 s.me, .int .i64 s.cu, .int .i64 s.da, .int .i64 s.nn, .int .i64 s.ra, .int .i64 s.nu, .int .i64 s.de, .slice (some ⟨gx, 0, none⟩) l.length l.length, .slice (some ⟨hx, 0, none⟩) p.length p.length, .int .i64 s.op, .int .i64 s.up] 31) w.heap.size (by have := b.size; omega)))
    have z4 := b.size
    have z4' : (w4.alloc (.cells #[.int .i64 s.id, .int .i64 s.co, .int .i64 s.me, .int .i64 s.cu, .int .i64 s.da, .int .i64 s.nn, .int .i64 s.ra, .int .i64 s.nu, .int .i64 s.de, .slice (some ⟨gx, 0, none⟩) l.length l.length, .slice (some ⟨hx, 0, none⟩) p.length p.length, .int .i64 s.op, .int .i64 s.up] 31)).heap.size = w4.heap.size + 1 := by simp only [sz_al]
    clear b ol B3 O3 y0 y1 y2 y3 y4 y5 y6 y7 y8 y9 y10 y11 y12
    go_wp2_with fail
    obtain ⟨bx, hbx⟩ : ∃ bx, bx = w4.heap.size := ⟨_, rfl⟩
    have HW4 := Lib.hid (Nat.le_refl w4.heap.size)
    rw [← hbx] at OX z4' z4 ⊢
    generalize w4.alloc (.cells #[.int .i64 s.id, .int .i64 s.co, .int .i64 s.me, .int .i64 s.cu, .int .i64 s.da, .int .i64 s.nn, .int .i64 s.ra, .int .i64 s.nu, .int .i64 s.de, .slice (some ⟨gx, 0, none⟩) l.length l.length, .slice (some ⟨hx, 0, none⟩) p.length p.length, .int .i64 s.op, .int .i64 s.up] 31) = W4 at B4 LX OX O4 z4' ⊢
    clear hbx HW4
    refine (CIM.out W4 _ gx hx gsx LX.out).mono ?_
    rintro e w5 ⟨rfl, b⟩
    have B5 := Lib.hid (B4.out.trans (b.mono B4.out.size))
    replace LX := Lib.hid (LX.out.below b)
    replace OX := Lib.hid (OX.out.keep (b.block bx (by omega)))
    replace O4 := Lib.hid (O4.out.keep (b.block w.heap.size (by omega)))
    have z5 := b.size
    clear b B4
    have tv : (V != V) = false := by simp
    have KS := Lib.hid (show ∀ W, OB W w.heap.size s ai l.length ci ap p.length cp → OB W bx s (some ⟨gx, 0, none⟩) l.length l.length (some ⟨hx, 0, none⟩) p.length p.length → (W.cell? ⟨w.heap.size, 0, none⟩ = some (.int .i64 s.id) ∧ W.cell? ⟨w.heap.size, 1, none⟩ = some (.int .i64 s.co) ∧ W.cell? ⟨w.heap.size, 2, none⟩ = some (.int .i64 s.me) ∧ W.cell? ⟨w.heap.size, 3, none⟩ = some (.int .i64 s.cu) ∧ W.cell? ⟨w.heap.size, 4, none⟩ = some (.int .i64 s.da) ∧ W.cell? ⟨w.heap.size, 5, none⟩ = some (.int .i64 s.nn) ∧ W.cell? ⟨w.heap.size, 6, none⟩ = some (.int .i64 s.ra) ∧ W.cell? ⟨w.heap.size, 7, none⟩ = some (.int .i64 s.nu) ∧ W.cell? ⟨w.heap.size, 8, none⟩ = some (.int .i64 s.de) ∧ W.cell? ⟨w.heap.size, 9, none⟩ = some (.slice ai l.length ci) ∧ W.cell? ⟨w.heap.size, 10, none⟩ = some (.slice ap p.length cp) ∧ W.cell? ⟨w.heap.size, 11, none⟩ = some (.int .i64 s.op) ∧ W.cell? ⟨w.heap.size, 12, none⟩ = some (.int .i64 s.up) ∧ W.cell? ⟨bx, 0, none⟩ = some (.int .i64 s.id) ∧ W.cell? ⟨bx, 1, none⟩ = some (.int .i64 s.co) ∧ W.cell? ⟨bx, 2, none⟩ = some (.int .i64 s.me) ∧ W.cell? ⟨bx, 3, none⟩ = some (.int .i64 s.cu) ∧ W.cell? ⟨bx, 4, none⟩ = some (.int .i64 s.da) ∧ W.cell? ⟨bx, 5, none⟩ = some (.int .i64 s.nn) ∧ W.cell? ⟨bx, 6, none⟩ = some (.int .i64 s.ra) ∧ W.cell? ⟨bx, 7, none⟩ = some (.int .i64 s.nu) ∧ W.cell? ⟨bx, 8, none⟩ = some (.int .i64 s.de) ∧ W.cell? ⟨bx, 9, none⟩ = some (.slice (some ⟨gx, 0, none⟩) l.length l.length) ∧ W.cell? ⟨bx, 10, none⟩ = some (.slice (some ⟨hx, 0, none⟩) p.length p.length) ∧ W.cell? ⟨bx, 11, none⟩ = some (.int .i64 s.op) ∧ W.cell? ⟨bx, 12, none⟩ = some (.int .i64 s.up)) from fun W h k => ⟨h.c0, h.c1, h.c2, h.c3, h.c4, h.c5, h.c6, h.c7, h.c8, h.c9, h.c10, h.c11, h.c12, k.c0, k.c1, k.c2, k.c3, k.c4, k.c5, k.c6, k.c7, k.c8, k.c9, k.c10, k.c11, k.c12⟩)
    have SD := Lib.hid (KS.out w5.drew (O4.out.keep rfl) (OX.out.keep rfl))
    have S0 := Lib.hid (KS.out w5 O4.out OX.out)
    have BD := Lib.hid B5.out.drew
    have LD := Lib.hid (LX.out.below ((Below.refl w5.heap.size w5).drew))
    have zo : w.heap.size < w5.heap.size := by have := O4.out.lt; exact this
    have zx : bx < w5.heap.size := OX.out.lt
    have O4d := Lib.hid (O4.out.keep (w' := w5.drew) rfl)
    have OXd := Lib.hid (OX.out.keep (w' := w5.drew) rfl)
    clear O4 OX
    go_wp2_with fail
    go_region_held3 (fun w' => w'.cell? ⟨w.heap.size, 0, none⟩ = some (.int .i64 s.id) ∧ w'.cell? ⟨w.heap.size, 1, none⟩ = some (.int .i64 s.co) ∧ w'.cell? ⟨w.heap.size, 2, none⟩ = some (.int .i64 s.me) ∧ w'.cell? ⟨w.heap.size, 3, none⟩ = some (.int .i64 s.cu) ∧ w'.cell? ⟨w.heap.size, 4, none⟩ = some (.int .i64 s.da) ∧ w'.cell? ⟨w.heap.size, 5, none⟩ = some (.int .i64 s.nn) ∧ w'.cell? ⟨w.heap.size, 6, none⟩ = some (.int .i64 s.ra) ∧ w'.cell? ⟨w.heap.size, 7, none⟩ = some (.int .i64 s.nu) ∧ w'.cell? ⟨w.heap.size, 8, none⟩ = some (.int .i64 s.de) ∧ w'.cell? ⟨w.heap.size, 9, none⟩ = some (.slice ai l.length ci) ∧ w'.cell? ⟨w.heap.size, 10, none⟩ = some (.slice ap p.length cp) ∧ w'.cell? ⟨w.heap.size, 11, none⟩ = some (.int .i64 s.op) ∧ w'.cell? ⟨w.heap.size, 12, none⟩ = some (.int .i64 s.up) ∧ w'.cell? ⟨bx, 0, none⟩ = some (.int .i64 s.id) ∧ w'.cell? ⟨bx, 1, none⟩ = some (.int .i64 s.co) ∧ w'.cell? ⟨bx, 2, none⟩ = some (.int .i64 s.me) ∧ w'.cell? ⟨bx, 3, none⟩ = some (.int .i64 s.cu) ∧ w'.cell? ⟨bx, 4, none⟩ = some (.int .i64 s.da) ∧ w'.cell? ⟨bx, 5, none⟩ = some (.int .i64 s.nn) ∧ w'.cell? ⟨bx, 6, none⟩ = some (.int .i64 s.ra) ∧ w'.cell? ⟨bx, 7, none⟩ = some (.int .i64 s.nu) ∧ w'.cell? ⟨bx, 8, none⟩ = some (.int .i64 s.de) ∧ w'.cell? ⟨bx, 9, none⟩ = some (.slice (some ⟨gx, 0, none⟩) l.length l.length) ∧ w'.cell? ⟨bx, 10, none⟩ = some (.slice (some ⟨hx, 0, none⟩) p.length p.length) ∧ w'.cell? ⟨bx, 11, none⟩ = some (.int .i64 s.op) ∧ w'.cell? ⟨bx, 12, none⟩ = some (.int .i64 s.up)) (first | exact S9.out | exact S7.out | exact SD.out | exact S0.out | go_keep)
      (first
        | (go_at_call 18; refine (CEQ.out w7 _ _ gx hx gsx gy hy gsy LX7.out LY.out).mono ?_; rintro e w8 ⟨rfl, b8⟩; have B8 := Lib.hid (B7.out.trans (b8.mono B7.out.size)); have S9 := Lib.hid (KS.out w8 (O7.out.keep (b8.block w.heap.size O7.out.lt)) (OX7.out.keep (b8.block bx OX7.out.lt))); clear b8)
        | (go_at_call 16; refine (CT.out _ BD.out).mono ?_; rintro e w7 ⟨gy, hy, gsy, rfl, ol, -, -, -, b7⟩; have B7 := Lib.hid (BD.out.trans (b7.mono BD.out.size)); have LX7 := Lib.hid (LD.out.below b7); have LY := Lib.hid ol; have O7 := Lib.hid (O4d.out.keep (b7.block w.heap.size zo)); have OX7 := Lib.hid (OXd.out.keep (b7.block bx zx)); have S7 := Lib.hid (KS.out w7 O7.out OX7.out); clear b7 ol))
    all_goals
      go_wp2
      go_ret
      exact ⟨rfl, B8.out⟩
  · rw [pls.lft_f hT] at SZ
    have t1 : decide ((-1 : Int) < 0) = true := by decide
    clear h1 h2 hm hT hl hn
    go_enter Try.func8, Try.ntmps8
    go_wp2_with fail
    refine SZ.mono ?_
    rintro e w1 ⟨rfl, b⟩
    have B1 := Lib.hid (B0.out.trans (b.mono B0.out.size))
    clear b
    go_wp2
    go_ret
    exact ⟨rfl, B1.out⟩

theorem own : ownKnob Try.prog.godebug = none := by kernel_rfl
theorem laidOut : laidOutB Try.prog = true := by kernel_rfl
theorem isLaw : lift.IsLaw Rows.fnExactOpenOfSpec 1 0 := fun _ ds gs h1 h2 => match ds, h1 with | [_], _ => match gs, h2 with | [], _ => rfl

set_option maxRecDepth 100000 in
theorem lifted (os : Os) (started : os.Started) (H : Type) (enc : TypeId × Value → H) :
    ReturnsInHanded {} Try.checked os 8 .any (Rows.fnExactOpenOfSpec.pre6 enc Try.prog Try.f8 Rows.fnExactOpenOfRow.domain false) (Rows.fnExactOpenOfSpec.post enc Try.prog Try.f8 false true false false) := by
  refine returnsInHanded_of_change (C := Try.checked) own started (by kernel_rfl) Try.func8
    (ChangeSpec.witness6 (enc := enc) (C := Try.checked) false ⟨#[], #[.agg #[.int .i64 0, .int .i64 0, .int .i64 0, .int .i64 0, .int .i64 0, .int .i64 0, .int .i64 0, .int .i64 0, .int .i64 0, .slice none 0 0, .slice none 0 0, .int .i64 0, .int .i64 0]], []⟩ 20 (by kernel_rfl) (by kernel_rfl) (by kernel_rfl) (by kernel_rfl)) ?_
  intro W base args ds gs before hval0 hW _ _
  have hval : ∀ (j : Nat) t v, Try.f8.params[j]? = some t → args[j]? = some v → Value.okWide Try.prog W .any base t v := hval0
  have hW' := hW
  obtain ⟨p, q, hA0, hV, hrest⟩ := hW
  have hA : DataW.TrodAll enc Try.prog W 0 (fun _ => true) true Try.f8.params.toList args.toList ds p := hA0
  clear hA0 hval0 hV hrest
  rw [Try.params8] at hA hval
  obtain ⟨v0, d0, rfl, rfl, h0⟩ := trodAll_one hA
  obtain ⟨s, ai, ci, l, ap, cp, pp, rfl, hl, hn, h1, h2, hm⟩ := pls.open_order (hval 0 25 v0 rfl rfl) h0
  refine (walk s ai ci l ap cp pp W h1 h2 hl hn hm).mono fun e W' ⟨he, hb⟩ => ?_
  subst he
  exact ⟨_, rfl, lift.law_post laidOut (by kernel_rfl) (by kernel_rfl) (by kernel_rfl) Try.underlying4 (by rw [Try.params8]; exact isLaw) hW' hb⟩

theorem over : Rows.fnExactOpenOfRow.holds Try.pinned (OpenSpec.ofChange Rows.fnExactOpenOfSpec) :=
  OpenClaim.holds_of_wide 8 Try.f8 rfl rfl rfl rfl rfl rfl rfl ⟨rfl, rfl, rfl, rfl, rfl⟩ rfl rfl rfl rfl rfl (by kernel_rfl) Try.func8 (by kernel_rfl)
    (of_decide_eq_true (by kernel_rfl)) (by unfold Func.isWrapper; first | (rw [if_pos (by decide +kernel)]; kernel_rfl) | (rw [if_neg (by decide +kernel)]; exact ⟨rfl, rfl⟩))
    (fun os started H enc _ => lifted os started H enc)

theorem proved : Rows.FnExactOpenOfSaid := over
#print axioms proved
end Go.Proofs.Ytmaejlfjdkkpdaa.fnExactOpenOf
