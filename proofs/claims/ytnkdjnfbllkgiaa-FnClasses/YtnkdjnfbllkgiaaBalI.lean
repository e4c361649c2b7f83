/-
  Plain helpers of this seat's proofs: the contracts of the landed balancesOf and BalanceOf. Conditions: none.
-/
import Derived.Test.YtnkdjnfbllkgiaaAddP
import Derived.Test.YtnkdjnfbllkgiaaLgI
namespace Go.Proofs.Ytnkdjnfbllkgiaa.mp
open Go.ChangeShapes Go.WideShapes Go.ChangeAt Go.RowKit
open Go.ChangeMaps (setBlock)
open led (F5 z5 nn wn same at4 addE Apart addK addAll)
open five (Row At)
theorem LV.fit {l : List F5} (h : led.LV l) : Fit l := ⟨fun i hi => W4.of_in (led.plok_in (h.2 i hi).pl), fun i hi => led.inR_iff.1 (h.2 i hi).far⟩
theorem BV.fit {l : List F5} (h : led.BV l) : Fit l := ⟨fun i hi => W4.of_in (led.plok_in (h.2 i hi).1), fun i hi => by have := led.inR_iff.1 (h.2 i hi).2; omega⟩
theorem mkHint (n : Int) (w : World) : (Instr.makeMap 68 (some (.int .i64 n))).run Try.prog w = .ok (.map (some w.heap.size)) (w.alloc (.map #[] 0)) := by
  simp [Instr.makeMap, run_underlying Try.underlying68, asInt, asIntOf, Result.andThen]
set_option maxRecDepth 40000 in
set_option maxHeartbeats 1000000 in
theorem balsI (w : World) (a : Option Addr) (cap g : Nat) (l : List F5) (r : Row w a cap g l) (h : led.LV l) :
    Calls Try.prog 51 #[.slice a l.length cap] w fun e w' => e = .returned (.map (some w.heap.size)) ∧ Is w' w.heap.size l ∧ Below w.heap.size w w' := by
  have hmm := mkHint
  have m1 := r.room
  have hl := h.1
  have C := Lib.hid (addP w (w.alloc (.map #[] 0)) w.heap.size 0 [] a cap g l r ((Below.refl _ _).alloc (Nat.le_refl _) _) (Nat.le_refl _) ⟨#[], 0, heap_alloc_new w _, Ent.empty⟩ (fun x hx => by simp at hx) (LV.fit h) (by omega))
  have E := Lib.hid (led.addAll_nil (led.LV_SS h))
  have B0 := Lib.hid ((Below.refl w.heap.size w).alloc (Nat.le_refl _) (.map #[] 0))
  clear r h
  go_enter Try.func51, Try.ntmps51
  go_wp2_with fail
  refine C.out.mono ?_
  rintro e w1 ⟨rfl, M1, b1⟩
  rw [E.out] at M1
  have MM := Lib.hid M1
  have BB := Lib.hid (B0.out.trans b1)
  clear M1 b1
  go_wp2
  go_ret
  exact ⟨rfl, MM.out, BB.out⟩
/-- What BalanceOf answers. -/
noncomputable def blv (l : List F5) (p : F5) : Int := if led.lv l = true then at4 l p else 0
theorem blv_t {l : List F5} {p : F5} (h : led.lv l = true) : blv l p = at4 l p := if_pos h
theorem blv_f {l : List F5} {p : F5} (h : led.lv l = false) : blv l p = 0 := if_neg (by rw [h]; decide)
set_option maxRecDepth 40000 in
set_option maxHeartbeats 1000000 in
theorem blI (w : World) (a : Option Addr) (cap g : Nat) (l : List F5) (p : F5) (r : Row w a cap g l) (hp : W4 p) (hn : l.length ≤ 1048577) :
    Calls Try.prog 30 #[.slice a l.length cap, .agg #[.int .i64 p.1, .int .i64 p.2.1, .int .i64 p.2.2.1], .int .i64 p.2.2.2.1] w fun e w' => e = .returned (.int .i64 (blv l p)) ∧ Below w.heap.size w w' := by
  have R := Lib.hid r
  have HP := Lib.hid hp
  have m1 := r.room
  obtain ⟨W0, hW0⟩ : ∃ W0, W0 = w.alloc (.cells #[.int .i64 p.1, .int .i64 p.2.1, .int .i64 p.2.2.1] 25) := ⟨_, rfl⟩
  have K0 := Lib.hid (show Below (w.heap.size + 1) (w.alloc (.cells #[.int .i64 p.1, .int .i64 p.2.1, .int .i64 p.2.2.1] 25)) W0 from by rw [hW0]; exact five.box_refl w _)
  have KEEP := Lib.hid (show ∀ w', Below (w.heap.size + 1) (w.alloc (.cells #[.int .i64 p.1, .int .i64 p.2.1, .int .i64 p.2.2.1] 25)) w' → Row w' a cap g l from fun w' hb => R.out.keep fun h => (five.below_box hb).block g (R.out.lt h))
  have CL := Lib.hid (base.lgI W0 a cap g l (KEEP.out W0 K0.out) hn)
  clear r hp
  cases hv : led.lv l with
  | false =>
    have E := Lib.hid (blv_f (p := p) hv)
    rw [hv] at CL
    clear hv
    go_enter Try.func30, Try.ntmps30
    go_wp2_with fail
    rw [← hW0]
    clear hW0
    refine CL.out.mono ?_
    rintro e w1 ⟨rfl, b1⟩
    have K1 := Lib.hid (five.box_step K0.out b1)
    clear b1
    go_wp2
    go_ret
    exact ⟨by rw [E.out]; rfl, five.below_box K1.out⟩
  | true =>
    have E := Lib.hid (blv_t (p := p) hv)
    have LVT := Lib.hid (led.lv_iff.1 hv)
    rw [hv] at CL
    clear hv
    go_enter Try.func30, Try.ntmps30
    go_wp2_with fail
    rw [← hW0]
    clear hW0
    refine CL.out.mono ?_
    rintro e w1 ⟨rfl, b1⟩
    have K1 := Lib.hid (five.box_step K0.out b1)
    clear b1
    have CB := Lib.hid (show ∀ W, Below (w.heap.size + 1) (w.alloc (.cells #[.int .i64 p.1, .int .i64 p.2.1, .int .i64 p.2.2.1] 25)) W → _ from fun W hb => balsI W a cap g l (KEEP.out W hb) LVT.out)
    have K1d := Lib.hid (K1.out.drew)
    have b0 := five.box_cell K1d.out 0 rfl
    have b1 := five.box_cell K1d.out 1 rfl
    have b2 := five.box_cell K1d.out 2 rfl
    go_wp2_with fail
    go_region_with (go_at_call 51; refine (CB.out _ ?_).mono ?_; (first | exact K1d.out | exact K1.out.drew.drew); rintro e w2 ⟨rfl, M2, bb2⟩; have K2 := Lib.hid (five.box_step K1d.out bb2); have hlk := look (b := w1.heap.size) M2 HP.out; unfold kv at hlk; clear M2 bb2; have n0 := five.box_cell K2.out 0 rfl; have n1 := five.box_cell K2.out 1 rfl; have n2 := five.box_cell K2.out 2 rfl)
    all_goals
      clear hlk n0 n1 n2 b0 b1 b2
      go_wp2
      go_ret
      exact ⟨by rw [E.out]; rfl, five.below_box K2.out⟩
end Go.Proofs.Ytnkdjnfbllkgiaa.mp
