/-
  Plain helpers of this seat's proofs: the contract of the function that draws a plan from a code, and the parts of a plan. Conditions: none.
-/
import Derived.Test.YtmnmijiikjpdnaaDrL
import Derived.Test.YtmnmijiikjpdnaaRwO
namespace Go.Proofs.Ytmnmijiikjpdnaa.base
open Go.ChangeShapes Go.WideShapes Go.ChangeAt Go.RowKit
open seven (F7 zz Row At)
open draw (Only Got GotB GotW Bytes)
/-- A plan, drawn from a code. -/
def GotP1 (w : World) (e : Ending) (w' : World) : Prop := ∃ cap g, ∃ l : List F7, e = .returned (.slice (some ⟨g, 0, none⟩) l.length cap) ∧ Row w' (some ⟨g, 0, none⟩) cap g l ∧ w.heap.size ≤ g ∧ g < w'.heap.size ∧ 1 ≤ l.length ∧ l.length ≤ 24 ∧ Below w.heap.size w w'
theorem drawPlan (a : Option Addr) (len cap : Nat) (w : World) (hB : Bytes w a len) (hn : len ≤ 1048576) : Calls Try.prog 63 #[.slice a len cap] w (GotP1 w) := by
  have HB := Lib.hid hB
  clear hB
  go_enter Try.func63, Try.ntmps63
  go_wp2_with fail
  refine (draw.openRd a len cap w HB.out hn).mono ?_
  rintro e w1 ⟨rfl, r1, b1⟩
  have R1 := Lib.hid r1
  have B1 := Lib.hid b1
  have s1 : w.heap.size < w1.heap.size := r1.lt
  clear r1 b1
  obtain ⟨b, hb⟩ : ∃ b, b = w.heap.size := ⟨_, rfl⟩
  rw [← hb] at R1 ⊢
  have HBb := Lib.hid hb
  clear hb
  go_wp2_with fail
  refine (plan w1 b len R1.out).mono ?_
  rintro e w2 ⟨cp, g, l, rfl, rl, g1, g2, p1, p24, wfd, o2, r2⟩
  have FIN := Lib.hid (show GotP1 w (.returned (.slice (some ⟨g, 0, none⟩) l.length cp)) w2 from ⟨cp, g, l, rfl, rl, by omega, g2, p1, p24, draw.back HBb.out B1.out o2⟩)
  clear rl r2 o2 wfd R1
  go_wp2
  go_ret
  exact FIN.out
theorem drawSums (a : Option Addr) (len cap : Nat) (w : World) (hB : Bytes w a len) (hn : len ≤ 1048576) : Calls Try.prog 40 #[.slice a len cap] w (GotP1 w) := by
  have HB := Lib.hid hB
  clear hB
  go_enter Try.func40, Try.ntmps40
  go_wp2_with fail
  refine (drawPlan a len cap w HB.out hn).mono ?_
  rintro e w1 ⟨cp, g, l, rfl, rest⟩
  have RE := Lib.hid rest
  clear rest
  go_wp2
  go_ret
  exact ⟨cp, g, l, rfl, RE.out⟩
theorem take_get {l : List F7} {h i : Nat} (hi : i < h) : (l.take h).getD i zz = l.getD i zz := by
  rw [List.getD_eq_getElem?_getD, List.getD_eq_getElem?_getD, List.getElem?_take, if_pos hi]
theorem drop_get {l : List F7} {h i : Nat} : (l.drop h).getD i zz = l.getD (h + i) zz := by
  rw [List.getD_eq_getElem?_getD, List.getD_eq_getElem?_getD, List.getElem?_drop]
theorem take_row {w : World} {cap g h : Nat} {l : List F7} (r : Row w (some ⟨g, 0, none⟩) cap g l) (hh : h ≤ l.length) : Row w (some ⟨g, 0, none⟩) cap g (l.take h) := by
  have e : (l.take h).length = h := by rw [List.length_take]; omega
  refine ⟨fun _ => rfl, by have := r.room; omega, fun i hi => ?_, fun k => r.free (by omega)⟩
  rw [e] at hi
  rw [take_get hi]; exact r.cells i (by omega)
theorem drop_row {w : World} {cap g h : Nat} {l : List F7} (r : Row w (some ⟨g, 0, none⟩) cap g l) (hh : h ≤ l.length) : RowO w (cap - h) g (h * 7) (l.drop h) := by
  have e : (l.drop h).length = l.length - h := by rw [List.length_drop]
  refine ⟨by have := r.room; omega, fun i hi => ?_⟩
  rw [e] at hi
  rw [drop_get, ← Nat.add_mul]
  exact r.cells (h + i) (by omega)
theorem take_pv {l : List F7} (hv : pl.PV l) {h : Nat} (hh : h ≤ l.length) : pl.PV (l.take h) := by
  have e : (l.take h).length = h := by rw [List.length_take]; omega
  refine ⟨by have := hv.1; omega, fun i hi => ?_⟩
  rw [e] at hi
  have q := hv.2 i (by omega)
  exact ⟨by rw [take_get hi]; exact q.ok, fun h0 => by rw [take_get hi, take_get (by omega)]; exact q.up h0⟩
theorem drop_pv {l : List F7} (hv : pl.PV l) {h : Nat} (hh : h ≤ l.length) : pl.PV (l.drop h) := by
  have e : (l.drop h).length = l.length - h := by rw [List.length_drop]
  refine ⟨by have := hv.1; omega, fun i hi => ?_⟩
  rw [e] at hi
  have q := hv.2 (h + i) (by omega)
  exact ⟨by rw [drop_get]; exact q.ok, fun h0 => by rw [drop_get, drop_get, show h + (i - 1) = h + i - 1 by omega]; exact q.up (by omega)⟩
theorem tot_app (f : F7 → Int) : ∀ (a b : List F7), tot f (a ++ b) = tot f a + tot f b
  | [], b => by simp [tot]
  | x :: a, b => by
    show f x + tot f (a ++ b) = f x + tot f a + tot f b
    rw [tot_app f a b]; omega
theorem tot_cut (f : F7 → Int) (l : List F7) (h : Nat) : tot f l = tot f (l.take h) + tot f (l.drop h) := by
  rw [← tot_app, List.take_append_drop]
end Go.Proofs.Ytmnmijiikjpdnaa.base
