/-
  Plain helpers of this seat's proofs: a drawn text, spoiled. Conditions: none.
-/
import Derived.Test.YtpogfdeioibkdaaGreatDoorJDr
import Derived.Test.YtpogfdeioibkdaaGreatDoorSpw
import Derived.IntWalk
import Derived.Deep.RegionHeld3
import Derived.Deep.RegionWith
namespace Go.Proofs.YtpogfdeioibkdaaGreatDoor.draw
open Go.ChangeShapes Go.WideShapes Go.ChangeAt Go.RowKit
open ptm (ext0 ext1)
/-- A drawn text. -/
def GotS (w : World) (b len n : Nat) (e : Ending) (w' : World) : Prop :=
  ∃ l : List UInt8, l.length ≤ n ∧ e = .returned (.string ⟨l.toArray⟩) ∧ Only b w w' ∧ Rd w' b len
theorem four {w : World} {g k : Nat} {v0 v1 v2 v3 : Value} (h : w.cell? ⟨g, k, none⟩ = #[v0, v1, v2, v3][k]?) (hk : k < 4) : ∃ v, w.cell? ⟨g, k, none⟩ = some v ∧ (v = v0 ∨ v = v1 ∨ v = v2 ∨ v = v3) := by
  rw [h]
  obtain rfl | rfl | rfl | rfl : k = 0 ∨ k = 1 ∨ k = 2 ∨ k = 3 := by omega
  all_goals simp

theorem pick (k : Nat) (h : k < 4) : ∃ c : UInt8, (#[Value.string ⟨#[0]⟩, Value.string ⟨#[55]⟩, Value.string ⟨#[255]⟩, Value.string ⟨#[32]⟩] : Array Value)[k]? = some (.string ⟨#[c]⟩) := by
  obtain rfl | rfl | rfl | rfl : k = 0 ∨ k = 1 ∨ k = 2 ∨ k = 3 := by omega
  all_goals exact ⟨_, rfl⟩
theorem pick_new {w : World} {k : Nat} {c : UInt8} (hy : (#[Value.string ⟨#[0]⟩, Value.string ⟨#[55]⟩, Value.string ⟨#[255]⟩, Value.string ⟨#[32]⟩] : Array Value)[k]? = some (.string ⟨#[c]⟩)) :
    (w.alloc (.cells #[Value.string ⟨#[0]⟩, Value.string ⟨#[55]⟩, Value.string ⟨#[255]⟩, Value.string ⟨#[32]⟩] 9)).cell? ⟨w.heap.size, k, none⟩ = some (.string ⟨#[c]⟩) := (World.cell?_alloc_new w _ _ k).trans hy

theorem pick_old {w w3 : World} {b k : Nat} {c : UInt8} (h : Only b (w.alloc (.cells #[Value.string ⟨#[0]⟩, Value.string ⟨#[55]⟩, Value.string ⟨#[255]⟩, Value.string ⟨#[32]⟩] 9)).drew w3) (hb : w.heap.size ≠ b) (hy : (#[Value.string ⟨#[0]⟩, Value.string ⟨#[55]⟩, Value.string ⟨#[255]⟩, Value.string ⟨#[32]⟩] : Array Value)[k]? = some (.string ⟨#[c]⟩)) :
    w3.cell? ⟨w.heap.size, k, none⟩ = some (.string ⟨#[c]⟩) := (h.cell (k := w.heap.size) (o := k) (by show _ < (w.heap.push _).size; simp) hb).trans (pick_new (w := w) hy)

theorem str3 (l : List UInt8) (j : Nat) (y : UInt8) : (⟨l.toArray⟩ : ByteArray).extract 0 j ++ ⟨#[y]⟩ ++ (⟨l.toArray⟩ : ByteArray).extract (j + 1) l.length = ⟨(l.take j ++ [y] ++ l.drop (j + 1)).toArray⟩ := by
  rw [ext0, ext1]
  show (⟨(l.take j).toArray⟩ : ByteArray) ++ (⟨[y].toArray⟩ : ByteArray) ++ (⟨(l.drop (j + 1)).toArray⟩ : ByteArray) = _
  rw [dec.cat, dec.cat]
theorem len3 {l : List UInt8} {j : Nat} {y : UInt8} (h : j + 1 ≤ l.length) : (l.take j ++ [y] ++ l.drop (j + 1)).length ≤ l.length + 1 := by
  simp
  omega

set_option maxHeartbeats 1000000 in
theorem hurt (w : World) (b len : Nat) (l : List UInt8) (r : Rd w b len) (hl : l.length ≤ 1000000) : Calls Tryz.prog 20 #[.pointer (some ⟨b, 0, none⟩), .string ⟨l.toArray⟩] w (GotS w b len (l.length + 1)) := by
  have R := Lib.hid r
  clear r
  go_enter Tryz.func20, Tryz.ntmps20
  go_wp2_with fail
  refine (below w b len 6 R.out (by omega) (by omega)).mono ?_
  rintro e w1 ⟨x, x1, x2, rfl, b1, r1⟩
  have R1 := Lib.hid r1
  have B1 := Lib.hid b1
  clear r1 b1
  obtain rfl | rfl | rfl | hx : x = 1 ∨ x = 2 ∨ x = 3 ∨ ¬ (x = 1 ∨ x = 2 ∨ x = 3) := by omega
  · go_wp2_with fail
    refine (below w1 b len ((l.length : Int) + 1) R1.out (by omega) (by omega)).mono ?_
    rintro e w2 ⟨j, j1, j2, rfl, b2, r2⟩
    obtain ⟨j, rfl⟩ := Int.eq_ofNat_of_zero_le j1
    have R2 := Lib.hid r2
    have B2 := Lib.hid (B1.out.trans b2)
    have j3 : (j : Int) ≤ (l.length : Int) := by omega
    clear r2 b2 j1 j2
    go_wp2
    go_ret
    exact ⟨l.take j, by simp; omega, dec.ret_str (ext0 l j), B2.out, R2.out⟩
  · by_cases hz : l.length = 0
    · have z0 : decide ((0 : Int) < (l.length : Int)) = false := decide_eq_false (by omega)
      go_wp2
      go_ret
      exact ⟨l, by omega, rfl, B1.out, R1.out⟩
    · have z0 : decide ((0 : Int) < (l.length : Int)) = true := decide_eq_true (by omega)
      go_wp2_with fail
      refine (below w1 b len (l.length : Int) R1.out (by omega) (by omega)).mono ?_
      rintro e w2 ⟨j, j1, j2, rfl, b2, r2⟩
      obtain ⟨j, rfl⟩ := Int.eq_ofNat_of_zero_le j1
      have R2 := Lib.hid r2
      have B2 := Lib.hid (B1.out.trans b2)
      have j3 : (j : Int) < (l.length : Int) := by omega
      have ja : (0 : Int) ≤ (j : Int) := by omega
      have jb : (j : Int) ≤ (l.length : Int) := by omega
      have j4 : (j : Int) + 1 ≤ (l.length : Int) := by omega
      have j5 : (0 : Int) ≤ (j : Int) + 1 := by omega
      have j6 : ((j : Int) + 1).toNat = j + 1 := by omega
      have j7 : j + 1 ≤ l.length := by omega
      have j8 : j < l.length := by omega
      have ew : IntKind.i64.wrap ((j : Int) + 1) = (j : Int) + 1 := IntWalk.i64_in _ (by omega)
      clear r2 b2 j1 j2
      go_wp2_with fail
      go_region_with ((go_at_call 19; (refine (below _ b len 4 ?_ (by omega) (by omega)).mono ?_; (first | exact R2.out.drew | exact (R2.out.alloc _).drew); rintro e w3 ⟨x, x3, x4, rfl, b3, r3⟩; obtain ⟨k, rfl⟩ := Int.eq_ofNat_of_zero_le x3; have k1 : (k : Int) < 4 := (by omega); obtain ⟨y, hy⟩ := pick k (by omega); have hv := pick_new (w := w3) hy; (first | (have hu := pick_old b3 (by have := R2.out.lt; omega) hy) | skip); have HX := Lib.hid (And.intro b3 r3); clear b3 r3 x4 hy)))
      all_goals go_wp2
      all_goals go_ret
      all_goals first
        | exact ⟨l.take j ++ [y] ++ l.drop (j + 1), len3 j7, dec.ret_str (str3 l j y), (B2.out.trans (Only.drew (Only.alloc (Only.refl b w2) _))).trans HX.out.1, HX.out.2⟩
        | exact ⟨l.take j ++ [y] ++ l.drop (j + 1), len3 j7, dec.ret_str (str3 l j y), ((B2.out.trans (Only.drew (Only.refl b w2))).trans HX.out.1).alloc _, HX.out.2.alloc _⟩
  · go_wp2_with fail
    refine (below _ b len 4 (R1.out.alloc _) (by omega) (by omega)).mono ?_
    rintro e w2 ⟨x, x3, x4, rfl, b2, r2⟩
    obtain ⟨k, rfl⟩ := Int.eq_ofNat_of_zero_le x3
    have c0 := b2.cell (k := w1.heap.size) (o := k) (by simp) (by have := R1.out.lt; omega)
    rw [World.cell?_alloc_new] at c0
    obtain ⟨v, hv, hcase⟩ := four c0 (by omega)
    obtain ⟨y, rfl, y1⟩ : ∃ y : List UInt8, v = .string ⟨y.toArray⟩ ∧ y.length ≤ 1 := by
      rcases hcase with rfl | rfl | rfl | rfl
      all_goals exact ⟨[_], rfl, by simp⟩
    have k1 : (k : Int) < 4 := by omega
    have B2 := Lib.hid (B1.out.trans ((Only.alloc (Only.refl b w1) _).trans b2))
    have R2 := Lib.hid r2
    clear c0 hcase b2 r2
    go_wp2
    go_ret
    exact ⟨l ++ y, by rw [List.length_append]; omega, dec.ret_str (dec.cat l y), B2.out, R2.out⟩
  · have q1 : (x == 1) = false := by simp; omega
    have q2 : (x == 2) = false := by simp; omega
    have q3 : (x == 3) = false := by simp; omega
    go_wp2
    go_ret
    exact ⟨l, by omega, rfl, B1.out, R1.out⟩
end Go.Proofs.YtpogfdeioibkdaaGreatDoor.draw
