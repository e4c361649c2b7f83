/-
  Plain helpers of this seat's proofs: the contract of the function that draws the text of an amount; what reading says of writing. Conditions: none.
-/
import Derived.Test.YtlpeadkkkmpccaaDoorDrawA
import Derived.Test.YtlpeadkkkmpccaaDoorRaBoth
namespace Go.Proofs.YtlpeadkkkmpccaaDoor.draw
open Go.ChangeShapes Go.WideShapes Go.ChangeAt Go.RowKit

theorem atx_len (k n : Int) : (amt.atx k n).length ≤ 30 := by
  by_cases h : amt.okA k n
  · exact (ram.spec_sgn h).2.2
  · unfold amt.atx; rw [if_neg h]; simp
/-- A currency and a text, drawn. -/
def DrewT (w : World) (e : Ending) (w' : World) : Prop := ∃ (c : Int) (l : List UInt8), l.length ≤ 1000 ∧ e = .returned (.tuple #[.int .i64 c, .string ⟨l.toArray⟩]) ∧ Below w.heap.size w w'
theorem pick12 (k : Nat) (h : k < 12) : ∃ y : List UInt8, y.length ≤ 10 ∧ (#[Value.string ⟨#[]⟩, Value.string ⟨#[45]⟩, Value.string ⟨#[49]⟩, Value.string ⟨#[49, 46, 48]⟩, Value.string ⟨#[49, 46, 48, 48]⟩, Value.string ⟨#[48, 49, 46, 48, 48]⟩, Value.string ⟨#[46, 53, 48]⟩, Value.string ⟨#[45, 48, 46, 48, 48]⟩, Value.string ⟨#[45, 48]⟩, Value.string ⟨#[49, 46, 48, 48, 48]⟩, Value.string ⟨#[48, 46, 48, 48]⟩, Value.string ⟨#[45, 45, 49, 46, 48, 48]⟩] : Array Value)[k]? = some (.string ⟨y.toArray⟩) := by
  obtain rfl | rfl | rfl | rfl | rfl | rfl | rfl | rfl | rfl | rfl | rfl | rfl : k = 0 ∨ k = 1 ∨ k = 2 ∨ k = 3 ∨ k = 4 ∨ k = 5 ∨ k = 6 ∨ k = 7 ∨ k = 8 ∨ k = 9 ∨ k = 10 ∨ k = 11 := by omega
  · exact ⟨[], by simp, rfl⟩
  · exact ⟨[45], by simp, rfl⟩
  · exact ⟨[49], by simp, rfl⟩
  · exact ⟨[49, 46, 48], by simp, rfl⟩
  · exact ⟨[49, 46, 48, 48], by simp, rfl⟩
  · exact ⟨[48, 49, 46, 48, 48], by simp, rfl⟩
  · exact ⟨[46, 53, 48], by simp, rfl⟩
  · exact ⟨[45, 48, 46, 48, 48], by simp, rfl⟩
  · exact ⟨[45, 48], by simp, rfl⟩
  · exact ⟨[49, 46, 48, 48, 48], by simp, rfl⟩
  · exact ⟨[48, 46, 48, 48], by simp, rfl⟩
  · exact ⟨[45, 45, 49, 46, 48, 48], by simp, rfl⟩
theorem pick12_new {w : World} {k : Nat} {y : List UInt8} (hy : (#[Value.string ⟨#[]⟩, Value.string ⟨#[45]⟩, Value.string ⟨#[49]⟩, Value.string ⟨#[49, 46, 48]⟩, Value.string ⟨#[49, 46, 48, 48]⟩, Value.string ⟨#[48, 49, 46, 48, 48]⟩, Value.string ⟨#[46, 53, 48]⟩, Value.string ⟨#[45, 48, 46, 48, 48]⟩, Value.string ⟨#[45, 48]⟩, Value.string ⟨#[49, 46, 48, 48, 48]⟩, Value.string ⟨#[48, 46, 48, 48]⟩, Value.string ⟨#[45, 45, 49, 46, 48, 48]⟩] : Array Value)[k]? = some (.string ⟨y.toArray⟩)) :
    (w.alloc (.cells #[Value.string ⟨#[]⟩, Value.string ⟨#[45]⟩, Value.string ⟨#[49]⟩, Value.string ⟨#[49, 46, 48]⟩, Value.string ⟨#[49, 46, 48, 48]⟩, Value.string ⟨#[48, 49, 46, 48, 48]⟩, Value.string ⟨#[46, 53, 48]⟩, Value.string ⟨#[45, 48, 46, 48, 48]⟩, Value.string ⟨#[45, 48]⟩, Value.string ⟨#[49, 46, 48, 48, 48]⟩, Value.string ⟨#[48, 46, 48, 48]⟩, Value.string ⟨#[45, 45, 49, 46, 48, 48]⟩] 9)).cell? ⟨w.heap.size, k, none⟩ = some (.string ⟨y.toArray⟩) := (World.cell?_alloc_new w _ _ k).trans hy
theorem pick12_old {w w3 : World} {b k : Nat} {y : List UInt8} (h : Only b (w.alloc (.cells #[Value.string ⟨#[]⟩, Value.string ⟨#[45]⟩, Value.string ⟨#[49]⟩, Value.string ⟨#[49, 46, 48]⟩, Value.string ⟨#[49, 46, 48, 48]⟩, Value.string ⟨#[48, 49, 46, 48, 48]⟩, Value.string ⟨#[46, 53, 48]⟩, Value.string ⟨#[45, 48, 46, 48, 48]⟩, Value.string ⟨#[45, 48]⟩, Value.string ⟨#[49, 46, 48, 48, 48]⟩, Value.string ⟨#[48, 46, 48, 48]⟩, Value.string ⟨#[45, 45, 49, 46, 48, 48]⟩] 9)).drew w3) (hb : w.heap.size ≠ b) (hy : (#[Value.string ⟨#[]⟩, Value.string ⟨#[45]⟩, Value.string ⟨#[49]⟩, Value.string ⟨#[49, 46, 48]⟩, Value.string ⟨#[49, 46, 48, 48]⟩, Value.string ⟨#[48, 49, 46, 48, 48]⟩, Value.string ⟨#[46, 53, 48]⟩, Value.string ⟨#[45, 48, 46, 48, 48]⟩, Value.string ⟨#[45, 48]⟩, Value.string ⟨#[49, 46, 48, 48, 48]⟩, Value.string ⟨#[48, 46, 48, 48]⟩, Value.string ⟨#[45, 45, 49, 46, 48, 48]⟩] : Array Value)[k]? = some (.string ⟨y.toArray⟩)) :
    w3.cell? ⟨w.heap.size, k, none⟩ = some (.string ⟨y.toArray⟩) := (h.cell (k := w.heap.size) (o := k) (by show _ < (w.heap.push _).size; simp) hb).trans (pick12_new (w := w) hy)

set_option maxHeartbeats 1000000 in
theorem drawReadAmount (a : Option Addr) (len cap : Nat) (w : World) (hB : Bytes w a len) (h : len ≤ 1048576) : Calls Tryd.prog 21 #[.slice a len cap] w (DrewT w) := by
  have HB := Lib.hid hB
  clear hB
  go_enter Tryd.func21, Tryd.ntmps21
  go_wp2_with fail
  refine (openRd a len cap w HB.out h).mono ?_
  rintro e w0 ⟨rfl, r0, b0⟩
  have R0 := Lib.hid r0
  have B0 := Lib.hid b0
  have HB0 := Lib.hid (HB.out.below b0)
  clear r0 b0
  go_wp2_with fail
  refine (drawAmountText a len cap w0 HB0.out h).mono ?_
  rintro e w1 ⟨c, n, rfl, b1⟩
  have O1 := Lib.hid (Only.of_below (b := w.heap.size) b1)
  have R1 := Lib.hid (R0.out.below b1 R0.out.lt)
  clear b1
  have hl := atx_len c n
  have SP := Lib.hid (amt.spec c n w1)
  generalize amt.atx c n = s at hl SP
  go_wp2_with fail
  refine SP.out.mono ?_
  rintro e w2 ⟨rfl, b2⟩
  have O2 := Lib.hid (O1.out.trans (Only.of_below (b := w.heap.size) b2))
  have R2 := Lib.hid (R1.out.below b2 R1.out.lt)
  clear b2
  go_wp2_with fail
  refine (below w2 w.heap.size len 5 R2.out (by omega) (by omega)).mono ?_
  rintro e w3 ⟨x, x1, x2, rfl, b3, r3⟩
  have R3 := Lib.hid r3
  have O3 := Lib.hid (O2.out.trans b3)
  clear r3 b3
  obtain rfl | rfl | hx : x = 0 ∨ x = 1 ∨ ¬ (x = 0 ∨ x = 1) := by omega
  · go_wp2_with fail
    refine (hurt w3 w.heap.size len s R3.out (by omega)).mono ?_
    rintro e w4 ⟨t, t1, rfl, b4, r4⟩
    have O4 := Lib.hid (O3.out.trans b4)
    clear b4 r4
    go_wp2
    go_ret2
    exact ⟨c, t, by omega, rfl, back rfl B0.out O4.out⟩
  · go_wp2_with fail
    go_region_with ((go_at_call 30; (refine (below _ w.heap.size len 12 ?_ (by omega) (by omega)).mono ?_; (first | exact R3.out.drew | exact (R3.out.alloc _).drew); rintro e w4 ⟨x, x3, x4, rfl, b4, r4⟩; obtain ⟨k, rfl⟩ := Int.eq_ofNat_of_zero_le x3; have k1 : (k : Int) < 12 := (by omega); obtain ⟨y, y1, hy⟩ := pick12 k (by omega); have hv := pick12_new (w := w4) hy; (first | (have hu := pick12_old b4 (by have := R3.out.lt; omega) hy) | skip); have HX := Lib.hid (And.intro b4 r4); clear b4 r4 x4 hy)))
    all_goals go_wp2
    all_goals go_ret2
    all_goals first
      | exact ⟨c, y, by omega, rfl, back rfl B0.out ((O3.out.trans (Only.drew (Only.alloc (Only.refl _ w3) _))).trans HX.out.1)⟩
      | exact ⟨c, y, by omega, rfl, back rfl B0.out (((O3.out.trans (Only.drew (Only.refl _ w3))).trans HX.out.1).alloc _)⟩
  · have q1 : (x == 0) = false := by simp; omega
    have q2 : (x == 1) = false := by simp; omega
    go_wp2
    go_ret2
    exact ⟨c, s, by omega, rfl, back rfl B0.out O3.out⟩
end Go.Proofs.YtlpeadkkkmpccaaDoor.draw
namespace Go.Proofs.YtlpeadkkkmpccaaDoor.ram
open Go.ChangeShapes Go.WideShapes Go.ChangeAt Go.RowKit

theorem ansI_back {k n : Int} {l : List UInt8} (h : ri.ansI k l = .tuple #[.int .i64 n, .bool true]) : amt.atx k n = l := by
  unfold ri.ansI at h
  split at h
  · rename_i q
    have e : ri.sgn l = n := by simpa using h
    rw [← e]; exact q.2
  · simp at h
theorem same2 (k : Int) (l : List UInt8) (hz : l.length ≤ 1048576) : ∃ v q, Same k l v q ∧ (q = true → amt.okA k v ∧ amt.atx k v = l) ∧ (∀ n, amt.okA k n → amt.atx k n = l → v = n ∧ q = true) := by
  have key : ∀ n, amt.okA k n → amt.atx k n = l → ri.ansI k l = .tuple #[.int .i64 n, .bool true] := by
    rintro n ho rfl
    obtain ⟨a1, a2⟩ := impl_sgn ho
    unfold ri.ansI; rw [a2, if_pos ⟨a1, rfl⟩]
  rcases agree k l with ⟨n, ho, h30, hi, hs⟩ | ⟨hi, hs⟩
  · refine ⟨n, true, ⟨fun w => ?_, fun w m c p hm => ?_⟩, fun _ => ⟨ho, ansI_back hi⟩, fun n' h1 h2 => ⟨?_, rfl⟩⟩
    · have := ra.spec_short k l w h30
      rw [hs] at this; exact this
    · have := ri.impl_in k l m w c p hm ho.1 ho.2.1 hz
      rw [hi] at this; exact this
    · have := hi.symm.trans (key n' h1 h2)
      simpa using this
  · refine ⟨0, false, ⟨fun w => ?_, fun w m c p hm => ?_⟩, (fun q => by cases q), fun n' h1 h2 => ?_⟩
    · by_cases h30 : l.length ≤ 30
      · have := ra.spec_short k l w h30
        rw [hs] at this; exact this
      · exact (ra.spec_long k l w (by omega)).mono fun _ _ q => ⟨q.1, q.2 ▸ Below.refl _ _⟩
    · by_cases hk : k < 0 ∨ 5 < k
      · exact (ri.impl_no k l w hk).mono fun _ _ q => ⟨q.1, q.2 ▸ Below.refl _ _⟩
      · have := ri.impl_in k l m w c p hm (by omega) (by omega) hz
        rw [hi] at this; exact this
    · have := hi.symm.trans (key n' h1 h2)
      simp at this
end Go.Proofs.YtlpeadkkkmpccaaDoor.ram
