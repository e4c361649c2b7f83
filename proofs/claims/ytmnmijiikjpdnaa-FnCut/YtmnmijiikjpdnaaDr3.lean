/-
  Plain helpers of this seat's proofs: contracts of the functions that draw arguments from a code. Conditions: none.
-/
import Derived.Test.YtmnmijiikjpdnaaDr2
namespace Go.Proofs.Ytmnmijiikjpdnaa.draw
open Go.ChangeShapes Go.WideShapes Go.ChangeAt Go.RowKit
/-- A code that came in: its bytes. -/
def Bytes (w : World) (a : Option Addr) (len : Nat) : Prop :=
  ∀ i, i < len → ∃ c off z : Nat, a = some ⟨c, off, none⟩ ∧ c < w.heap.size ∧ z < 256 ∧ w.cell? ⟨c, off + i, none⟩ = some (.int .u8 z)
theorem Bytes.below {w w' : World} {a : Option Addr} {len : Nat} (h : Bytes w a len) (hb : Below w.heap.size w w') : Bytes w' a len := fun i hi => by
  obtain ⟨c, off, z, e, hc, hz, hcell⟩ := h i hi
  exact ⟨c, off, z, e, Nat.lt_of_lt_of_le hc hb.size, hz, (hb.cell (p := ⟨c, off + i, none⟩) hc).trans hcell⟩
theorem open_code {H : Type} {enc : TypeId × Value → H} {P : Program} {W : World} {base : Nat} {t e : TypeId} {v : Value} {d : DataW H} {p : List MemPlace} (ht : P.underlying t = some (.slice e)) (he : P.underlying e = some (.int .u8)) (hc : P.cellsOf e = 1)
    (hok : Value.okWide P W .any base t v) (h : DataW.Trod enc P W 0 (fun _ => true) true t v d p) : ∃ a len cap, v = .slice a len cap ∧ len ≤ maxLen ∧ Bytes W a len := by
  obtain ⟨a, len, cap, rfl⟩ := okWide_slice ht hok
  refine ⟨a, len, cap, rfl, ?_⟩
  obtain ⟨fuel, hf⟩ := h
  rcases open_ints ht he hc hf with ⟨hcs, _⟩ | ⟨x, l, c, zs, hcs, _, hl, hm, hz, _, hcell, hwz⟩
  · simp [Value.cells] at hcs
    obtain ⟨rfl, rfl, rfl⟩ := hcs
    exact ⟨Nat.zero_le _, fun i hi => by omega⟩
  · simp [Value.cells] at hcs
    obtain ⟨rfl, rfl, rfl⟩ := hcs
    refine ⟨Nat.le_trans hl hm, fun i hi => ?_⟩
    have hz2 : zs.length = cap := by simpa using hz
    have hi' : i < zs.length := by omega
    obtain ⟨b, off, spot⟩ := x
    have hspot : spot = none := by simpa [Addr.add] using World.cell?_spot (hcell 0 (by omega))
    subst hspot
    have hci' : W.cell? ⟨b, off + i, none⟩ = some (.int .u8 (zs.getD i 0)) := by
      have hci := hcell i hi'
      by_cases h0 : i = 0
      · subst h0; simpa [Addr.add] using hci
      · simpa [Addr.add, h0] using hci
    have hw := hwz (zs.getD i 0) (by rw [List.getD_eq_getElem?_getD, List.getElem?_eq_getElem hi', Option.getD_some]; exact List.getElem_mem hi')
    have hbd := bounds_u8 hw
    obtain ⟨z, hz'⟩ := Int.eq_ofNat_of_zero_le hbd.1
    have hlt : b < W.heap.size := by
      unfold World.cell? at hci'
      cases hh : W.heap[b]? with
      | none => simp [hh] at hci'
      | some o => exact (Array.getElem?_eq_some_iff.1 hh).1
    exact ⟨b, off, z, rfl, hlt, by omega, by rw [hci', hz']⟩
theorem bigF (a : Option Addr) (len cap : Nat) (w : World) (h : len ≤ 1048576) : Calls Try.prog 19 #[.slice a len cap] w fun e w' => e = .returned (.bool false) ∧ w = w' := by
  have t1 : decide ((1048576 : Int) < (len : Int)) = false := by simp; omega
  go_enter Try.func19, Try.ntmps19
  go_wp2
  go_ret
  exact ⟨rfl, rfl⟩
theorem bigT (a : Option Addr) (len cap : Nat) (w : World) (h : 1048576 < len) (h2 : len ≤ maxLen) : Calls Try.prog 19 #[.slice a len cap] w fun e w' => e = .returned (.bool true) ∧ w = w' := by
  unfold maxLen at h2
  have t1 : decide ((1048576 : Int) < (len : Int)) = true := by simp; omega
  go_enter Try.func19, Try.ntmps19
  go_wp2
  go_ret
  exact ⟨rfl, rfl⟩
/-- A reader, opened: it lies in a new block. -/
def Opened (w : World) (len : Nat) (e : Ending) (w' : World) : Prop := e = .returned (.pointer (some ⟨w.heap.size, 0, none⟩)) ∧ Rd w' w.heap.size len ∧ Below w.heap.size w w'
theorem openRd (a : Option Addr) (len cap : Nat) (w : World) (hB : Bytes w a len) (h : len ≤ 1048576) : Calls Try.prog 53 #[.slice a len cap] w (Opened w len) := by
  have HB := Lib.hid hB
  clear hB
  go_enter Try.func53, Try.ntmps53
  go_wp2
  go_ret
  refine ⟨rfl, ⟨by simp, h, ⟨a, cap, by simp, fun i hi => ?_⟩, ⟨0, by omega, by simp⟩, ?_⟩, (Below.refl _ _).alloc (Nat.le_refl _) _⟩
  · obtain ⟨c, off, z, e, hc, hz, hcell⟩ := HB.out i hi
    exact ⟨c, off, z, e, hc, hz, (World.cell?_alloc_lt w _ (a := ⟨c, off + i, none⟩) hc).trans hcell⟩
  · go_simp
/-- What a draw of one number gives. -/
def Drew1 (w : World) (e : Ending) (w' : World) : Prop := ∃ x : Int, (Lit.int .i64 x).wf = true ∧ e = .returned (.int .i64 x) ∧ Below w.heap.size w w'
def Drew2 (w : World) (e : Ending) (w' : World) : Prop := ∃ x y : Int, (Lit.int .i64 x).wf = true ∧ (Lit.int .i64 y).wf = true ∧ e = .returned (.tuple #[.int .i64 x, .int .i64 y]) ∧ Below w.heap.size w w'
def Drew3 (w : World) (e : Ending) (w' : World) : Prop := ∃ x y z : Int, (Lit.int .i64 x).wf = true ∧ (Lit.int .i64 y).wf = true ∧ (Lit.int .i64 z).wf = true ∧ e = .returned (.tuple #[.int .i64 x, .int .i64 y, .int .i64 z]) ∧ Below w.heap.size w w'
/-- From the reader's frame back to the caller's. -/
theorem back {w w1 w2 : World} {b : Nat} (hb : b = w.heap.size) (h1 : Below w.heap.size w w1) (h2 : Only b w1 w2) : Below w.heap.size w w2 := by
  subst hb
  exact h1.trans (h2.below h1.size)
end Go.Proofs.Ytmnmijiikjpdnaa.draw
