/-
  Plain helpers of this seat's proofs: blocks of memory that are written cell by cell, and copies of a slice of numbers. Conditions: none.
-/
import Derived.Test.YtjkghpfcjjnghaaMarks
import Derived.Test.YtjkghpfcjjnghaaDraw3
namespace Go.Proofs.Ytjkghpfcjjnghaa.rows
open Go.ChangeShapes Go.WideShapes Go.ChangeAt Go.RowKit

/-- The first n cells of block g hold A. -/
structure Blk (w : World) (g n : Nat) (A : Nat → Value) : Prop where
  lt : g < w.heap.size
  cell : ∀ k, k < n → w.cell? ⟨g, k, none⟩ = some (A k)
  free : ∀ k, w.frozen? ⟨g, k, none⟩ = false
def upd (A : Nat → Value) (k : Nat) (v : Value) (i : Nat) : Value := if i = k then v else A i
theorem Blk.set {w : World} {g n k : Nat} {A : Nat → Value} (h : Blk w g n A) (hk : k < n) (v : Value) : Blk (w.setCell ⟨g, k, none⟩ v) g n (upd A k v) := by
  refine ⟨by simp [World.setCell]; exact h.lt, fun i hi => ?_, fun i => by rw [World.frozen?_setCell]; exact h.free i⟩
  unfold upd
  by_cases e : i = k
  · subst e
    rw [if_pos rfl]
    exact World.cell?_setCell_same' _ _ _ (by rw [h.cell i hk]; rfl)
  · rw [if_neg e]
    exact (World.cell?_setCell_other w ⟨g, k, none⟩ ⟨g, i, none⟩ _ (fun q => by injection q with q1 q2; omega)).trans (h.cell i hi)
theorem Blk.other {w : World} {g g' n k : Nat} {A : Nat → Value} (h : Blk w g n A) (hg : g ≠ g') (v : Value) : Blk (w.setCell ⟨g', k, none⟩ v) g n A :=
  ⟨by simp [World.setCell]; exact h.lt, fun i hi => (World.cell?_setCell_other w ⟨g', k, none⟩ ⟨g, i, none⟩ _ (fun q => by injection q with q1 q2; omega)).trans (h.cell i hi), fun i => by rw [World.frozen?_setCell]; exact h.free i⟩
theorem Blk.keep {w w' : World} {g n : Nat} {A : Nat → Value} (h : Blk w g n A) (e : w'.heap[g]? = w.heap[g]?) (hs : w.heap.size ≤ w'.heap.size) : Blk w' g n A :=
  ⟨Nat.lt_of_lt_of_le h.lt hs, fun i hi => by rw [World.cell?_of_block (w := w) (a := ⟨g, i, none⟩) e]; exact h.cell i hi, fun i => by rw [World.frozen?_of_block (w := w) (a := ⟨g, i, none⟩) e]; exact h.free i⟩
theorem Blk.below {w w' : World} {g n B : Nat} {A : Nat → Value} (h : Blk w g n A) (hb : Below B w w') (hg : g < B) : Blk w' g n A := h.keep (hb.block g hg) hb.size
theorem Blk.same {w : World} {g n : Nat} {A A' : Nat → Value} (h : Blk w g n A) (e : ∀ k, k < n → A' k = A k) : Blk w g n A' := ⟨h.lt, fun k hk => by rw [e k hk]; exact h.cell k hk, h.free⟩
theorem Blk.of_owns {w : World} {B e size g n cap : Nat} {xs : List Value} (h : w.ownsRow B e size (.slice (some ⟨g, 0, none⟩) n cap) n xs) : (∃ A, Blk w g (n * size) A ∧ ∀ k, k < n * size → xs[k]? = some (A k)) ∧ B ≤ g ∧ n ≤ cap := by
  obtain ⟨h1, h2⟩ := h
  rcases h2 with ⟨h2, _⟩ | ⟨g', cap', cur, hv, hg, hh, hn, hm, hs, ht⟩
  · cases h2
  · injection hv with q1 q2 q3
    injection q1 with q1
    injection q1 with q1 _ _
    subst q1 q3
    have lt : n * size ≤ cap * size := Nat.mul_le_mul_right _ hn
    have get : ∀ k, k < n * size → ∃ v, cur[k]? = some v ∧ xs[k]? = some v := fun k hk => by
      have hc : k < cur.size := by omega
      refine ⟨cur[k], Array.getElem?_eq_getElem hc, ?_⟩
      rw [← ht, List.getElem?_take, if_pos hk, Array.getElem?_toList, Array.getElem?_eq_getElem hc]
    refine ⟨⟨fun k => (cur[k]?).getD undef, ⟨(Array.getElem?_eq_some_iff.1 hh).1, fun k hk => ?_, fun k => ?_⟩, fun k hk => ?_⟩, hg, hn⟩
    · obtain ⟨v, hv, _⟩ := get k hk
      unfold World.cell?
      simp [hh, hv]
    · unfold World.frozen?
      simp [hh]
    · obtain ⟨v, hv, hx⟩ := get k hk
      rw [hx]
      show some v = some ((cur[k]?).getD undef)
      rw [hv]; rfl
theorem Blk.row {w : World} {g n cap : Nat} {A : Nat → Value} {zs : List Int} (h : Blk w g n A) (hl : zs.length = n) (hc : n ≤ cap) (e : ∀ k, k < n → A k = .int .i64 (zs.getD k 0)) : Row w (some ⟨g, 0, none⟩) cap g zs :=
  ⟨fun _ => rfl, by omega, fun i hi => by rw [h.cell i (by omega), e i (by omega)], fun _ i => h.free i⟩

/-- A slice of 64-bit numbers, wherever it lies. -/
def Inp (w : World) (a : Option Addr) (zs : List Int) : Prop := ∀ i, i < zs.length → ∃ c off : Nat, a = some ⟨c, off, none⟩ ∧ c < w.heap.size ∧ w.cell? ⟨c, off + i, none⟩ = some (.int .i64 (zs.getD i 0))
theorem Inp.below {w w' : World} {a : Option Addr} {zs : List Int} (h : Inp w a zs) (hb : Below w.heap.size w w') : Inp w' a zs := fun i hi => by
  obtain ⟨c, off, e, hc, h1⟩ := h i hi
  exact ⟨c, off, e, Nat.lt_of_lt_of_le hc hb.size, (hb.cell hc).trans h1⟩
theorem open_zs {H : Type} {enc : TypeId × Value → H} {P : Program} {W : World} {base : Nat} {t e : TypeId} {v : Value} {d : DataW H} {p : List MemPlace} (ht : P.underlying t = some (.slice e)) (he : P.underlying e = some (.int .i64)) (hc : P.cellsOf e = 1)
    (hok : Value.okWide P W .any base t v) (h : DataW.Trod enc P W 0 (fun _ => true) true t v d p) : ∃ a cap, ∃ zs : List Int, v = .slice a zs.length cap ∧ zs.length ≤ maxLen ∧ Inp W a zs := by
  obtain ⟨a, len, cap, rfl⟩ := okWide_slice ht hok
  obtain ⟨fuel, hf⟩ := h
  rcases open_ints ht he hc hf with ⟨hcs, _⟩ | ⟨x, l, c, zs, hcs, _, hl, hm, hz, _, hcell, hwz⟩
  · simp [Value.cells] at hcs
    obtain ⟨rfl, rfl, rfl⟩ := hcs
    exact ⟨none, 0, [], rfl, Nat.zero_le _, fun i hi => by cases hi⟩
  · simp [Value.cells] at hcs
    obtain ⟨rfl, rfl, rfl⟩ := hcs
    have hz2 : zs.length = cap := by simpa using hz
    have hlen : (zs.take len).length = len := by rw [List.length_take]; omega
    refine ⟨_, cap, zs.take len, by rw [hlen], by rw [hlen]; exact Nat.le_trans hl hm, fun i hi => ?_⟩
    rw [hlen] at hi
    have hi' : i < zs.length := by omega
    obtain ⟨b, off, spot⟩ := x
    have hspot : spot = none := by simpa [Addr.add] using World.cell?_spot (hcell 0 (by omega))
    subst hspot
    have hci' : W.cell? ⟨b, off + i, none⟩ = some (.int .i64 (zs.getD i 0)) := by
      have hci := hcell i hi'
      by_cases h0 : i = 0
      · subst h0; simpa [Addr.add] using hci
      · simpa [Addr.add, h0] using hci
    have hlt : b < W.heap.size := by
      unfold World.cell? at hci'
      cases hh : W.heap[b]? with
      | none => simp [hh] at hci'
      | some o => exact (Array.getElem?_eq_some_iff.1 hh).1
    have eg : (zs.take len).getD i 0 = zs.getD i 0 := by
      rw [List.getD_eq_getElem?_getD, List.getD_eq_getElem?_getD, List.getElem?_take, if_pos hi]
    exact ⟨b, off, rfl, hlt, by rw [hci', eg]⟩

theorem info2 : (Try.prog.info? 2).map (fun i => (i.zero, i.size, i.bytes)) = some (some (.int .i64 0), 1, 8) := by kernel_rfl

/-- A copy in a block of its own. -/
def Copied (w : World) (zs : List Int) (e : Ending) (w' : World) : Prop := ∃ g, e = .returned (.slice (some ⟨g, 0, none⟩) zs.length zs.length) ∧ Row w' (some ⟨g, 0, none⟩) zs.length g zs ∧ w.heap.size ≤ g ∧ g < w'.heap.size ∧ Below w.heap.size w w'

set_option maxHeartbeats 1000000 in
theorem copy (a : Option Addr) (cap : Nat) (zs : List Int) (w : World) (h : Inp w a zs) (hn : zs.length ≤ 1048576) : Calls Try.prog 18 #[.slice a zs.length cap] w (Copied w zs) := by
  have HI := Lib.hid h
  clear h
  obtain ⟨n, hnz⟩ : ∃ n, n = zs.length := ⟨_, rfl⟩
  rw [← hnz] at hn ⊢
  have HNZ := Lib.hid hnz
  clear hnz
  obtain ⟨i0, hi, hz0, hz1, hz2⟩ := info_parts info2
  go_enter Try.func18, Try.ntmps18
  go_wp2_with (at_make; refine wpList_make_full _ rfl _ _ 29 rfl w.heap.size 2 i0 (.int .i64 0) 1 Try.underlying29 hi hz0 hz1 _ _ _ _ n rfl rfl rfl rfl ?b2 ?b3 (Nat.le_refl _) ?_)
  case b2 => (try rw [hz2]); omega
  case b3 => unfold maxLen; omega
  intro w0 hown0 hgrow0
  obtain ⟨⟨A0, hA0, _⟩, hg0, _⟩ := Blk.of_owns hown0
  rw [Nat.mul_one] at hA0
  have BL0 := Lib.hid hA0
  have B0 := Lib.hid ((Below.refl w.heap.size w).grown hgrow0 (Nat.le_refl _) (fun k h => by cases h))
  clear hown0 hgrow0 hA0 hg0 hi hz0 hz1 hz2
  go_wp2
  go_loopw [4] (fun vi wr => Below w.heap.size w wr ∧ ∃ (k : Nat) (A : Nat → Value), k ≤ n ∧ vi = .int .i64 k ∧ Blk wr w.heap.size n A ∧ ∀ j, j < k → A j = .int .i64 (zs.getD j 0)) (fun vi _ => n - (intOf vi).toNat)
  case atStart => exact ⟨B0.out, 0, A0, by omega, rfl, BL0.out, fun j h => by omega⟩
  case round =>
    obtain ⟨hB, k, A, hk, rfl, hA, hd⟩ := hrel
    have BB := Lib.hid hB
    have AA := Lib.hid hA
    have DD := Lib.hid hd
    by_cases hlt : k < n
    · obtain ⟨c, off, rfl, hc, hcell⟩ := HI.out k (by rw [← HNZ.out]; exact hlt)
      have x1 := (hB.cell (p := ⟨c, off + k, none⟩) hc).trans hcell
      obtain ⟨z, hz⟩ : ∃ z, z = zs.getD k 0 := ⟨_, rfl⟩
      rw [← hz] at x1
      have HZ := Lib.hid hz
      have x2 := hA.cell k hlt
      have x3 := hA.free k
      have u1 : decide (k < n) = true := by simp; omega
      have z1 : (k : Int) < (n : Int) := by omega
      clear hB hA hd hcell hz
      go_wp2
      go_roundw
      case rel =>
        refine ⟨BB.out.setCell (Nat.le_refl _) _, k + 1, _, by omega, by go_num, AA.out.set hlt _, fun j hj => ?_⟩
        unfold upd
        by_cases e : j = k
        · rw [if_pos e, e, HZ.out]
        · rw [if_neg e]; exact DD.out j (by omega)
      case measure => simp [intOf]; omega
    · have u1 : decide (k < n) = false := by simp; omega
      obtain rfl : k = n := by omega
      clear hB hA hd
      go_wp2
      go_ret
      refine ⟨w.heap.size, by rw [← HNZ.out]; rfl, ?_, Nat.le_refl _, AA.out.lt, BB.out⟩
      exact AA.out.row HNZ.out.symm (by rw [← HNZ.out]; exact Nat.le_refl _) DD.out
end Go.Proofs.Ytjkghpfcjjnghaa.rows
