/-
  Plain helpers of this seat's proofs: the contract of the library's sort at posts, by the landed order of posts. Conditions: none.
-/
import Derived.Test.YtnkdjnfbllkgiaaShelfS
import Derived.Test.YtnkdjnfbllkgiaaCmpP
import Derived.Test.YtnkdjnfbllkgiaaBal
namespace Go.Proofs.Ytnkdjnfbllkgiaa.srt
open Go.ChangeShapes Go.WideShapes Go.ChangeAt Go.RowKit
open led (F5 z5 cmpP)
open five (Row At)
theorem lex {x y : F5} : cmpP x y < 0 ↔ (x.1 < y.1 ∨ x.1 = y.1 ∧ (x.2.1 < y.2.1 ∨ x.2.1 = y.2.1 ∧ (x.2.2.1 < y.2.2.1 ∨ x.2.2.1 = y.2.2.1 ∧ x.2.2.2.1 < y.2.2.2.1))) := by
  unfold cmpP led.orr led.cmp2
  repeat' split
  all_goals omega
theorem swo : Sort.SWO (ltOf cmpP) := by
  have e : ∀ x y, ltOf cmpP x y = true ↔ (x.1 < y.1 ∨ x.1 = y.1 ∧ (x.2.1 < y.2.1 ∨ x.2.1 = y.2.1 ∧ (x.2.2.1 < y.2.2.1 ∨ x.2.2.1 = y.2.2.1 ∧ x.2.2.2.1 < y.2.2.2.1))) := fun x y => by
    unfold ltOf
    rw [decide_eq_true_eq]; exact lex
  have f : ∀ x y, ltOf cmpP x y = false ↔ ¬ (x.1 < y.1 ∨ x.1 = y.1 ∧ (x.2.1 < y.2.1 ∨ x.2.1 = y.2.1 ∧ (x.2.2.1 < y.2.2.1 ∨ x.2.2.1 = y.2.2.1 ∧ x.2.2.2.1 < y.2.2.2.1))) := fun x y => by
    rw [← e]; simp
  refine ⟨fun x => (f x x).2 (by omega), fun x y z h1 h2 => ?_, fun x y z h1 h2 => ?_⟩
  · rw [e] at h1 h2 ⊢
    omega
  · rw [f] at h1 h2 ⊢
    omega
/-- The five cells of a post. -/
def enc (x : F5) : List Value := [.int .i64 x.1, .int .i64 x.2.1, .int .i64 x.2.2.1, .int .i64 x.2.2.2.1, .int .i64 x.2.2.2.2]
theorem one (x : F5) : ∀ v ∈ enc x, v.oneCell' = true := by
  intro u hu; simp [enc] at hu; rcases hu with rfl | rfl | rfl | rfl | rfl <;> rfl
theorem getB (l : List F5) {i : Nat} (h : i < l.length) : l.toArray[i]! = l.getD i z5 := by
  rw [getElem!_pos _ i (by simpa using h), List.getD_eq_getElem?_getD, List.getElem?_eq_getElem h]
  simp
theorem holds {w : World} {cap g : Nat} {l : List F5} (r : Row w (some ⟨g, 0, none⟩) cap g l) : Sort.HoldsK enc 5 w g 0 l.toArray := by
  intro t ht
  rw [Sort.size_flatK] at ht
  have ht' : t < l.length * 5 := by simpa using ht
  rw [Nat.zero_add, Sort.get_flatK _ _ _ _ ht]
  have hi : t / 5 < l.length := by omega
  have hm : t % 5 < 5 := Nat.mod_lt _ (by omega)
  have hd : t = t / 5 * 5 + t % 5 := by omega
  refine ⟨?_, r.free (by omega) _⟩
  rw [getB l hi]
  have c := r.cells (t / 5) hi
  rw [hd]
  rw [show (t / 5 * 5 + t % 5) / 5 = t / 5 by omega, show (t / 5 * 5 + t % 5) % 5 = t % 5 by omega]
  generalize t % 5 = q at hm
  generalize l.getD (t / 5) z5 = x at c
  match q, hm with
  | 0, _ => exact c.c0
  | 1, _ => exact c.c1
  | 2, _ => exact c.c2
  | 3, _ => exact c.c3
  | 4, _ => exact c.c4
theorem row {w : World} {cap g : Nat} {l : List F5} (h : Sort.HoldsK enc 5 w g 0 l.toArray) (hc : l.length ≤ cap) (hf : 0 < l.length → ∀ i, w.frozen? ⟨g, i, none⟩ = false) : Row w (some ⟨g, 0, none⟩) cap g l := by
  refine ⟨fun _ => rfl, hc, fun i hi => ?_, hf⟩
  have c : ∀ q, q < 5 → w.cell? ⟨g, i * 5 + q, none⟩ = some ((enc (l.getD i z5))[q]!) := fun q hq => by
    have := (h (i * 5 + q) (by rw [Sort.size_flatK]; simp; omega)).1
    rw [Nat.zero_add, Sort.get_flatK _ _ _ _ (by simp; omega), show (i * 5 + q) / 5 = i by omega, show (i * 5 + q) % 5 = q by omega, getB l hi] at this
    exact this
  exact ⟨c 0 (by omega), c 1 (by omega), c 2 (by omega), c 3 (by omega), c 4 (by omega)⟩
theorem heap_sort (w : World) (blk off m k : Nat) (d : Array F5) (os : Array Obj) (hk : k ≠ blk) (hl : k < w.heap.size) : (sortWorldK enc 5 w blk off m d os).heap[k]? = w.heap[k]? := by
  unfold sortWorldK Sort.grow Sort.putRowK Sort.putRow Sort.mapBlock Sort.ahead
  rw [Array.getElem?_append_left (by simpa using hl), Array.getElem?_modify, if_neg (fun e => hk e.symm)]
theorem below_sort {W w : World} (blk off m : Nat) (d : Array F5) (os : Array Obj) {B : Nat} (h : Below B W w) (hB : B ≤ blk) (hs : B ≤ w.heap.size) : Below B W (sortWorldK enc 5 w blk off m d os) :=
  ⟨h.os, h.tape, h.output, Nat.le_trans h.size (size_sortWorldK_c enc 5 w blk off m d os), fun k hk => (heap_sort w blk off m k d os (by omega) (by omega)).trans (h.block k hk)⟩
/-- A sorted list, in the row where the list was. -/
def Sorted (w : World) (cap g : Nat) (l : List F5) (e : Ending) (w' : World) : Prop := e = .returned (.tuple #[]) ∧ ∃ r : List F5, r.Perm l ∧ r.Pairwise (fun x y => ¬ cmpP y x < 0) ∧ Row w' (some ⟨g, 0, none⟩) cap g r ∧ w.heap.size ≤ w'.heap.size ∧ ∀ B, B ≤ g → Below B w w'
theorem sortI (w : World) (cap g : Nat) (l : List F5) (r : Row w (some ⟨g, 0, none⟩) cap g l) (hg : g < w.heap.size) (hl : l.length ≤ 1048576) :
    Calls Try.prog 70 #[.slice (some ⟨g, 0, none⟩) l.length cap, .func (.func 48) #[] #[]] w (Sorted w cap g l) := by
  have eg : ∀ args w, (callFunc 48 args).run Try.prog w = .ok (.enter 48 args) w := enters_of Try.func48 (by kernel_rfl) rfl
  have hcmp : CmpLays Try.prog 48 #[] enc 5 cmpP g 0 l.toArray.size w := fun _ _ _ _ x y => base.cmpI x y _
  have h := AnyQ.slices_SortFunc Try.sortIv 5 Try.isAgg52 Try.sizeOf52 enc (fun _ => rfl) one cmpP swo 48 #[] g 0 cap l.toArray w eg hcmp (holds r) hg (by simp; omega)
  have h' : Calls Try.prog 70 #[.slice (some ⟨g, 0, none⟩) l.length cap, .func (.func 48) #[] #[]] w _ := h
  refine h'.mono fun e w' ⟨he, d', n, os, hp, hs, hw⟩ => ⟨he, d'.toList, ?_, ?_, ?_, ?_, fun B hB => ?_⟩
  · have := hp.2.2
    have s1 := hp.1
    simp at this s1
    rw [← s1, show List.take d'.size d'.toList = d'.toList from by rw [← Array.length_toList, List.take_length]] at this
    exact this
  · refine List.pairwise_iff_getElem.2 fun i j hi hj hij => ?_
    have := hs i j (Nat.zero_le _) hij (by have := hp.1; simp at this hj; simp; omega)
    unfold ltOf at this
    rw [decide_eq_false_iff_not, getElem!_pos _ j (by simpa using hj), getElem!_pos _ i (by simpa using hi)] at this
    simpa using this
  · have s1 := hp.1
    have hH := holdsK_sortWorldK enc 5 w g 0 n l.toArray d' os hg (holds r) s1
    rw [← hw] at hH
    have len : d'.toList.length = l.length := by simpa using s1
    refine row (by simpa using hH) (by rw [len]; exact r.room) fun h0 i => ?_
    rw [hw]
    show (Sort.grow (Sort.putRowK enc 5 (Sort.ahead w n) g 0 d') os).frozen? ⟨g, i, none⟩ = false
    rw [World.frozen?_of_block (w := Sort.putRowK enc 5 (Sort.ahead w n) g 0 d') (a := ⟨g, i, none⟩) (Sort.heap_grow_old _ os (by unfold Sort.putRowK; simp; exact hg))]
    unfold Sort.putRowK
    rw [Sort.frozen?_putRow]
    exact r.free (by omega) i
  · rw [hw]; exact size_sortWorldK_c enc 5 w g 0 n d' os
  · rw [hw]; exact below_sort g 0 n d' os (Below.refl _ _) hB (by omega)
end Go.Proofs.Ytnkdjnfbllkgiaa.srt
