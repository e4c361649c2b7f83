/-
  Plain helpers of this seat's proofs: what Shared answers, and the contract of the model's. Conditions: none.
-/
import Derived.Test.YtmnmijiikjpdnaaRws
import Derived.Test.YtmnmijiikjpdnaaAlc
import Derived.Test.YtmnmijiikjpdnaaSmd
import Derived.Maps.AppendAt
namespace Go.Proofs.Ytmnmijiikjpdnaa.shr
open Go.ChangeShapes Go.WideShapes Go.ChangeAt Go.RowKit
/-- The weights as natural numbers. -/
def wf (zs : List Int) (i : Nat) : Nat := (zs.getD i 0).toNat
def InR (zs : List Int) : Prop := ∀ i, i < zs.length → 0 ≤ zs.getD i 0 ∧ zs.getD i 0 ≤ 1000000
def sumW (zs : List Int) : Nat := alc.sm (wf zs) zs.length
/-- What Shared accepts. -/
def Good (t : Int) (zs : List Int) : Prop := 0 ≤ t ∧ t ≤ 1000000000000 ∧ zs.length ≤ 60 ∧ InR zs ∧ 0 < sumW zs
def lst (g : Nat → Nat) (n : Nat) : List Int := (List.range n).map fun i => (g i : Int)
def qf (T s : Nat) (W : Nat → Nat) (i : Nat) : Nat := T * W i / s
def rf (T s : Nat) (W : Nat → Nat) (i : Nat) : Nat := T * W i % s
theorem lst_len (g : Nat → Nat) (n : Nat) : (lst g n).length = n := by simp [lst]
theorem lst_get (g : Nat → Nat) (n i : Nat) (hi : i < n) : (lst g n).getD i 0 = (g i : Int) := by
  unfold lst
  rw [List.getD_eq_getElem?_getD, List.getElem?_map, List.getElem?_range hi]; rfl
theorem lst_congr {g g' : Nat → Nat} {n : Nat} (h : ∀ i, i < n → g i = g' i) : lst g n = lst g' n := by
  unfold lst
  refine List.map_congr_left fun i hi => ?_
  rw [h i (List.mem_range.1 hi)]
/-- What Shared answers. -/
def Sh (t : Int) (zs l : List Int) : Prop := (¬ Good t zs ∧ l = []) ∨
  (Good t zs ∧ ∃ S, alc.Dwn (rf t.toNat (sumW zs) (wf zs)) zs.length S (t.toNat - alc.sm (qf t.toNat (sumW zs) (wf zs)) zs.length) ∧ l = lst (alc.got (qf t.toNat (sumW zs) (wf zs)) S) zs.length)
theorem Sh.uniq {t : Int} {zs l l' : List Int} (h : Sh t zs l) (h' : Sh t zs l') : l = l' := by
  rcases h with ⟨h1, h2⟩ | ⟨h1, S, h2, h3⟩ <;> rcases h' with ⟨k1, k2⟩ | ⟨k1, S', k2, k3⟩
  · rw [h2, k2]
  · exact (h1 k1).elim
  · exact (k1 h1).elim
  · rw [h3, k3]
    exact lst_congr fun i hi => by unfold alc.got; rw [h2.uniq k2 i hi]
theorem Sh.small {t : Int} {zs l : List Int} (h : Sh t zs l) : l.length ≤ 60 := by
  rcases h with ⟨_, h2⟩ | ⟨h1, S, _, h3⟩
  · rw [h2]; simp
  · rw [h3, lst_len]; exact h1.2.2.1
theorem Good.alc {t : Int} {zs : List Int} (h : Good t zs) : alc.Alc t.toNat zs.length (sumW zs) (wf zs) (qf t.toNat (sumW zs) (wf zs)) (rf t.toNat (sumW zs) (wf zs)) (t.toNat - alc.sm (qf t.toNat (sumW zs) (wf zs)) zs.length) :=
  ⟨rfl, h.2.2.2.2, fun _ _ => rfl, fun _ _ => rfl, by
    have := alc.q_le (t := t.toNat) (n := zs.length) (s := sumW zs) (w := wf zs) (q := qf t.toNat (sumW zs) (wf zs)) (r := rf t.toNat (sumW zs) (wf zs)) rfl h.2.2.2.2 (fun _ _ => rfl) (fun _ _ => rfl)
    omega⟩
theorem Good.pos {t : Int} {zs : List Int} (h : Good t zs) : 0 < zs.length := by
  rcases Nat.eq_zero_or_pos zs.length with z | p
  · have := h.2.2.2.2; unfold sumW at this; rw [z] at this; simp [alc.sm] at this
  · exact p
theorem wf_bd {zs : List Int} (h : InR zs) (i : Nat) (hi : i < zs.length) : wf zs i ≤ 1000000 ∧ zs.getD i 0 = (wf zs i : Int) := by
  have := h i hi
  unfold wf
  omega
theorem sum_bd {zs : List Int} (h : InR zs) (h60 : zs.length ≤ 60) (k : Nat) (hk : k ≤ zs.length) : alc.sm (wf zs) k ≤ 60000000 := by
  have := alc.sm_bd (f := wf zs) (c := 1000000) (n := k) (fun i hi => (wf_bd h i (by omega)).1)
  omega
/-- A list of numbers, in memory of its own. -/
def GotS (w : World) (t : Int) (zs : List Int) (e : Ending) (w' : World) : Prop :=
  ∃ a cap g l, e = .returned (.slice a (List.length l) cap) ∧ rows.Row w' a cap g l ∧ (0 < l.length → w.heap.size ≤ g ∧ g < w'.heap.size) ∧ Below w.heap.size w w' ∧ Sh t zs l
theorem got_none {w w' : World} {t : Int} {zs : List Int} (h : ¬ Good t zs) (hb : Below w.heap.size w w') : GotS w t zs (.returned (.slice none 0 0)) w' :=
  ⟨none, 0, 0, [], rfl, ⟨(fun h => by cases h), Nat.le_refl _, (fun i hi => by cases hi), (fun h => by cases h)⟩, (fun h => by cases h), hb, .inl ⟨h, rfl⟩⟩
/-- What the search of the model sees. -/
def vl (r : Nat → Nat) (S : Nat → Bool) (j : Nat) : Int := if S j = true then -1 else (r j : Int)
theorem vl_more (r : Nat → Nat) (S : Nat → Bool) (b j : Nat) : vl r (alc.more S b) j = if j = b then -1 else vl r S j := by
  unfold vl alc.more
  by_cases e : j = b
  · rw [if_pos e, if_pos rfl, if_pos e]
  · rw [if_neg e, if_neg e]
theorem got_more (q : Nat → Nat) (S : Nat → Bool) (b j : Nat) (hs : S b = false) : alc.got q (alc.more S b) j = if j = b then alc.got q S j + 1 else alc.got q S j := by
  unfold alc.got alc.more
  by_cases e : j = b
  · subst e; rw [if_pos rfl, if_pos rfl, hs]; rfl
  · rw [if_neg e, if_neg e]
/-- The best one so far. -/
structure Best (v : Nat → Int) (i b : Nat) : Prop where
  lt : b < i
  all : ∀ j, j < i → v j ≤ v b
  fst : ∀ j, j < b → v j < v b
theorem Best.start (v : Nat → Int) : Best v 1 0 :=
  ⟨by omega, fun j h => by rw [show j = 0 by omega]; exact Int.le_refl _, fun j h => by omega⟩
theorem Best.up {v : Nat → Int} {i b : Nat} (h : Best v i b) (hv : v b < v i) : Best v (i + 1) i :=
  ⟨by omega, fun j hj => by
    by_cases e : j = i
    · rw [e]; exact Int.le_refl _
    · have := h.all j (by omega); omega, fun j hj => by have := h.all j hj; omega⟩
theorem Best.no {v : Nat → Int} {i b : Nat} (h : Best v i b) (hv : ¬ v b < v i) : Best v (i + 1) b :=
  ⟨by have := h.lt; omega, fun j hj => by
    by_cases e : j = i
    · rw [e]; omega
    · exact h.all j (by omega), h.fst⟩
theorem Best.free {r : Nat → Nat} {S : Nat → Bool} {n t b : Nat} (h : Best (vl r S) n b) (D : alc.Dwn r n S t) (ht : t < n) : S b = false ∧ alc.Dwn r n (alc.more S b) (t + 1) := by
  obtain ⟨j, hj, hs⟩ := D.some ht
  have hb : S b = false := by
    cases e : S b with
    | false => rfl
    | true =>
      have a := h.all j hj
      unfold vl at a
      rw [hs, e] at a
      simp at a
      omega
  refine ⟨hb, D.more h.lt hb fun i hi hsi hne => ?_⟩
  have a := h.all i hi
  have f := h.fst i
  unfold vl at a f
  rw [hsi, hb] at a f
  simp at a f
  by_cases c : i < b
  · have := f c; omega
  · omega
/-- The blocks of the model's two lists while it chooses. -/
structure L3 (w wr : World) (go gr n t : Nat) (q r : Nat → Nat) (S : Nat → Bool) : Prop where
  below : Below w.heap.size w wr
  dwn : alc.Dwn r n S t
  a : ∃ A, rows.Blk wr go n A ∧ ∀ j, j < n → A j = .int .i64 (alc.got q S j : Nat)
  b : ∃ B, rows.Blk wr gr n B ∧ ∀ j, j < n → B j = .int .i64 (vl r S j)
theorem L3.step {w wr : World} {go gr n t b : Nat} {q r : Nat → Nat} {S : Nat → Bool} (h : L3 w wr go gr n t q r S) (hb : Best (vl r S) n b) (ht : t < n) (h1 : w.heap.size ≤ go) (h2 : w.heap.size ≤ gr) (hne : go ≠ gr) :
    L3 w ((wr.setCell ⟨go, b, none⟩ (.int .i64 ((alc.got q S b : Nat) + 1))).setCell ⟨gr, b, none⟩ (.int .i64 (-1))) go gr n (t + 1) q r (alc.more S b) := by
  obtain ⟨fr, D⟩ := hb.free h.dwn ht
  obtain ⟨A, hA, eA⟩ := h.a
  obtain ⟨B, hB, eB⟩ := h.b
  refine ⟨(h.below.setCell h1 _).setCell h2 _, D, ⟨_, (hA.set hb.lt _).other hne _, fun j hj => ?_⟩, ⟨_, (hB.other (Ne.symm hne) _).set hb.lt _, fun j hj => ?_⟩⟩
  · unfold rows.upd
    rw [got_more q S b j fr]
    by_cases e : j = b
    · subst e; rw [if_pos rfl, if_pos rfl]; rfl
    · rw [if_neg e, if_neg e]; exact eA j hj
  · unfold rows.upd
    rw [vl_more]
    by_cases e : j = b
    · rw [if_pos e, if_pos e]
    · rw [if_neg e, if_neg e]; exact eB j hj
theorem L3.drewN {w wr : World} {go gr n t : Nat} {q r : Nat → Nat} {S : Nat → Bool} (h : L3 w wr go gr n t q r S) (k : Nat) : L3 w (wr.drewN k) go gr n t q r S := by
  obtain ⟨A, hA, eA⟩ := h.a
  obtain ⟨B, hB, eB⟩ := h.b
  exact ⟨below_drewN h.below k, h.dwn, ⟨A, hA.keep rfl (Nat.le_refl _), eA⟩, ⟨B, hB.keep rfl (Nat.le_refl _), eB⟩⟩
/-- The lists as they grow. -/
def pre (f : Nat → Nat) (k : Nat) : List Value := (List.range k).map fun i => .int .i64 (f i : Nat)
theorem pre_succ (f : Nat → Nat) (k : Nat) : pre f (k + 1) = pre f k ++ [.int .i64 (f k : Nat)] := by unfold pre; rw [List.range_succ, List.map_append]; rfl
theorem pre_get (f : Nat → Nat) (n k : Nat) (hk : k < n) : (pre f n)[k]? = some (.int .i64 (f k : Nat)) := by unfold pre; rw [List.getElem?_map, List.getElem?_range hk]; rfl
structure Gr (w wr : World) (v v' : Value) (k k' : Nat) (q r : Nat → Nat) : Prop where
  below : Below w.heap.size w wr
  o : wr.ownsRow w.heap.size 2 1 v k (pre q k)
  o' : wr.ownsRow w.heap.size 2 1 v' k' (pre r k')
  ex : ∃ x, v.ownBlock = some x
  ex' : ∃ x, v'.ownBlock = some x
  ne : v.ownBlock ≠ v'.ownBlock
theorem owns_blk {w : World} {B e size n x : Nat} {v : Value} {xs : List Value} (h : w.ownsRow B e size v n xs) (hx : v.ownBlock = some x) : B ≤ x ∧ x < w.heap.size := by
  rcases h.2 with ⟨rfl, _⟩ | ⟨g', cap', cur, rfl, hg', hh, _⟩
  · cases hx
  · cases hx; exact ⟨hg', (Array.getElem?_eq_some_iff.1 hh).1⟩
theorem Gr.left {w wr w1 : World} {v v' v1 : Value} {k k' : Nat} {q r : Nat → Nat} (h : Gr w wr v v' k k' q r) (o : Obj) (hown : w1.ownsRow w.heap.size 2 1 v1 (k + 1) (pre q k ++ [.int .i64 (q k : Nat)])) (hgrow : (wr.alloc o).grownBy w1 v.ownBlock)
    (hb : v1.ownBlock = v.ownBlock ∨ v1.ownBlock = some (wr.alloc o).heap.size) : Gr w w1 v1 v' (k + 1) k' q r := by
  obtain ⟨x, hx⟩ := h.ex
  obtain ⟨y, hy⟩ := h.ex'
  have ox := owns_blk h.o hx
  have oy := owns_blk h.o' hy
  have sz : (wr.alloc o).heap.size = wr.heap.size + 1 := by simp
  refine ⟨(h.below.alloc h.below.size o).grown hgrow (by rw [sz]; have := h.below.size; omega) (fun k hk => by rw [hx] at hk; cases hk; exact ox.1), by rw [pre_succ]; exact hown, (h.o'.alloc o).kept hgrow (.inr (Ne.symm h.ne)), ?_, h.ex', ?_⟩
  · rcases hb with e | e
    · exact ⟨x, by rw [e, hx]⟩
    · exact ⟨_, e⟩
  · rcases hb with e | e
    · rw [e]; exact h.ne
    · rw [e, hy, sz]; intro c; injection c with c; omega
theorem Gr.right {w wr w1 : World} {v v' v1 : Value} {k k' : Nat} {q r : Nat → Nat} (h : Gr w wr v v' k k' q r) (o : Obj) (hown : w1.ownsRow w.heap.size 2 1 v1 (k' + 1) (pre r k' ++ [.int .i64 (r k' : Nat)])) (hgrow : (wr.alloc o).grownBy w1 v'.ownBlock)
    (hb : v1.ownBlock = v'.ownBlock ∨ v1.ownBlock = some (wr.alloc o).heap.size) : Gr w w1 v v1 k (k' + 1) q r := by
  obtain ⟨x, hx⟩ := h.ex
  obtain ⟨y, hy⟩ := h.ex'
  have ox := owns_blk h.o hx
  have oy := owns_blk h.o' hy
  have sz : (wr.alloc o).heap.size = wr.heap.size + 1 := by simp
  refine ⟨(h.below.alloc h.below.size o).grown hgrow (by rw [sz]; have := h.below.size; omega) (fun k hk => by rw [hy] at hk; cases hk; exact oy.1), (h.o.alloc o).kept hgrow (.inr h.ne), by rw [pre_succ]; exact hown, h.ex, ?_, ?_⟩
  · rcases hb with e | e
    · exact ⟨y, by rw [e, hy]⟩
    · exact ⟨_, e⟩
  · rcases hb with e | e
    · rw [e]; exact h.ne
    · rw [e, hx, sz]; intro c; injection c with c; omega
/-- The two lists as the choice begins. -/
theorem Gr.start {w wr : World} {v v' : Value} {n : Nat} {q r : Nat → Nat} (h : Gr w wr v v' n n q r) :
    ∃ go gr cap cap', v = .slice (some ⟨go, 0, none⟩) n cap ∧ v' = .slice (some ⟨gr, 0, none⟩) n cap' ∧ n ≤ cap ∧ n ≤ cap' ∧ w.heap.size ≤ go ∧ w.heap.size ≤ gr ∧ go ≠ gr ∧ L3 w wr go gr n 0 q r (fun _ => false) := by
  obtain ⟨x, hx⟩ := h.ex
  obtain ⟨y, hy⟩ := h.ex'
  have ho := h.o
  have ho' := h.o'
  have ne := h.ne
  rcases h.o.2 with ⟨rfl, _⟩ | ⟨go, cap, cur, rfl, hg, hh, hc, _⟩
  · cases hx
  rcases h.o'.2 with ⟨rfl, _⟩ | ⟨gr, cap', cur', rfl, hg', hh', hc', _⟩
  · cases hy
  obtain ⟨⟨A, hA, eA⟩, _, _⟩ := rows.Blk.of_owns ho
  obtain ⟨⟨B, hB, eB⟩, _, _⟩ := rows.Blk.of_owns ho'
  rw [Nat.mul_one] at hA hB
  refine ⟨go, gr, cap, cap', rfl, rfl, hc, hc', hg, hg', fun e => ne (by rw [e]; rfl), h.below, alc.Dwn.none _ _, ⟨A, hA, fun j hj => ?_⟩, ⟨B, hB, fun j hj => ?_⟩⟩
  · have e := eA j (by omega)
    rw [pre_get q n j hj] at e
    injection e with e
    exact e.symm
  · have e := eB j (by omega)
    rw [pre_get r n j hj] at e
    injection e with e
    exact e.symm
theorem wideV (T x s : Nat) (w : World) (hT : T ≤ 1000000000000) (hx : x ≤ 1000000) (hxs : x ≤ s) (hs : 1 ≤ s) (hs2 : s ≤ 60000000) :
    Calls Try.prog 79 #[.int .i64 T, .int .i64 x, .int .i64 s] w fun e w' => e = .returned (.tuple #[.int .i64 ((T * x / s : Nat) : Int), .int .i64 ((T * x % s : Nat) : Int), .bool true]) ∧ w = w' := by
  refine md.wide _ T x s w hT (by omega) hs (by omega) (fun _ => ⟨rfl, rfl⟩) (fun h => ?_)
  have : T * x / s ≤ T := by
    have : T * x ≤ T * s := Nat.mul_le_mul_left _ hxs
    exact Nat.le_trans (Nat.div_le_div_right this) (by rw [Nat.mul_div_cancel _ hs]; exact Nat.le_refl _)
  omega
end Go.Proofs.Ytmnmijiikjpdnaa.shr
