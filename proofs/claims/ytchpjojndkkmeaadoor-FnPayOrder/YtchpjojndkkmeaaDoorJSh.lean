/-
  Plain helpers of this seat's proofs: the contract of the model's Shared. Conditions: none.
-/
import Derived.Test.YtchpjojndkkmeaaDoorRws
import Derived.Test.YtchpjojndkkmeaaDoorAlc
import Derived.Test.YtchpjojndkkmeaaDoorSmd
import Derived.Maps.AppendAt
namespace Go.Proofs.YtchpjojndkkmeaaDoor.shr
open Go.ChangeShapes Go.WideShapes Go.ChangeAt Go.RowKit
/-- The weights as natural numbers. -/
def wf (zs : List Int) (i : Nat) : Nat := (zs.getD i 0).toNat
def InR (zs : List Int) : Prop := ∀ i, i < zs.length → 0 ≤ zs.getD i 0 ∧ zs.getD i 0 ≤ 1000000
def sumW (zs : List Int) : Nat := alc.sm (wf zs) zs.length
/-- What Shared accepts. -/
def Good (t : Int) (zs : List Int) : Prop := 0 ≤ t ∧ t ≤ 1000000000000 ∧ zs.length ≤ 60 ∧ InR zs ∧ 0 < sumW zs
def lst (g : Nat → Nat) (n : Nat) : List Int := (List.range n).map fun i => (g i : Int)
def qf (T s : Nat) (W : Nat → Nat) (i : Nat) : Nat := T * W i / s
def rf (T s : Nat) (W : Nat → Nat) (i : Nat) : Nat := T * W i % s
theorem lst_len (g : Nat → Nat) (n : Nat) : (lst g n).length = n := by simp [lst]
theorem lst_get (g : Nat → Nat) (n i : Nat) (hi : i < n) : (lst g n).getD i 0 = (g i : Int) := by
  unfold lst
  rw [List.getD_eq_getElem?_getD, List.getElem?_map, List.getElem?_range hi]; rfl
theorem lst_congr {g g' : Nat → Nat} {n : Nat} (h : ∀ i, i < n → g i = g' i) : lst g n = lst g' n := by
  unfold lst
  refine List.map_congr_left fun i hi => ?_
  rw [h i (List.mem_range.1 hi)]
/-- What Shared answers. -/
def Sh (t : Int) (zs l : List Int) : Prop := (¬ Good t zs ∧ l = []) ∨
  (Good t zs ∧ ∃ S, alc.Dwn (rf t.toNat (sumW zs) (wf zs)) zs.length S (t.toNat - alc.sm (qf t.toNat (sumW zs) (wf zs)) zs.length) ∧ l = lst (alc.got (qf t.toNat (sumW zs) (wf zs)) S) zs.length)
theorem Sh.uniq {t : Int} {zs l l' : List Int} (h : Sh t zs l) (h' : Sh t zs l') : l = l' := by
  rcases h with ⟨h1, h2⟩ | ⟨h1, S, h2, h3⟩ <;> rcases h' with ⟨k1, k2⟩ | ⟨k1, S', k2, k3⟩
  · rw [h2, k2]
  · exact (h1 k1).elim
  · exact (k1 h1).elim
  · rw [h3, k3]
    exact lst_congr fun i hi => by unfold alc.got; rw [h2.uniq k2 i hi]
theorem Sh.small {t : Int} {zs l : List Int} (h : Sh t zs l) : l.length ≤ 60 := by
  rcases h with ⟨_, h2⟩ | ⟨h1, S, _, h3⟩
  · rw [h2]; simp
  · rw [h3, lst_len]; exact h1.2.2.1
theorem Good.alc {t : Int} {zs : List Int} (h : Good t zs) : alc.Alc t.toNat zs.length (sumW zs) (wf zs) (qf t.toNat (sumW zs) (wf zs)) (rf t.toNat (sumW zs) (wf zs)) (t.toNat - alc.sm (qf t.toNat (sumW zs) (wf zs)) zs.length) :=
  ⟨rfl, h.2.2.2.2, fun _ _ => rfl, fun _ _ => rfl, by
    have := alc.q_le (t := t.toNat) (n := zs.length) (s := sumW zs) (w := wf zs) (q := qf t.toNat (sumW zs) (wf zs)) (r := rf t.toNat (sumW zs) (wf zs)) rfl h.2.2.2.2 (fun _ _ => rfl) (fun _ _ => rfl)
    omega⟩
theorem Good.pos {t : Int} {zs : List Int} (h : Good t zs) : 0 < zs.length := by
  rcases Nat.eq_zero_or_pos zs.length with z | p
  · have := h.2.2.2.2; unfold sumW at this; rw [z] at this; simp [alc.sm] at this
  · exact p
theorem wf_bd {zs : List Int} (h : InR zs) (i : Nat) (hi : i < zs.length) : wf zs i ≤ 1000000 ∧ zs.getD i 0 = (wf zs i : Int) := by
  have := h i hi
  unfold wf
  omega
theorem sum_bd {zs : List Int} (h : InR zs) (h60 : zs.length ≤ 60) (k : Nat) (hk : k ≤ zs.length) : alc.sm (wf zs) k ≤ 60000000 := by
  have := alc.sm_bd (f := wf zs) (c := 1000000) (n := k) (fun i hi => (wf_bd h i (by omega)).1)
  omega
/-- A list of numbers, in memory of its own. -/
def GotS (w : World) (t : Int) (zs : List Int) (e : Ending) (w' : World) : Prop :=
  ∃ a cap g l, e = .returned (.slice a (List.length l) cap) ∧ rows.Row w' a cap g l ∧ (0 < l.length → w.heap.size ≤ g ∧ g < w'.heap.size) ∧ Below w.heap.size w w' ∧ Sh t zs l
theorem got_none {w w' : World} {t : Int} {zs : List Int} (h : ¬ Good t zs) (hb : Below w.heap.size w w') : GotS w t zs (.returned (.slice none 0 0)) w' :=
  ⟨none, 0, 0, [], rfl, ⟨(fun h => by cases h), Nat.le_refl _, (fun i hi => by cases hi), (fun h => by cases h)⟩, (fun h => by cases h), hb, .inl ⟨h, rfl⟩⟩
/-- What the search of the model sees. -/
def vl (r : Nat → Nat) (S : Nat → Bool) (j : Nat) : Int := if S j = true then -1 else (r j : Int)
theorem vl_more (r : Nat → Nat) (S : Nat → Bool) (b j : Nat) : vl r (alc.more S b) j = if j = b then -1 else vl r S j := by
  unfold vl alc.more
  by_cases e : j = b
  · rw [if_pos e, if_pos rfl, if_pos e]
  · rw [if_neg e, if_neg e]
theorem got_more (q : Nat → Nat) (S : Nat → Bool) (b j : Nat) (hs : S b = false) : alc.got q (alc.more S b) j = if j = b then alc.got q S j + 1 else alc.got q S j := by
  unfold alc.got alc.more
  by_cases e : j = b
  · subst e; rw [if_pos rfl, if_pos rfl, hs]; rfl
  · rw [if_neg e, if_neg e]
/-- The best one so far. -/
structure Best (v : Nat → Int) (i b : Nat) : Prop where
  lt : b < i
  all : ∀ j, j < i → v j ≤ v b
  fst : ∀ j, j < b → v j < v b
theorem Best.start (v : Nat → Int) : Best v 1 0 :=
  ⟨by omega, fun j h => by rw [show j = 0 by omega]; exact Int.le_refl _, fun j h => by omega⟩
theorem Best.up {v : Nat → Int} {i b : Nat} (h : Best v i b) (hv : v b < v i) : Best v (i + 1) i :=
  ⟨by omega, fun j hj => by
    by_cases e : j = i
    · rw [e]; exact Int.le_refl _
    · have := h.all j (by omega); omega, fun j hj => by have := h.all j hj; omega⟩
theorem Best.no {v : Nat → Int} {i b : Nat} (h : Best v i b) (hv : ¬ v b < v i) : Best v (i + 1) b :=
  ⟨by have := h.lt; omega, fun j hj => by
    by_cases e : j = i
    · rw [e]; omega
    · exact h.all j (by omega), h.fst⟩
theorem Best.free {r : Nat → Nat} {S : Nat → Bool} {n t b : Nat} (h : Best (vl r S) n b) (D : alc.Dwn r n S t) (ht : t < n) : S b = false ∧ alc.Dwn r n (alc.more S b) (t + 1) := by
  obtain ⟨j, hj, hs⟩ := D.some ht
  have hb : S b = false := by
    cases e : S b with
    | false => rfl
    | true =>
      have a := h.all j hj
      unfold vl at a
      rw [hs, e] at a
      simp at a
      omega
  refine ⟨hb, D.more h.lt hb fun i hi hsi hne => ?_⟩
  have a := h.all i hi
  have f := h.fst i
  unfold vl at a f
  rw [hsi, hb] at a f
  simp at a f
  by_cases c : i < b
  · have := f c; omega
  · omega
/-- The blocks of the model's two lists while it chooses. -/
structure L3 (w wr : World) (go gr n t : Nat) (q r : Nat → Nat) (S : Nat → Bool) : Prop where
  below : Below w.heap.size w wr
  dwn : alc.Dwn r n S t
  a : ∃ A, rows.Blk wr go n A ∧ ∀ j, j < n → A j = .int .i64 (alc.got q S j : Nat)
  b : ∃ B, rows.Blk wr gr n B ∧ ∀ j, j < n → B j = .int .i64 (vl r S j)
theorem L3.step {w wr : World} {go gr n t b : Nat} {q r : Nat → Nat} {S : Nat → Bool} (h : L3 w wr go gr n t q r S) (hb : Best (vl r S) n b) (ht : t < n) (h1 : w.heap.size ≤ go) (h2 : w.heap.size ≤ gr) (hne : go ≠ gr) :
    L3 w ((wr.setCell ⟨go, b, none⟩ (.int .i64 ((alc.got q S b : Nat) + 1))).setCell ⟨gr, b, none⟩ (.int .i64 (-1))) go gr n (t + 1) q r (alc.more S b) := by
  obtain ⟨fr, D⟩ := hb.free h.dwn ht
  obtain ⟨A, hA, eA⟩ := h.a
  obtain ⟨B, hB, eB⟩ := h.b
  refine ⟨(h.below.setCell h1 _).setCell h2 _, D, ⟨_, (hA.set hb.lt _).other hne _, fun j hj => ?_⟩, ⟨_, (hB.other (Ne.symm hne) _).set hb.lt _, fun j hj => ?_⟩⟩
  · unfold rows.upd
    rw [got_more q S b j fr]
    by_cases e : j = b
    · subst e; rw [if_pos rfl, if_pos rfl]; rfl
    · rw [if_neg e, if_neg e]; exact eA j hj
  · unfold rows.upd
    rw [vl_more]
    by_cases e : j = b
    · rw [if_pos e, if_pos e]
    · rw [if_neg e, if_neg e]; exact eB j hj
theorem L3.drewN {w wr : World} {go gr n t : Nat} {q r : Nat → Nat} {S : Nat → Bool} (h : L3 w wr go gr n t q r S) (k : Nat) : L3 w (wr.drewN k) go gr n t q r S := by
  obtain ⟨A, hA, eA⟩ := h.a
  obtain ⟨B, hB, eB⟩ := h.b
  exact ⟨below_drewN h.below k, h.dwn, ⟨A, hA.keep rfl (Nat.le_refl _), eA⟩, ⟨B, hB.keep rfl (Nat.le_refl _), eB⟩⟩
/-- The lists as they grow. -/
def pre (f : Nat → Nat) (k : Nat) : List Value := (List.range k).map fun i => .int .i64 (f i : Nat)
theorem pre_succ (f : Nat → Nat) (k : Nat) : pre f (k + 1) = pre f k ++ [.int .i64 (f k : Nat)] := by unfold pre; rw [List.range_succ, List.map_append]; rfl
theorem pre_get (f : Nat → Nat) (n k : Nat) (hk : k < n) : (pre f n)[k]? = some (.int .i64 (f k : Nat)) := by unfold pre; rw [List.getElem?_map, List.getElem?_range hk]; rfl
structure Gr (w wr : World) (v v' : Value) (k k' : Nat) (q r : Nat → Nat) : Prop where
  below : Below w.heap.size w wr
  o : wr.ownsRow w.heap.size 2 1 v k (pre q k)
  o' : wr.ownsRow w.heap.size 2 1 v' k' (pre r k')
  ex : ∃ x, v.ownBlock = some x
  ex' : ∃ x, v'.ownBlock = some x
  ne : v.ownBlock ≠ v'.ownBlock
theorem owns_blk {w : World} {B e size n x : Nat} {v : Value} {xs : List Value} (h : w.ownsRow B e size v n xs) (hx : v.ownBlock = some x) : B ≤ x ∧ x < w.heap.size := by
  rcases h.2 with ⟨rfl, _⟩ | ⟨g', cap', cur, rfl, hg', hh, _⟩
  · cases hx
  · cases hx; exact ⟨hg', (Array.getElem?_eq_some_iff.1 hh).1⟩
theorem Gr.left {w wr w1 : World} {v v' v1 : Value} {k k' : Nat} {q r : Nat → Nat} (h : Gr w wr v v' k k' q r) (o : Obj) (hown : w1.ownsRow w.heap.size 2 1 v1 (k + 1) (pre q k ++ [.int .i64 (q k : Nat)])) (hgrow : (wr.alloc o).grownBy w1 v.ownBlock)
    (hb : v1.ownBlock = v.ownBlock ∨ v1.ownBlock = some (wr.alloc o).heap.size) : Gr w w1 v1 v' (k + 1) k' q r := by
  obtain ⟨x, hx⟩ := h.ex
  obtain ⟨y, hy⟩ := h.ex'
  have ox := owns_blk h.o hx
  have oy := owns_blk h.o' hy
  have sz : (wr.alloc o).heap.size = wr.heap.size + 1 := by simp
  refine ⟨(h.below.alloc h.below.size o).grown hgrow (by rw [sz]; have := h.below.size; omega) (fun k hk => by rw [hx] at hk; cases hk; exact ox.1), by rw [pre_succ]; exact hown, (h.o'.alloc o).kept hgrow (.inr (Ne.symm h.ne)), ?_, h.ex', ?_⟩
  · rcases hb with e | e
    · exact ⟨x, by rw [e, hx]⟩
    · exact ⟨_, e⟩
  · rcases hb with e | e
    · rw [e]; exact h.ne
    · rw [e, hy, sz]; intro c; injection c with c; omega
theorem Gr.right {w wr w1 : World} {v v' v1 : Value} {k k' : Nat} {q r : Nat → Nat} (h : Gr w wr v v' k k' q r) (o : Obj) (hown : w1.ownsRow w.heap.size 2 1 v1 (k' + 1) (pre r k' ++ [.int .i64 (r k' : Nat)])) (hgrow : (wr.alloc o).grownBy w1 v'.ownBlock)
    (hb : v1.ownBlock = v'.ownBlock ∨ v1.ownBlock = some (wr.alloc o).heap.size) : Gr w w1 v v1 k (k' + 1) q r := by
  obtain ⟨x, hx⟩ := h.ex
  obtain ⟨y, hy⟩ := h.ex'
  have ox := owns_blk h.o hx
  have oy := owns_blk h.o' hy
  have sz : (wr.alloc o).heap.size = wr.heap.size + 1 := by simp
  refine ⟨(h.below.alloc h.below.size o).grown hgrow (by rw [sz]; have := h.below.size; omega) (fun k hk => by rw [hy] at hk; cases hk; exact oy.1), (h.o.alloc o).kept hgrow (.inr h.ne), by rw [pre_succ]; exact hown, h.ex, ?_, ?_⟩
  · rcases hb with e | e
    · exact ⟨y, by rw [e, hy]⟩
    · exact ⟨_, e⟩
  · rcases hb with e | e
    · rw [e]; exact h.ne
    · rw [e, hx, sz]; intro c; injection c with c; omega
/-- The two lists as the choice begins. -/
theorem Gr.start {w wr : World} {v v' : Value} {n : Nat} {q r : Nat → Nat} (h : Gr w wr v v' n n q r) :
    ∃ go gr cap cap', v = .slice (some ⟨go, 0, none⟩) n cap ∧ v' = .slice (some ⟨gr, 0, none⟩) n cap' ∧ n ≤ cap ∧ n ≤ cap' ∧ w.heap.size ≤ go ∧ w.heap.size ≤ gr ∧ go ≠ gr ∧ L3 w wr go gr n 0 q r (fun _ => false) := by
  obtain ⟨x, hx⟩ := h.ex
  obtain ⟨y, hy⟩ := h.ex'
  have ho := h.o
  have ho' := h.o'
  have ne := h.ne
  rcases h.o.2 with ⟨rfl, _⟩ | ⟨go, cap, cur, rfl, hg, hh, hc, _⟩
  · cases hx
  rcases h.o'.2 with ⟨rfl, _⟩ | ⟨gr, cap', cur', rfl, hg', hh', hc', _⟩
  · cases hy
  obtain ⟨⟨A, hA, eA⟩, _, _⟩ := rows.Blk.of_owns ho
  obtain ⟨⟨B, hB, eB⟩, _, _⟩ := rows.Blk.of_owns ho'
  rw [Nat.mul_one] at hA hB
  refine ⟨go, gr, cap, cap', rfl, rfl, hc, hc', hg, hg', fun e => ne (by rw [e]; rfl), h.below, alc.Dwn.none _ _, ⟨A, hA, fun j hj => ?_⟩, ⟨B, hB, fun j hj => ?_⟩⟩
  · have e := eA j (by omega)
    rw [pre_get q n j hj] at e
    injection e with e
    exact e.symm
  · have e := eB j (by omega)
    rw [pre_get r n j hj] at e
    injection e with e
    exact e.symm
theorem wideV (T x s : Nat) (w : World) (hT : T ≤ 1000000000000) (hx : x ≤ 1000000) (hxs : x ≤ s) (hs : 1 ≤ s) (hs2 : s ≤ 60000000) :
    Calls Tryd.prog 44 #[.int .i64 T, .int .i64 x, .int .i64 s] w fun e w' => e = .returned (.tuple #[.int .i64 ((T * x / s : Nat) : Int), .int .i64 ((T * x % s : Nat) : Int), .bool true]) ∧ w = w' := by
  refine md.wide _ T x s w hT (by omega) hs (by omega) (fun _ => ⟨rfl, rfl⟩) (fun h => ?_)
  have : T * x / s ≤ T := by
    have : T * x ≤ T * s := Nat.mul_le_mul_left _ hxs
    exact Nat.le_trans (Nat.div_le_div_right this) (by rw [Nat.mul_div_cancel _ hs]; exact Nat.le_refl _)
  omega
end Go.Proofs.YtchpjojndkkmeaaDoor.shr

namespace Go.Proofs.YtchpjojndkkmeaaDoor.shr
open Go.ChangeShapes Go.WideShapes Go.ChangeAt Go.RowKit
set_option maxRecDepth 100000 in
set_option maxHeartbeats 4000000 in
theorem spec_yes (w : World) (a : Option Addr) (cap g : Nat) (t : Int) (zs : List Int) (rw0 : rows.Row w a cap g zs) (hg : 0 < zs.length → g < w.heap.size) (hG : Good t zs) : Calls Tryd.prog 24 #[.int .i64 t, .slice a zs.length cap] w (GotS w t zs) := by
  have RW := Lib.hid rw0
  have pos := hG.pos
  obtain rfl := rw0.addr pos
  have hgl := hg pos
  have m1 := rw0.room
  clear rw0 hg
  have AL := Lib.hid hG.alc
  obtain ⟨g0, g1', g2', g3, g4⟩ := hG
  obtain ⟨T, rfl⟩ := Int.eq_ofNat_of_zero_le g0
  have WB := Lib.hid (fun i hi => wf_bd g3 i hi)
  have SBK := Lib.hid (fun k hk => sum_bd g3 g2' k hk)
  have SB := Lib.hid (sum_bd g3 g2' zs.length (Nat.le_refl _))
  have GG := Lib.hid (show Good (T : Int) zs from ⟨g0, g1', g2', g3, g4⟩)
  clear g3
  simp only [Int.toNat_natCast] at AL
  have SH : Hid (∀ l, (∃ S, alc.Dwn (rf T (sumW zs) (wf zs)) zs.length S (T - alc.sm (qf T (sumW zs) (wf zs)) zs.length) ∧ l = lst (alc.got (qf T (sumW zs) (wf zs)) S) zs.length) → Sh (T : Int) zs l) := Lib.hid fun l h => .inr ⟨GG.out, h⟩
  obtain ⟨n, hnz⟩ : ∃ n, n = zs.length := ⟨_, rfl⟩
  have HNZ := Lib.hid hnz
  obtain ⟨s, hs⟩ : ∃ s, s = sumW zs := ⟨_, rfl⟩
  have HS := Lib.hid (show alc.sm (wf zs) n = s by rw [hs, hnz]; rfl)
  rw [← hnz] at pos m1 g2' AL SH WB SBK ⊢
  rw [← hs] at AL g4 SH
  have sb : s ≤ 60000000 := by have := SB.out; unfold sumW at hs; omega
  clear hnz hs SB
  obtain ⟨q, hq⟩ : ∃ q, q = qf T s (wf zs) := ⟨_, rfl⟩
  obtain ⟨r, hr⟩ : ∃ r, r = rf T s (wf zs) := ⟨_, rfl⟩
  rw [← hq, ← hr] at AL SH
  have QR := Lib.hid (And.intro hq hr)
  clear hq hr
  obtain ⟨L, hL⟩ : ∃ L, L = T - alc.sm q n := ⟨_, rfl⟩
  rw [← hL] at AL SH
  clear hL
  have t2 : ((s : Int) == 0) = false := by simp; omega
  have fewL := AL.out.few pos
  obtain ⟨i2, hi2, hz20, hz21, hz22⟩ := info_parts rows.info2
  have INF := Lib.hid (And.intro hi2 (And.intro hz20 (And.intro hz21 hz22)))
  clear hi2 hz20 hz21 hz22
  go_enter Tryd.func24, Tryd.ntmps24
  go_wp2_with fail
  refine (md.inT (T : Int) _ _ w (by omega) (by omega)).mono ?_
  rintro e w' ⟨rfl, rfl⟩
  go_wp2_with fail
  refine (md.inT (n : Int) _ _ w (by omega) (by omega)).mono ?_
  rintro e w' ⟨rfl, rfl⟩
  go_wp2
  go_loop [5, 6] (fun vs vi => ∃ k : Nat, k ≤ n ∧ vi = .int .i64 k ∧ vs = .int .i64 (alc.sm (wf zs) k : Nat)) (fun _ vi => n - (intOf vi).toNat)
  case atStart => exact ⟨0, by omega, rfl, rfl⟩
  case round =>
    obtain ⟨k, hk, rfl, rfl⟩ := hrel
    by_cases hlt : k < n
    · have x1 := RW.out.cells k (by rw [← HNZ.out]; exact hlt)
      obtain ⟨wb, we⟩ := WB.out k hlt
      rw [we] at x1
      have bk := SBK.out k hk
      obtain ⟨wk, hwk⟩ : ∃ wk, wk = wf zs k := ⟨_, rfl⟩
      obtain ⟨m, hm⟩ : ∃ m, m = alc.sm (wf zs) k := ⟨_, rfl⟩
      rw [← hwk] at x1 wb
      rw [← hm] at bk ⊢
      have HH := Lib.hid (And.intro hwk hm)
      have u1 : decide (k < n) = true := by simp; omega
      have z1 : (k : Int) < (n : Int) := by omega
      clear hwk hm we
      go_wp2_with fail
      refine (md.inT (wk : Int) _ _ w (by omega) (by omega)).mono ?_
      rintro e w' ⟨rfl, rfl⟩
      go_wp2
      go_round
      case rel =>
        refine ⟨k + 1, by omega, by go_num, ?_⟩
        rw [alc.sm_succ, ← HH.out.1, ← HH.out.2]
        congr 1
      case measure => simp [intOf]; omega
    · have u1 : decide (k < n) = false := by simp; omega
      obtain rfl : k = n := by omega
      rw [HS.out]
      have ST := Lib.hid (show Gr w ((w.alloc (.cells #[] 2)).alloc (.cells #[] 2)) (.slice (some ⟨w.heap.size, 0, none⟩) 0 0) (.slice (some ⟨w.heap.size + 1, 0, none⟩) 0 0) 0 0 q r from by
        have b1 := (Below.refl w.heap.size w).alloc (Nat.le_refl _) (.cells #[] 2)
        have s1 : (w.alloc (.cells #[] 2)).heap.size = w.heap.size + 1 := by simp
        have s2 : ((w.alloc (.cells #[] 2)).alloc (.cells #[] 2)).heap.size = w.heap.size + 2 := by simp
        have h2 := heap_alloc_new (w.alloc (.cells #[] 2)) (.cells #[] 2)
        rw [s1] at h2
        refine ⟨b1.alloc (by omega) _, ?_, ?_, ⟨w.heap.size, rfl⟩, ⟨w.heap.size + 1, rfl⟩, by simp [Value.ownBlock]⟩
        · have h1 : (w.alloc (.cells #[] 2)).ownsRow w.heap.size 2 1 (.slice (some ⟨w.heap.size, 0, none⟩) 0 0) 0 [] := ⟨rfl, .inr ⟨w.heap.size, 0, #[], rfl, Nat.le_refl _, heap_alloc_new w _, Nat.le_refl _, Nat.zero_le _, rfl, rfl⟩⟩
          exact h1.alloc _
        · exact ⟨rfl, .inr ⟨w.heap.size + 1, 0, #[], rfl, by omega, h2, Nat.le_refl _, Nat.zero_le _, rfl, rfl⟩⟩)
      go_wp2
      go_loopw [7, 8, 9, 10] (fun vo vr vl vi wr => ∃ j : Nat, j ≤ k ∧ vi = .int .i64 j ∧ vl = .int .i64 ((T : Int) - (alc.sm q j : Nat)) ∧ Hid (Gr w wr vo vr j j q r)) (fun _ _ _ vi _ => k - (intOf vi).toNat)
      case atStart => exact ⟨0, by omega, rfl, by simp [alc.sm], ST⟩
      case round =>
        obtain ⟨j, hj, rfl, rfl, H⟩ := hrel
        by_cases hlt : j < k
        · have x1 := (H.out.below.cell (p := ⟨g, j, none⟩) hgl).trans (RW.out.cells j (by rw [← HNZ.out]; exact hlt))
          obtain ⟨wb, we⟩ := WB.out j hlt
          rw [we] at x1
          obtain ⟨wk, hwk⟩ : ∃ wk, wk = wf zs j := ⟨_, rfl⟩
          rw [← hwk] at x1 wb
          have ws : wk ≤ s := by have := alc.sm_one (f := wf zs) hlt; have := HS.out; omega
          have KW := Lib.hid (wideV T wk s wr (by omega) wb ws (by omega) sb)
          have eQ : q j = T * wk / s := by rw [QR.out.1, hwk]; rfl
          have eR : r j = T * wk % s := by rw [QR.out.2, hwk]; rfl
          rw [← eQ, ← eR] at KW
          have smk := alc.sm_pre (f := q) (n := k) (k := j + 1) (by omega)
          have smn := AL.out.lef
          rw [alc.sm_succ] at smk
          obtain ⟨Q, hQ⟩ : ∃ Q, Q = q j := ⟨_, rfl⟩
          obtain ⟨R, hR⟩ : ∃ R, R = r j := ⟨_, rfl⟩
          obtain ⟨m, hm⟩ : ∃ m, m = alc.sm q j := ⟨_, rfl⟩
          rw [← hQ, ← hm] at smk
          rw [← hQ, ← hR] at KW
          rw [← hm]
          have m2 : m + Q ≤ T := by omega
          have HH := Lib.hid (And.intro hQ (And.intro hR hm))
          have u1 : decide (j < k) = true := by simp; omega
          have z1 : (j : Int) < (k : Int) := by omega
          have hsz := H.out.below.size
          clear hwk hQ hR hm eQ eR smk smn we
          go_wp2_with fail
          refine KW.out.mono ?_
          rintro e w' ⟨rfl, rfl⟩
          obtain ⟨hi2, hz20, hz21, hz22⟩ := INF.out
          go_wp2_with (at_builtin; refine wpList_append_own_at _ rfl _ _ 37 rfl w.heap.size 2 i2 (.int .i64 0) 1 8 Tryd.underlying37 hi2 hz20 hz21 hz22 rfl (by decide) _ _ _ rfl (H.out.o.alloc _) ⟨wr.heap.size, 0, none⟩ 1 1 [.int .i64 (Q : Int)] rfl rfl ?c1 ?c2 ?c3 ?c4 ?c5 ?_)
          case c1 =>
            intro j u hj
            match j, hj with
            | 0, hj => simp at hj; subst hj; simp [Addr.add]
          case c2 => intro u hu; simp at hu; subst hu; rfl
          case c3 => unfold maxLen; omega
          case c4 => omega
          case c5 => simp; omega
          intro v1 w1 hown1 hgrow1 _ hb1
          have H1 := Lib.hid (H.out.left _ (by rw [← HH.out.1]; exact hown1) hgrow1 (by simpa using hb1))
          have hs1 := H1.out.below.size
          clear hown1 hgrow1 hb1 H KW
          go_wp2_with (at_builtin; refine wpList_append_own_at _ rfl _ _ 37 rfl w.heap.size 2 i2 (.int .i64 0) 1 8 Tryd.underlying37 hi2 hz20 hz21 hz22 rfl (by decide) _ _ _ rfl (H1.out.o'.alloc _) ⟨w1.heap.size, 0, none⟩ 1 1 [.int .i64 (R : Int)] rfl rfl ?d1 ?d2 ?d3 ?d4 ?d5 ?_)
          case d1 =>
            intro j u hj
            match j, hj with
            | 0, hj => simp at hj; subst hj; simp [Addr.add]
          case d2 => intro u hu; simp at hu; subst hu; rfl
          case d3 => unfold maxLen; omega
          case d4 => omega
          case d5 => simp; omega
          intro v2 w2 hown2 hgrow2 _ hb2
          have H2 := Lib.hid (H1.out.right _ (by rw [← HH.out.2.1]; exact hown2) hgrow2 (by simpa using hb2))
          clear hown2 hgrow2 hb2 H1 hi2 hz20 hz21 hz22
          go_wp2
          go_roundw
          case rel =>
            refine ⟨j + 1, by omega, by go_num, ?_, H2⟩
            rw [alc.sm_succ, ← HH.out.1, ← HH.out.2.2]
            congr 1
            omega
          case measure => simp [intOf]; omega
        · have u1 : decide (j < k) = false := by simp; omega
          obtain rfl : j = k := by omega
          have eL : (T : Int) - (alc.sm q j : Nat) = (L : Int) := by have := AL.out.lef; omega
          rw [eL]
          clear eL INF
          obtain ⟨go, gr, capo, capr, rfl, rfl, hco, hcr, lo, lr, ne1, H3⟩ := H.out.start
          have ne2 : gr ≠ go := Ne.symm ne1
          have ST3 := Lib.hid H3
          have qb : Hid (∀ i, i < j → q i ≤ T) := Lib.hid fun i hi => by
            have := alc.sm_one (f := q) hi; have := AL.out.lef; omega
          clear H3 H
          go_wp2
          go_loopw [9] (fun vl wr => ∃ (m t : Nat) (S : Nat → Bool), vl = .int .i64 m ∧ m + t = L ∧ Hid (L3 w wr go gr j t q r S)) (fun vl _ => (intOf vl).toNat)
          case atStart => exact ⟨L, 0, _, rfl, by omega, ST3⟩
          case round =>
            obtain ⟨m, t, S, rfl, hmt, H⟩ := hrel
            by_cases hm : 0 < m
            · have u1 : decide (0 < m) = true := by simp; omega
              have MT := Lib.hid hmt
              clear hmt
              go_wp2
              go_loopw [14, 15] (fun vb vi wr => ∃ b i : Nat, i ≤ j ∧ vb = .int .i64 b ∧ vi = .int .i64 i ∧ b < i ∧ Hid (L3 w wr go gr j t q r S) ∧ Hid (Best (vl r S) i b)) (fun _ vi _ => j - (intOf vi).toNat)
              case atStart => exact ⟨0, 1, by omega, rfl, rfl, by omega, H, Best.start _⟩
              case round =>
                obtain ⟨b, i, hij, rfl, rfl, hbi, H, BS⟩ := hrel
                by_cases hlt : i < j
                · obtain ⟨B, hB, eB⟩ := H.out.b
                  have c1 := hB.cell i hlt
                  have c2 := hB.cell b (by omega)
                  rw [eB i hlt] at c1
                  rw [eB b (by omega)] at c2
                  have UP := Lib.hid (fun h => BS.out.up h)
                  have NO := Lib.hid (fun h => BS.out.no h)
                  obtain ⟨x, hx⟩ : ∃ x, x = vl r S i := ⟨_, rfl⟩
                  obtain ⟨y, hy⟩ : ∃ y, y = vl r S b := ⟨_, rfl⟩
                  rw [← hx] at c1 UP NO
                  rw [← hy] at c2 UP NO
                  have u2 : decide (i < j) = true := by simp; omega
                  have z1 : (i : Int) < (j : Int) := by omega
                  have z2 : (b : Int) < (j : Int) := by omega
                  clear hB eB hx hy BS
                  by_cases hxy : y < x
                  · have u3 : decide (y < x) = true := by simp; omega
                    go_wp2
                    go_quiet (fail)
                    go_wp2
                    go_roundw
                    case rel => exact ⟨i, i + 1, by omega, rfl, by go_num, by omega, H.out.drewN _, UP.out hxy⟩
                    case measure => simp [intOf]; omega
                  · have u3 : decide (y < x) = false := by simp; omega
                    go_wp2
                    go_quiet (fail)
                    go_wp2
                    go_roundw
                    case rel => exact ⟨b, i + 1, by omega, rfl, by go_num, by omega, H.out.drewN _, NO.out (by omega)⟩
                    case measure => simp [intOf]; omega
                · have u2 : decide (i < j) = false := by simp; omega
                  obtain rfl : i = j := by omega
                  obtain ⟨A, hA, eA⟩ := H.out.a
                  obtain ⟨B, hB, eB⟩ := H.out.b
                  have fr := (BS.out.free H.out.dwn (by have := MT.out; omega)).1
                  have c1 := hA.cell b (by omega)
                  rw [eA b (by omega)] at c1
                  have c2 := hA.free b
                  have c3 := hB.cell b (by omega)
                  have c4 := hB.free b
                  have qq : alc.got q S b ≤ T := by unfold alc.got; rw [fr]; exact qb.out b (by omega)
                  have STP := Lib.hid (H.out.step BS.out (by have := MT.out; omega) lo lr ne1)
                  obtain ⟨Q, hQ⟩ : ∃ Q, Q = alc.got q S b := ⟨_, rfl⟩
                  rw [← hQ] at c1 qq STP
                  have z2 : (b : Int) < (i : Int) := by omega
                  clear hA hB eA eB hQ fr
                  obtain ⟨m, rfl⟩ : ∃ m', m = m' + 1 := ⟨m - 1, by omega⟩
                  have mb : m ≤ 60 := by have := MT.out; omega
                  go_wp2
                  go_roundw
                  case rel => exact ⟨m, t + 1, _, by go_num, by have := MT.out; omega, STP⟩
                  case measure => simp [intOf]
            · obtain rfl : m = 0 := by omega
              obtain rfl : t = L := by omega
              go_wp2
              go_ret
              obtain ⟨A, hA, eA⟩ := H.out.a
              refine ⟨_, capo, go, lst (alc.got q S) j, by rw [lst_len]; rfl, hA.row (lst_len _ _) hco (fun i hi => by rw [eA i hi, lst_get _ _ _ hi]), fun _ => ⟨lo, hA.lt⟩, H.out.below, SH.out _ ⟨S, H.out.dwn, rfl⟩⟩
end Go.Proofs.YtchpjojndkkmeaaDoor.shr

namespace Go.Proofs.YtchpjojndkkmeaaDoor.shr
open Go.ChangeShapes Go.WideShapes Go.ChangeAt Go.RowKit
set_option maxRecDepth 100000 in
set_option maxHeartbeats 1000000 in
theorem spec_no (w : World) (a : Option Addr) (cap g : Nat) (t : Int) (zs : List Int) (rw0 : rows.Row w a cap g zs) (hn : zs.length ≤ 1048576) (hG : ¬ Good t zs) : Calls Tryd.prog 24 #[.int .i64 t, .slice a zs.length cap] w (GotS w t zs) := by
  have GN := Lib.hid (got_none (w := w) hG (Below.refl _ _))
  have HG := Lib.hid hG
  have RW := Lib.hid rw0
  have e1 := rw0.addr
  have m1 := rw0.room
  obtain ⟨n, hnz⟩ : ∃ n, n = zs.length := ⟨_, rfl⟩
  have HNZ := Lib.hid hnz
  rw [← hnz] at hn e1 m1 ⊢
  clear rw0 hG hnz
  by_cases c1 : t < 0 ∨ 1000000000000 < t
  · have H1 := Lib.hid c1
    clear c1 e1
    go_enter Tryd.func24, Tryd.ntmps24
    go_wp2_with fail
    refine (md.inF t _ _ w H1.out).mono ?_
    rintro e w' ⟨rfl, rfl⟩
    go_wp2
    go_ret
    exact GN.out
  · have t1 : 0 ≤ t := by omega
    have t2 : t ≤ 1000000000000 := by omega
    by_cases c2 : n < 1 ∨ 60 < n
    · have H2 := Lib.hid (show (n : Int) < 1 ∨ (60 : Int) < (n : Int) by omega)
      clear c1 c2 e1
      go_enter Tryd.func24, Tryd.ntmps24
      go_wp2_with fail
      refine (md.inT t _ _ w t1 t2).mono ?_
      rintro e w' ⟨rfl, rfl⟩
      go_wp2_with fail
      refine (md.inF (n : Int) _ _ w H2.out).mono ?_
      rintro e w' ⟨rfl, rfl⟩
      go_wp2
      go_ret
      exact GN.out
    · obtain rfl := e1 (by omega)
      have n1 : 1 ≤ n := by omega
      have n2 : n ≤ 60 := by omega
      clear e1 c1 c2
      go_enter Tryd.func24, Tryd.ntmps24
      go_wp2_with fail
      refine (md.inT t _ _ w t1 t2).mono ?_
      rintro e w' ⟨rfl, rfl⟩
      go_wp2_with fail
      refine (md.inT (n : Int) _ _ w (by omega) (by omega)).mono ?_
      rintro e w' ⟨rfl, rfl⟩
      go_wp2
      go_loop [5, 6] (fun vs vi => ∃ k : Nat, k ≤ n ∧ vi = .int .i64 k ∧ vs = .int .i64 (alc.sm (wf zs) k : Nat) ∧ alc.sm (wf zs) k ≤ 60000000 ∧ Hid (∀ j, j < k → 0 ≤ zs.getD j 0 ∧ zs.getD j 0 ≤ 1000000)) (fun _ vi => n - (intOf vi).toNat)
      case atStart => exact ⟨0, by omega, rfl, rfl, by simp [alc.sm], fun j h => by omega⟩
      case round =>
        obtain ⟨k, hk, rfl, rfl, bk, D⟩ := hrel
        by_cases hlt : k < n
        · have x1 := RW.out.cells k (by rw [← HNZ.out]; exact hlt)
          obtain ⟨z, hz⟩ : ∃ z, z = zs.getD k 0 := ⟨_, rfl⟩
          rw [← hz] at x1
          have HZ := Lib.hid hz
          obtain ⟨m, hm⟩ : ∃ m, m = alc.sm (wf zs) k := ⟨_, rfl⟩
          rw [← hm] at bk ⊢
          have HM := Lib.hid hm
          have u1 : decide (k < n) = true := by simp; omega
          have z1 : (k : Int) < (n : Int) := by omega
          clear hz hm
          by_cases c3 : z < 0 ∨ 1000000 < z
          · have H3 := Lib.hid c3
            clear c3
            go_wp2_with fail
            refine (md.inF z _ _ w H3.out).mono ?_
            rintro e w' ⟨rfl, rfl⟩
            go_wp2
            go_ret
            exact GN.out
          · have v1 : 0 ≤ z := by omega
            have v2 : z ≤ 1000000 := by omega
            clear c3
            go_wp2_with fail
            refine (md.inT z _ _ w v1 v2).mono ?_
            rintro e w' ⟨rfl, rfl⟩
            go_wp2
            go_round
            case rel =>
              have ew : wf zs k = z.toNat := by unfold wf; rw [← HZ.out]
              have D2 : ∀ j, j < k + 1 → 0 ≤ zs.getD j 0 ∧ zs.getD j 0 ≤ 1000000 := fun j hj => by
                by_cases e : j = k
                · subst e; rw [← HZ.out]; omega
                · exact D.out j (by omega)
              have bd := alc.sm_bd (f := wf zs) (c := 1000000) (n := k + 1) (fun i hi => by have := D2 i hi; unfold wf; omega)
              refine ⟨k + 1, by omega, by go_num, ?_, by omega, D2⟩
              rw [alc.sm_succ, ew, ← HM.out]
              congr 1
              omega
            case measure => simp [intOf]; omega
        · have u1 : decide (k < n) = false := by simp; omega
          obtain rfl : k = n := by omega
          have z0 : alc.sm (wf zs) k = 0 := by
            rcases Nat.eq_zero_or_pos (sumW zs) with z | p
            · unfold sumW at z; rw [HNZ.out]; exact z
            · exact (HG.out ⟨t1, t2, by rw [← HNZ.out]; exact n2, fun i hi => D.out i (by rw [HNZ.out]; exact hi), p⟩).elim
          rw [z0]
          clear z0 bk
          go_wp2
          go_ret
          exact GN.out
theorem spec (w : World) (a : Option Addr) (cap g : Nat) (t : Int) (zs : List Int) (r : rows.Row w a cap g zs) (hg : 0 < zs.length → g < w.heap.size) (hn : zs.length ≤ 1048576) : Calls Tryd.prog 24 #[.int .i64 t, .slice a zs.length cap] w (GotS w t zs) := by
  by_cases hG : Good t zs
  · exact spec_yes w a cap g t zs r hg hG
  · exact spec_no w a cap g t zs r hn hG
end Go.Proofs.YtchpjojndkkmeaaDoor.shr
