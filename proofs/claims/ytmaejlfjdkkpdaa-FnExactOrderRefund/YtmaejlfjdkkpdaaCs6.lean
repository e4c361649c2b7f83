/-
  Plain helpers of this seat's proofs: the contract of the model's copy of an order. Conditions: none.
-/
import Derived.Test.YtmaejlfjdkkpdaaNwO
import Derived.Test.YtmaejlfjdkkpdaaPlSt
import Derived.Test.YtmaejlfjdkkpdaaSi
import Derived.Test.YtmaejlfjdkkpdaaFlI4
import Derived.Test.YtmaejlfjdkkpdaaFl7
import Derived.Test.YtmaejlfjdkkpdaaBxs
import Derived.Maps.AppendAt
import Derived.WalkSpells
namespace Go.Proofs.Ytmaejlfjdkkpdaa.ob
open Go.ChangeShapes Go.WideShapes Go.ChangeAt Go.RowKit
open gen
open seven (F7 zz Row At)
open four (F4)
open pl (inR)
open pls (nth Pls OL Pq NewO)
open ord (Sc iok)
/-- The cells of the first k plans. -/
def pc (p : List (List F7)) (gs cs : Nat → Nat) : Nat → List Value
  | 0 => []
  | k + 1 => pc p gs cs k ++ [.slice (some ⟨gs k, 0, none⟩) (nth p k).length (cs k)]
theorem pc_len (p : List (List F7)) (gs cs : Nat → Nat) : ∀ k, (pc p gs cs k).length = k
  | 0 => rfl
  | k + 1 => by unfold pc; rw [List.length_append, pc_len p gs cs k]; rfl
theorem pc_get (p : List (List F7)) (gs cs : Nat → Nat) : ∀ k i, i < k → (pc p gs cs k)[i]? = some (.slice (some ⟨gs i, 0, none⟩) (nth p i).length (cs i))
  | k + 1, i, h => by
    unfold pc
    by_cases e : i = k
    · subst e
      rw [List.getElem?_append_right (by rw [pc_len]; exact Nat.le_refl _), pc_len, Nat.sub_self]; rfl
    · rw [List.getElem?_append_left (by rw [pc_len]; omega)]
      exact pc_get p gs cs k i (by omega)
theorem pc_same (p : List (List F7)) {gs cs gs' cs' : Nat → Nat} : ∀ k, (∀ i, i < k → gs i = gs' i ∧ cs i = cs' i) → pc p gs cs k = pc p gs' cs' k
  | 0, _ => rfl
  | k + 1, h => by
    unfold pc
    rw [pc_same p k fun i hi => h i (by omega), (h k (by omega)).1, (h k (by omega)).2]
/-- The first k plans are copied: their list lies in a block of its own, each plan behind block B. -/
structure Gx (wr : World) (B : Nat) (v : Value) (p : List (List F7)) (gs cs : Nat → Nat) (k : Nat) : Prop where
  own : wr.ownsRow B 62 1 v k (pc p gs cs k)
  nn : v ≠ .slice none 0 0
  row : ∀ i, i < k → Row wr (some ⟨gs i, 0, none⟩) (cs i) (gs i) (nth p i)
  lo : ∀ i, i < k → B ≤ gs i
  lt : ∀ i, i < k → gs i < wr.heap.size
  ne : ∀ i, i < k → v.ownBlock ≠ some (gs i)
  inj : ∀ i j, i < k → j < k → gs i = gs j → i = j
theorem Gx.pls {wr : World} {B n : Nat} {v : Value} {p : List (List F7)} {gs cs : Nat → Nat} (h : Gx wr B v p gs cs n) (hn : p.length = n) : ∃ cap g, v = .slice (some ⟨g, 0, none⟩) p.length cap ∧ Pls wr (some ⟨g, 0, none⟩) cap g p gs cs ∧ B ≤ g ∧ g < wr.heap.size := by
  subst hn
  rcases h.own.2 with ⟨e, _⟩ | ⟨g, cap, cur, e, hg, hh, hn, hm, hs, ht⟩
  · exact absurd e h.nn
  · subst e
    refine ⟨cap, g, rfl, ⟨fun _ => rfl, hn, fun i hi => ?_, h.row, h.lt, fun _ i => ?_, fun i hi e => h.ne i hi (by rw [e]; rfl), h.inj⟩, hg, (Array.getElem?_eq_some_iff.1 hh).1⟩
    · have q : (cur.toList.take (p.length * 1))[i]? = (pc p gs cs p.length)[i]? := by rw [ht]
      rw [List.getElem?_take, if_pos (by omega), pc_get p gs cs _ i hi] at q
      unfold World.cell?
      simp [hh, ← Array.getElem?_toList, q]
    · unfold World.frozen?
      simp [hh]
theorem own_lt {w : World} {B e s n : Nat} {v : Value} {xs : List Value} (h : w.ownsRow B e s v n xs) : ∀ k, v.ownBlock = some k → k < w.heap.size := fun k hk => by
  rcases h.2 with ⟨rfl, _⟩ | ⟨g, cap, cur, rfl, hg, hh, _⟩
  · cases hk
  · cases hk; exact (Array.getElem?_eq_some_iff.1 hh).1
theorem Gx.step {wr w5 w6 : World} {B : Nat} {v v' : Value} {p : List (List F7)} {gs cs : Nat → Nat} {k g5 c5 : Nat} {o : Obj} (h : Gx wr B v p gs cs k) (hB : B ≤ wr.heap.size) (hb : Below wr.heap.size wr w5)
    (r : Row w5 (some ⟨g5, 0, none⟩) c5 g5 (nth p k)) (l5 : wr.heap.size ≤ g5) (k5 : g5 < w5.heap.size)
    (hown : w6.ownsRow B 62 1 v' (k + 1) (pc p gs cs k ++ [.slice (some ⟨g5, 0, none⟩) (nth p k).length c5])) (hg : (w5.alloc o).grownBy w6 v.ownBlock) (hnil : v' ≠ .slice none 0 0)
    (hat : v'.ownBlock = v.ownBlock ∨ v'.ownBlock = some (w5.alloc o).heap.size) : Gx w6 B v' p (pls.up gs k g5) (pls.up cs k c5) (k + 1) := by
  have z : (w5.alloc o).heap.size = w5.heap.size + 1 := by simp
  have zg : w5.heap.size + 1 ≤ w6.heap.size := by have := hg.size; omega
  have zb := hb.size
  have ol := own_lt h.own
  have kp : ∀ c, c < wr.heap.size → v.ownBlock ≠ some c → w6.heap[c]? = wr.heap[c]? := fun c hc hn => (hg.block c (by omega) (fun e => hn e.symm)).trans ((Below.heap_alloc w5 o c (by omega)).trans (hb.block c hc))
  have k5' : w6.heap[g5]? = w5.heap[g5]? := (hg.block g5 (by omega) (fun e => by have := ol g5 e.symm; omega)).trans (Below.heap_alloc w5 o g5 k5)
  refine ⟨?_, hnil, fun i hi => ?_, fun i hi => ?_, fun i hi => ?_, fun i hi => ?_, fun i j hi hj e => ?_⟩
  · have e1 : pc p (pls.up gs k g5) (pls.up cs k c5) (k + 1) = pc p gs cs k ++ [.slice (some ⟨g5, 0, none⟩) (nth p k).length c5] := by
      show pc p (pls.up gs k g5) (pls.up cs k c5) k ++ [.slice (some ⟨pls.up gs k g5 k, 0, none⟩) (nth p k).length (pls.up cs k c5 k)] = _
      rw [pc_same p k (gs := pls.up gs k g5) (cs := pls.up cs k c5) (gs' := gs) (cs' := cs) fun i hi => by unfold pls.up; rw [if_neg (by omega), if_neg (by omega)]; exact ⟨rfl, rfl⟩]
      unfold pls.up
      rw [if_pos rfl, if_pos rfl]
    rw [e1]; exact hown
  · unfold pls.up
    by_cases e : i = k
    · subst e
      rw [if_pos rfl, if_pos rfl]
      exact r.keep fun _ => k5'
    · rw [if_neg e, if_neg e]
      exact (h.row i (by omega)).keep fun _ => kp _ (h.lt i (by omega)) (h.ne i (by omega))
  · unfold pls.up
    by_cases e : i = k
    · rw [if_pos e]; omega
    · rw [if_neg e]; exact h.lo i (by omega)
  · unfold pls.up
    by_cases e : i = k
    · rw [if_pos e]; omega
    · rw [if_neg e]; have := h.lt i (by omega); omega
  · unfold pls.up
    by_cases e : i = k
    · rw [if_pos e]
      rcases hat with q | q
      · rw [q]; intro e2; have := ol g5 e2; omega
      · rw [q]; intro e2; injection e2 with e2; omega
    · rw [if_neg e]
      rcases hat with q | q
      · rw [q]; exact h.ne i (by omega)
      · rw [q]; intro e2; injection e2 with e2; have := h.lt i (by omega); omega
  · unfold pls.up at e
    by_cases ei : i = k
    · by_cases ej : j = k
      · omega
      · rw [if_pos ei, if_neg ej] at e; have := h.lt j (by omega); omega
    · by_cases ej : j = k
      · rw [if_neg ei, if_pos ej] at e; have := h.lt i (by omega); omega
      · rw [if_neg ei, if_neg ej] at e; exact h.inj i j (by omega) (by omega) e
theorem Gx.keep {wr w1 : World} {B : Nat} {v : Value} {p : List (List F7)} {gs cs : Nat → Nat} {k : Nat} (h : Gx wr B v p gs cs k) (hk : ∀ c, B ≤ c → c < wr.heap.size → w1.heap[c]? = wr.heap[c]?) (hs : wr.heap.size ≤ w1.heap.size) : Gx w1 B v p gs cs k := by
  refine ⟨⟨h.own.1, ?_⟩, h.nn, fun i hi => (h.row i hi).keep fun _ => hk _ (h.lo i hi) (h.lt i hi), h.lo, fun i hi => Nat.lt_of_lt_of_le (h.lt i hi) hs, h.ne, h.inj⟩
  rcases h.own.2 with q | ⟨g, cap, cur, e, hg, hh, r⟩
  · exact Or.inl q
  · exact Or.inr ⟨g, cap, cur, e, hg, (hk g hg (Array.getElem?_eq_some_iff.1 hh).1).trans hh, r⟩
set_option maxRecDepth 100000 in
set_option maxHeartbeats 8000000 in
theorem copS (w : World) (B : Nat) (s : Sc) (ci gi : Nat) (l : List F4) (cp gp : Nat) (p : List (List F7)) (gs cs : Nat → Nat)
    (h : OL w B l p (some ⟨gi, 0, none⟩) ci gi (some ⟨gp, 0, none⟩) cp gp gs cs) (hl : l.length ≤ 1048576) (hn : p.length ≤ 1048576) (hm : ∀ i, i < p.length → (nth p i).length ≤ 1048577) :
    Calls Try.prog 63 #[.agg #[.int .i64 s.id, .int .i64 s.co, .int .i64 s.me, .int .i64 s.cu, .int .i64 s.da, .int .i64 s.nn, .int .i64 s.ra, .int .i64 s.nu, .int .i64 s.de, .slice (some ⟨gi, 0, none⟩) l.length ci, .slice (some ⟨gp, 0, none⟩) p.length cp, .int .i64 s.op, .int .i64 s.up]] w fun e w' => ∃ v, e = .returned v ∧ NewO w s l p v w' := by
  have L := Lib.hid h
  have HM := Lib.hid hm
  have rp := h.plans.room
  have ep := h.plans.addr
  clear h hm
  have nn := L.out.plans.plt
  obtain ⟨n, hnz⟩ : ∃ n, n = p.length := ⟨_, rfl⟩
  have HNZ := Lib.hid hnz
  obtain ⟨i2, hi, hz0, hz1, hz2⟩ := info_parts pls.infoP
  go_enter Try.func63, Try.ntmps63
  go_wp2_with fail
  have B1 := Lib.hid (show Below w.heap.size w (((w.alloc (.cells #[.int .i64 s.id, .int .i64 s.co, .int .i64 s.me, .int .i64 s.cu, .int .i64 s.da, .int .i64 s.nn, .int .i64 s.ra, .int .i64 s.nu, .int .i64 s.de, .slice (some ⟨gi, 0, none⟩) l.length ci, .slice (some ⟨gp, 0, none⟩) p.length cp, .int .i64 s.op, .int .i64 s.up] 31)).alloc (.cells #[.int .i64 0, .int .i64 0, .int .i64 0, .int .i64 0, .int .i64 0, .int .i64 0, .int .i64 0, .int .i64 0, .int .i64 0, .slice none 0 0, .slice none 0 0, .int .i64 0, .int .i64 0] 31)).alloc (.cells #[] 62)) from bAl (bAl (bAl (Below.refl _ _) (Nat.le_refl _) _) (Nat.le_refl _) _) (Nat.le_refl _) _)
  have X0 := Lib.hid (((Blk.new w #[.int .i64 s.id, .int .i64 s.co, .int .i64 s.me, .int .i64 s.cu, .int .i64 s.da, .int .i64 s.nn, .int .i64 s.ra, .int .i64 s.nu, .int .i64 s.de, .slice (some ⟨gi, 0, none⟩) l.length ci, .slice (some ⟨gp, 0, none⟩) p.length cp, .int .i64 s.op, .int .i64 s.up] 31 13 rfl).al (.cells #[.int .i64 0, .int .i64 0, .int .i64 0, .int .i64 0, .int .i64 0, .int .i64 0, .int .i64 0, .int .i64 0, .int .i64 0, .slice none 0 0, .slice none 0 0, .int .i64 0, .int .i64 0] 31)).al (.cells #[] 62))
  have X1 := (Blk.new (w.alloc (.cells #[.int .i64 s.id, .int .i64 s.co, .int .i64 s.me, .int .i64 s.cu, .int .i64 s.da, .int .i64 s.nn, .int .i64 s.ra, .int .i64 s.nu, .int .i64 s.de, .slice (some ⟨gi, 0, none⟩) l.length ci, .slice (some ⟨gp, 0, none⟩) p.length cp, .int .i64 s.op, .int .i64 s.up] 31)) #[.int .i64 0, .int .i64 0, .int .i64 0, .int .i64 0, .int .i64 0, .int .i64 0, .int .i64 0, .int .i64 0, .int .i64 0, .slice none 0 0, .slice none 0 0, .int .i64 0, .int .i64 0] 31 13 rfl).al (.cells #[] 62)
  have z1 : (((w.alloc (.cells #[.int .i64 s.id, .int .i64 s.co, .int .i64 s.me, .int .i64 s.cu, .int .i64 s.da, .int .i64 s.nn, .int .i64 s.ra, .int .i64 s.nu, .int .i64 s.de, .slice (some ⟨gi, 0, none⟩) l.length ci, .slice (some ⟨gp, 0, none⟩) p.length cp, .int .i64 s.op, .int .i64 s.up] 31)).alloc (.cells #[.int .i64 0, .int .i64 0, .int .i64 0, .int .i64 0, .int .i64 0, .int .i64 0, .int .i64 0, .int .i64 0, .int .i64 0, .slice none 0 0, .slice none 0 0, .int .i64 0, .int .i64 0] 31)).alloc (.cells #[] 62)).heap.size = w.heap.size + 1 + 1 + 1 := by simp only [sz_al]
  have G1 := Lib.hid (show Gx (((w.alloc (.cells #[.int .i64 s.id, .int .i64 s.co, .int .i64 s.me, .int .i64 s.cu, .int .i64 s.da, .int .i64 s.nn, .int .i64 s.ra, .int .i64 s.nu, .int .i64 s.de, .slice (some ⟨gi, 0, none⟩) l.length ci, .slice (some ⟨gp, 0, none⟩) p.length cp, .int .i64 s.op, .int .i64 s.up] 31)).alloc (.cells #[.int .i64 0, .int .i64 0, .int .i64 0, .int .i64 0, .int .i64 0, .int .i64 0, .int .i64 0, .int .i64 0, .int .i64 0, .slice none 0 0, .slice none 0 0, .int .i64 0, .int .i64 0] 31)).alloc (.cells #[] 62)) (w.heap.size + 1 + 1) (.slice (some ⟨w.heap.size + 1 + 1, 0, none⟩) 0 0) p (fun _ => 0) (fun _ => 0) 0 from
    ⟨⟨rfl, .inr ⟨w.heap.size + 1 + 1, 0, #[], rfl, Nat.le_refl _, by have := seven.heap_new ((w.alloc (.cells #[.int .i64 s.id, .int .i64 s.co, .int .i64 s.me, .int .i64 s.cu, .int .i64 s.da, .int .i64 s.nn, .int .i64 s.ra, .int .i64 s.nu, .int .i64 s.de, .slice (some ⟨gi, 0, none⟩) l.length ci, .slice (some ⟨gp, 0, none⟩) p.length cp, .int .i64 s.op, .int .i64 s.up] 31)).alloc (.cells #[.int .i64 0, .int .i64 0, .int .i64 0, .int .i64 0, .int .i64 0, .int .i64 0, .int .i64 0, .int .i64 0, .int .i64 0, .slice none 0 0, .slice none 0 0, .int .i64 0, .int .i64 0] 31)) (.cells #[] 62); simpa using this, Nat.le_refl _, Nat.zero_le _, rfl, rfl⟩⟩, (fun h => by injection h with h; cases h), fun i hi => absurd hi (by omega), fun i hi => absurd hi (by omega), fun i hi => absurd hi (by omega), fun i hi => absurd hi (by omega), fun i j hi => absurd hi (by omega)⟩)
  simp only [sz_al] at X1
  have X1 := Lib.hid X1
  generalize ((w.alloc (.cells #[.int .i64 s.id, .int .i64 s.co, .int .i64 s.me, .int .i64 s.cu, .int .i64 s.da, .int .i64 s.nn, .int .i64 s.ra, .int .i64 s.nu, .int .i64 s.de, .slice (some ⟨gi, 0, none⟩) l.length ci, .slice (some ⟨gp, 0, none⟩) p.length cp, .int .i64 s.op, .int .i64 s.up] 31)).alloc (.cells #[.int .i64 0, .int .i64 0, .int .i64 0, .int .i64 0, .int .i64 0, .int .i64 0, .int .i64 0, .int .i64 0, .int .i64 0, .slice none 0 0, .slice none 0 0, .int .i64 0, .int .i64 0] 31)).alloc (.cells #[] 62) = W1 at B1 X0 X1 z1 G1 ⊢
  rw [← hnz] at hn rp X0
  have BW := Lib.hid (Below.refl (w.heap.size + 1 + 1) W1)
  clear hnz nn
  go_loopw [3, 4] (fun v i wr => Below (w.heap.size + 1 + 1) W1 wr ∧ ∃ (k : Nat) (gs' cs' : Nat → Nat), k ≤ n ∧ i = .int .i64 k ∧ Gx wr (w.heap.size + 1 + 1) v p gs' cs' k) (fun _ i _ => n - (intOf i).toNat)
  case atStart => exact ⟨BW.out, 0, _, _, by omega, rfl, G1.out⟩
  case round =>
    obtain ⟨hB, k, gs', cs', hk, rfl, hG⟩ := hrel
    have BB := Lib.hid hB
    have BR := Lib.hid (B1.out.trans (hB.mono (show w.heap.size ≤ w.heap.size + 1 + 1 by omega)))
    have Y0 := Lib.hid (X0.out.below hB (show w.heap.size < w.heap.size + 1 + 1 by omega))
    have Y1 := Lib.hid (X1.out.below hB (show w.heap.size + 1 < w.heap.size + 1 + 1 by omega))
    have zr := hB.size
    by_cases hlt : k < n
    · have HLT := Lib.hid (show k < p.length from by rw [← HNZ.out]; exact hlt)
      have GG := Lib.hid hG
      have y10 : wr.cell? ⟨w.heap.size, 10, none⟩ = some (.slice (some ⟨gp, 0, none⟩) n cp) := Y0.out.cell 10 (by decide)
      have q1 := (L.out.below BR.out).plans.cells k HLT.out
      have CC := Lib.hid (seven.cpS wr _ _ (nth p k) ((L.out.below BR.out).plans.rows k HLT.out) (HM.out k HLT.out))
      have z1' : (k : Int) < (n : Int) := by omega
      have v1 : decide (k < n) = true := by simp; omega
      obtain ⟨q, hq⟩ : ∃ q, q = nth p k := ⟨_, rfl⟩
      rw [← hq] at q1 CC
      have HQ := Lib.hid hq
      clear hB hG hq
      generalize gs k = gk at q1 CC
      generalize cs k = ck at q1 CC
      go_wp2_with fail
      refine CC.out.mono ?_
      rintro e w5 ⟨v5, rfl, c5, g5, rfl, r5, l5, k5, b5⟩
      have z5 := b5.size
      have kp : ∀ c, c < wr.heap.size → (w5.alloc (.cells #[.slice (some ⟨g5, 0, none⟩) q.length c5] 62)).heap[c]? = wr.heap[c]? := fun c hc => (Below.heap_alloc w5 _ c (by omega)).trans (b5.block c hc)
      have OW := Lib.hid ((GG.out.keep (w1 := w5.alloc (.cells #[.slice (some ⟨g5, 0, none⟩) q.length c5] 62)) (fun c _ hc => kp c hc) (by simp; omega)).own)
      have B5 := Lib.hid (((BB.out.trans (b5.mono (show w.heap.size + 1 + 1 ≤ wr.heap.size by omega))).alloc (by omega) (.cells #[.slice (some ⟨g5, 0, none⟩) q.length c5] 62)))
      have NEWS := Lib.hid (show ∀ j u, ([Value.slice (some ⟨g5, 0, none⟩) q.length c5] : List Value)[j]? = some u → (w5.alloc (.cells #[.slice (some ⟨g5, 0, none⟩) q.length c5] 62)).cell? ((⟨w5.heap.size, 0, none⟩ : Addr).add j) = some u from fun j u hj => by
        rw [seven.add0]
        match j, hj with
        | 0, hj => exact box_cell (box_refl w5 _) 0 (by simpa using hj))
      have R5 := Lib.hid r5
      have L5 := Lib.hid (show wr.heap.size ≤ g5 ∧ g5 < w5.heap.size from ⟨l5, k5⟩)
      have BB5 := Lib.hid b5
      have S5 := Lib.hid (show w.heap.size + 1 + 1 ≤ (w5.alloc (.cells #[.slice (some ⟨g5, 0, none⟩) q.length c5] 62)).heap.size from by simp; omega)
      have N63 := Lib.hid (show k + 1 ≤ maxLen from by unfold maxLen; omega)
      have NBY := Lib.hid (show (k + 1) * 24 ≤ 140737488355328 from by omega)
      clear r5 b5 kp l5 k5 q1 y10
      go_wp2_with (at_builtin; refine wpList_append_own_at _ rfl _ _ 29 rfl (w.heap.size + 1 + 1) 62 i2 (.agg #[.slice none 0 0]) 1 24 Try.underlying29 hi hz0 hz1 hz2 rfl (by decide) _ _ _ rfl OW.out ⟨w5.heap.size, 0, none⟩ 1 1 [.slice (some ⟨g5, 0, none⟩) q.length c5] rfl rfl NEWS.out (fun u hu => by simp at hu; subst hu; rfl) N63.out NBY.out S5.out ?_)
      intro v6 w6 hown6 hgrow6 hnil6 hat6
      have ST := Lib.hid (GG.out.step (by omega) BB5.out (by rw [← HQ.out]; exact R5.out) L5.out.1 L5.out.2 (by rw [← HQ.out]; exact hown6) hgrow6 (fun h => by first | exact hnil6 h | (have := (hnil6.1 h).2; omega)) (by first | exact hat6 | (rw [sz_al]; exact hat6)))
      have B6 := Lib.hid (B5.out.grown hgrow6 S5.out (seven.own_ge OW.out))
      clear hown6 hgrow6 hnil6 hat6
      go_wp2
      go_roundw
      case rel => exact ⟨B6.out, k + 1, _, _, by omega, by go_num, ST.out⟩
      case measure => simp [intOf]; omega
    · have v1 : decide (k < n) = false := by simp; omega
      obtain rfl : k = n := by omega
      obtain ⟨cv, gv, rfl, hPL, glo, glt⟩ := hG.pls HNZ.out.symm
      have GL := Lib.hid (show ∀ i, i < p.length → w.heap.size + 1 + 1 ≤ gs' i from fun i hi => hG.lo i (by rw [HNZ.out]; exact hi))
      have y10 : wr.cell? ⟨w.heap.size, 10, none⟩ = some (.slice (some ⟨gp, 0, none⟩) k cp) := Y0.out.cell 10 (by decide)
      have f10 := Y0.out.free 10
      have PLh := Lib.hid hPL
      clear hB hG hPL
      have y9 : wr.cell? ⟨w.heap.size, 9, none⟩ = some (.slice (some ⟨gi, 0, none⟩) l.length ci) := Y0.out.cell 9 (by decide)
      have lw : w.heap.size < wr.heap.size := Y0.out.lt
      obtain ⟨i4, hj, hy0, hy1, hy2⟩ := info_parts four.infoE
      have OW2 := Lib.hid (show ((wr.setCell ⟨w.heap.size, 10, none⟩ (.slice (some ⟨gv, 0, none⟩) p.length cv)).alloc (.cells #[] 58)).ownsRow wr.heap.size 58 4 (.slice (some ⟨wr.heap.size, 0, none⟩) 0 0) 0 (four.fl []) from four.own0 (by have := four.heap_new (wr.setCell ⟨w.heap.size, 10, none⟩ (.slice (some ⟨gv, 0, none⟩) p.length cv)) (.cells #[] 58); rwa [sz_set] at this) (Nat.le_refl _))
      have NEWS2 := Lib.hid (four.fl_news (w := (wr.setCell ⟨w.heap.size, 10, none⟩ (.slice (some ⟨gv, 0, none⟩) p.length cv)).alloc (.cells #[] 58)) (g := gi) (l := l) (fun i hi => ((L.out.below BR.out).items.cells i hi).keep ((Below.heap_alloc _ _ gi (by rw [sz_set]; have := L.out.gi1 (by omega); omega)).trans (Below.heap_setCell _ _ _ _ (show gi ≠ w.heap.size by have := L.out.gi1 (by omega); omega)))))
      have S3 := Lib.hid (show wr.heap.size ≤ ((wr.setCell ⟨w.heap.size, 10, none⟩ (.slice (some ⟨gv, 0, none⟩) p.length cv)).alloc (.cells #[] 58)).heap.size from by simp only [sz_al, sz_set]; omega)
      have BX := Lib.hid (show Below w.heap.size w ((wr.setCell ⟨w.heap.size, 10, none⟩ (.slice (some ⟨gv, 0, none⟩) p.length cv)).alloc (.cells #[] 58)) from (BR.out.setCell (p := ⟨w.heap.size, 10, none⟩) (Nat.le_refl _) _).alloc (by rw [sz_set]; exact BR.out.size) _)
      have N63 := Lib.hid (show 0 + l.length ≤ maxLen from by unfold maxLen; omega)
      have NBY := Lib.hid (show (0 + l.length) * 32 ≤ 140737488355328 from by omega)
      have Q0 := Lib.hid (Y0.out.set (k := 10) (by decide) (.slice (some ⟨gv, 0, none⟩) p.length cv))
      have Q1 := Lib.hid (Y1.out.other (k := 10) (g' := w.heap.size) (by omega) (.slice (some ⟨gv, 0, none⟩) p.length cv))
      go_wp2_with (at_builtin; refine wpList_append_own_at _ rfl _ _ 28 rfl wr.heap.size 58 i4 (.agg #[.int .i64 0, .int .i64 0, .int .i64 0, .int .i64 0]) 4 32 Try.underlying28 hj hy0 hy1 hy2 rfl (by decide) _ _ _ rfl OW2.out ⟨gi, 0, none⟩ l.length ci (four.fl l) rfl (four.fl_len l) NEWS2.out (four.fl_one l) N63.out NBY.out S3.out ?_)
      intro v7 w7 hown7 hgrow7 hnil7 hat7
      have OW7 := Lib.hid (show w7.ownsRow wr.heap.size 58 4 v7 l.length (four.fl l) from by first | exact hown7 | (rw [Nat.zero_add] at hown7; exact hown7))
      have NN7 := Lib.hid (show v7 ≠ .slice none 0 0 from fun h => by first | exact hnil7 h | (have := (hnil7.1 h).1; cases this))
      have kp7 := Lib.hid (show ∀ c, c < wr.heap.size → w7.heap[c]? = (wr.setCell ⟨w.heap.size, 10, none⟩ (.slice (some ⟨gv, 0, none⟩) p.length cv)).heap[c]? from fun c hc => (hgrow7.block c (by simp only [sz_al, sz_set]; omega) (fun e => by injection e with e; have e : c = wr.heap.size := e; omega)).trans (Below.heap_alloc _ _ c (by rw [sz_set]; exact hc)))
      have SZ7 := Lib.hid (show wr.heap.size ≤ w7.heap.size from by have := hgrow7.size; simp only [sz_al, sz_set] at this; omega)
      have B7 := Lib.hid (BX.out.grown hgrow7 BX.out.size (fun k hk => Nat.le_trans (Nat.le_of_lt lw) (four.own_ge OW2.out k hk)))
      obtain ⟨cI, gI, rfl, rI, loI, ltI⟩ := four.of_ownsNn OW7.out NN7.out
      have RI := Lib.hid rI
      have LI := Lib.hid (show wr.heap.size ≤ gI ∧ gI < w7.heap.size from ⟨loI, ltI⟩)
      have Z0 := Q0.out.keep (w' := w7) (kp7.out _ lw) (by rw [sz_set]; exact SZ7.out)
      have Z1 := Q1.out.keep (w' := w7) (kp7.out _ Y1.out.lt) (by rw [sz_set]; exact SZ7.out)
      have P7 := Lib.hid (PLh.out.keep (w' := w7) (fun _ => (kp7.out gv glt).trans (Below.heap_setCell _ _ _ _ (show gv ≠ w.heap.size by omega))) (fun i hi => (kp7.out _ (PLh.out.lt i hi)).trans (Below.heap_setCell _ _ _ _ (show gs' i ≠ w.heap.size by have := GL.out i hi; omega))) SZ7.out)
      have LP7 := Lib.hid (show ∀ i, i < p.length → gs' i < wr.heap.size from fun i hi => PLh.out.lt i hi)
      clear hown7 hgrow7 hnil7 hat7 OW2 NEWS2 S3 BX N63 NBY Q0 Q1 OW7 NN7 kp7 rI loI ltI hj hy0 hy1 hy2 hi hz0 hz1 hz2
      have a0 : w7.cell? ⟨w.heap.size, 0, none⟩ = some (.int .i64 s.id) := Z0.cell 0 (by decide)
      have a1 : w7.cell? ⟨w.heap.size, 1, none⟩ = some (.int .i64 s.co) := Z0.cell 1 (by decide)
      have a2 : w7.cell? ⟨w.heap.size, 2, none⟩ = some (.int .i64 s.me) := Z0.cell 2 (by decide)
      have a3 : w7.cell? ⟨w.heap.size, 3, none⟩ = some (.int .i64 s.cu) := Z0.cell 3 (by decide)
      have a4 : w7.cell? ⟨w.heap.size, 4, none⟩ = some (.int .i64 s.da) := Z0.cell 4 (by decide)
      have a5 : w7.cell? ⟨w.heap.size, 5, none⟩ = some (.int .i64 s.nn) := Z0.cell 5 (by decide)
      have a6 : w7.cell? ⟨w.heap.size, 6, none⟩ = some (.int .i64 s.ra) := Z0.cell 6 (by decide)
      have a7 : w7.cell? ⟨w.heap.size, 7, none⟩ = some (.int .i64 s.nu) := Z0.cell 7 (by decide)
      have a8 : w7.cell? ⟨w.heap.size, 8, none⟩ = some (.int .i64 s.de) := Z0.cell 8 (by decide)
      have a9 : w7.cell? ⟨w.heap.size, 9, none⟩ = some (.slice (some ⟨gi, 0, none⟩) l.length ci) := Z0.cell 9 (by decide)
      have a10 : w7.cell? ⟨w.heap.size, 10, none⟩ = some (.slice (some ⟨gv, 0, none⟩) p.length cv) := Z0.cell 10 (by decide)
      have a11 : w7.cell? ⟨w.heap.size, 11, none⟩ = some (.int .i64 s.op) := Z0.cell 11 (by decide)
      have a12 : w7.cell? ⟨w.heap.size, 12, none⟩ = some (.int .i64 s.up) := Z0.cell 12 (by decide)
      have x0 : w7.cell? ⟨w.heap.size + 1, 0, none⟩ = some (.int .i64 0) := Z1.cell 0 (by decide)
      have x1 : w7.cell? ⟨w.heap.size + 1, 1, none⟩ = some (.int .i64 0) := Z1.cell 1 (by decide)
      have x2 : w7.cell? ⟨w.heap.size + 1, 2, none⟩ = some (.int .i64 0) := Z1.cell 2 (by decide)
      have x3 : w7.cell? ⟨w.heap.size + 1, 3, none⟩ = some (.int .i64 0) := Z1.cell 3 (by decide)
      have x4 : w7.cell? ⟨w.heap.size + 1, 4, none⟩ = some (.int .i64 0) := Z1.cell 4 (by decide)
      have x5 : w7.cell? ⟨w.heap.size + 1, 5, none⟩ = some (.int .i64 0) := Z1.cell 5 (by decide)
      have x6 : w7.cell? ⟨w.heap.size + 1, 6, none⟩ = some (.int .i64 0) := Z1.cell 6 (by decide)
      have x7 : w7.cell? ⟨w.heap.size + 1, 7, none⟩ = some (.int .i64 0) := Z1.cell 7 (by decide)
      have x8 : w7.cell? ⟨w.heap.size + 1, 8, none⟩ = some (.int .i64 0) := Z1.cell 8 (by decide)
      have x9 : w7.cell? ⟨w.heap.size + 1, 9, none⟩ = some (.slice none 0 0) := Z1.cell 9 (by decide)
      have x10 : w7.cell? ⟨w.heap.size + 1, 10, none⟩ = some (.slice none 0 0) := Z1.cell 10 (by decide)
      have x11 : w7.cell? ⟨w.heap.size + 1, 11, none⟩ = some (.int .i64 0) := Z1.cell 11 (by decide)
      have x12 : w7.cell? ⟨w.heap.size + 1, 12, none⟩ = some (.int .i64 0) := Z1.cell 12 (by decide)
      have h9 := Z0.free 9
      have f0 := Z1.free 0
      have f1 := Z1.free 1
      have f2 := Z1.free 2
      have f3 := Z1.free 3
      have f4 := Z1.free 4
      have f5 := Z1.free 5
      have f6 := Z1.free 6
      have f7 := Z1.free 7
      have f8 := Z1.free 8
      have f9 := Z1.free 9
      have f10 := Z1.free 10
      have f11 := Z1.free 11
      have f12 := Z1.free 12
      have Y := Lib.hid ((((((((((((((Z1.other (k := 9) (g' := w.heap.size) (by omega) (.slice (some ⟨gI, 0, none⟩) l.length cI)).set (k := 0) (by decide) (.int .i64 s.id)).set (k := 1) (by decide) (.int .i64 s.co)).set (k := 2) (by decide) (.int .i64 s.me)).set (k := 3) (by decide) (.int .i64 s.cu)).set (k := 4) (by decide) (.int .i64 s.da)).set (k := 5) (by decide) (.int .i64 s.nn)).set (k := 6) (by decide) (.int .i64 s.ra)).set (k := 7) (by decide) (.int .i64 s.nu)).set (k := 8) (by decide) (.int .i64 s.de)).set (k := 9) (by decide) (.slice (some ⟨gI, 0, none⟩) l.length cI)).set (k := 10) (by decide) (.slice (some ⟨gv, 0, none⟩) p.length cv)).set (k := 11) (by decide) (.int .i64 s.op)).set (k := 12) (by decide) (.int .i64 s.up))
      have BF := Lib.hid (show Below w.heap.size w ((((((((((((((w7.setCell ⟨w.heap.size, 9, none⟩ (.slice (some ⟨gI, 0, none⟩) l.length cI)).setCell ⟨w.heap.size + 1, 0, none⟩ (.int .i64 s.id)).setCell ⟨w.heap.size + 1, 1, none⟩ (.int .i64 s.co)).setCell ⟨w.heap.size + 1, 2, none⟩ (.int .i64 s.me)).setCell ⟨w.heap.size + 1, 3, none⟩ (.int .i64 s.cu)).setCell ⟨w.heap.size + 1, 4, none⟩ (.int .i64 s.da)).setCell ⟨w.heap.size + 1, 5, none⟩ (.int .i64 s.nn)).setCell ⟨w.heap.size + 1, 6, none⟩ (.int .i64 s.ra)).setCell ⟨w.heap.size + 1, 7, none⟩ (.int .i64 s.nu)).setCell ⟨w.heap.size + 1, 8, none⟩ (.int .i64 s.de)).setCell ⟨w.heap.size + 1, 9, none⟩ (.slice (some ⟨gI, 0, none⟩) l.length cI)).setCell ⟨w.heap.size + 1, 10, none⟩ (.slice (some ⟨gv, 0, none⟩) p.length cv)).setCell ⟨w.heap.size + 1, 11, none⟩ (.int .i64 s.op)).setCell ⟨w.heap.size + 1, 12, none⟩ (.int .i64 s.up)) from ((((((((((((((B7.out.setCell (p := ⟨w.heap.size, 9, none⟩) (Nat.le_refl _) (.slice (some ⟨gI, 0, none⟩) l.length cI)).setCell (p := ⟨w.heap.size + 1, 0, none⟩) (show w.heap.size ≤ w.heap.size + 1 by omega) (.int .i64 s.id)).setCell (p := ⟨w.heap.size + 1, 1, none⟩) (show w.heap.size ≤ w.heap.size + 1 by omega) (.int .i64 s.co)).setCell (p := ⟨w.heap.size + 1, 2, none⟩) (show w.heap.size ≤ w.heap.size + 1 by omega) (.int .i64 s.me)).setCell (p := ⟨w.heap.size + 1, 3, none⟩) (show w.heap.size ≤ w.heap.size + 1 by omega) (.int .i64 s.cu)).setCell (p := ⟨w.heap.size + 1, 4, none⟩) (show w.heap.size ≤ w.heap.size + 1 by omega) (.int .i64 s.da)).setCell (p := ⟨w.heap.size + 1, 5, none⟩) (show w.heap.size ≤ w.heap.size + 1 by omega) (.int .i64 s.nn)).setCell (p := ⟨w.heap.size + 1, 6, none⟩) (show w.heap.size ≤ w.heap.size + 1 by omega) (.int .i64 s.ra)).setCell (p := ⟨w.heap.size + 1, 7, none⟩) (show w.heap.size ≤ w.heap.size + 1 by omega) (.int .i64 s.nu)).setCell (p := ⟨w.heap.size + 1, 8, none⟩) (show w.heap.size ≤ w.heap.size + 1 by omega) (.int .i64 s.de)).setCell (p := ⟨w.heap.size + 1, 9, none⟩) (show w.heap.size ≤ w.heap.size + 1 by omega) (.slice (some ⟨gI, 0, none⟩) l.length cI)).setCell (p := ⟨w.heap.size + 1, 10, none⟩) (show w.heap.size ≤ w.heap.size + 1 by omega) (.slice (some ⟨gv, 0, none⟩) p.length cv)).setCell (p := ⟨w.heap.size + 1, 11, none⟩) (show w.heap.size ≤ w.heap.size + 1 by omega) (.int .i64 s.op)).setCell (p := ⟨w.heap.size + 1, 12, none⟩) (show w.heap.size ≤ w.heap.size + 1 by omega) (.int .i64 s.up)))
      have RF := Lib.hid (RI.out.keep (w' := (((((((((((((w7.setCell ⟨w.heap.size, 9, none⟩ (.slice (some ⟨gI, 0, none⟩) l.length cI)).setCell ⟨w.heap.size + 1, 0, none⟩ (.int .i64 s.id)).setCell ⟨w.heap.size + 1, 1, none⟩ (.int .i64 s.co)).setCell ⟨w.heap.size + 1, 2, none⟩ (.int .i64 s.me)).setCell ⟨w.heap.size + 1, 3, none⟩ (.int .i64 s.cu)).setCell ⟨w.heap.size + 1, 4, none⟩ (.int .i64 s.da)).setCell ⟨w.heap.size + 1, 5, none⟩ (.int .i64 s.nn)).setCell ⟨w.heap.size + 1, 6, none⟩ (.int .i64 s.ra)).setCell ⟨w.heap.size + 1, 7, none⟩ (.int .i64 s.nu)).setCell ⟨w.heap.size + 1, 8, none⟩ (.int .i64 s.de)).setCell ⟨w.heap.size + 1, 9, none⟩ (.slice (some ⟨gI, 0, none⟩) l.length cI)).setCell ⟨w.heap.size + 1, 10, none⟩ (.slice (some ⟨gv, 0, none⟩) p.length cv)).setCell ⟨w.heap.size + 1, 11, none⟩ (.int .i64 s.op)).setCell ⟨w.heap.size + 1, 12, none⟩ (.int .i64 s.up)) fun _ => ((((((((((((((Below.heap_setCell _ _ _ _ (show gI ≠ w.heap.size + 1 by have := LI.out; omega)).trans (Below.heap_setCell _ _ _ _ (show gI ≠ w.heap.size + 1 by have := LI.out; omega))).trans (Below.heap_setCell _ _ _ _ (show gI ≠ w.heap.size + 1 by have := LI.out; omega))).trans (Below.heap_setCell _ _ _ _ (show gI ≠ w.heap.size + 1 by have := LI.out; omega))).trans (Below.heap_setCell _ _ _ _ (show gI ≠ w.heap.size + 1 by have := LI.out; omega))).trans (Below.heap_setCell _ _ _ _ (show gI ≠ w.heap.size + 1 by have := LI.out; omega))).trans (Below.heap_setCell _ _ _ _ (show gI ≠ w.heap.size + 1 by have := LI.out; omega))).trans (Below.heap_setCell _ _ _ _ (show gI ≠ w.heap.size + 1 by have := LI.out; omega))).trans (Below.heap_setCell _ _ _ _ (show gI ≠ w.heap.size + 1 by have := LI.out; omega))).trans (Below.heap_setCell _ _ _ _ (show gI ≠ w.heap.size + 1 by have := LI.out; omega))).trans (Below.heap_setCell _ _ _ _ (show gI ≠ w.heap.size + 1 by have := LI.out; omega))).trans (Below.heap_setCell _ _ _ _ (show gI ≠ w.heap.size + 1 by have := LI.out; omega))).trans (Below.heap_setCell _ _ _ _ (show gI ≠ w.heap.size + 1 by have := LI.out; omega))).trans (Below.heap_setCell _ _ _ _ (show gI ≠ w.heap.size by have := LI.out; omega))))
      have PF := Lib.hid (P7.out.keep (w' := (((((((((((((w7.setCell ⟨w.heap.size, 9, none⟩ (.slice (some ⟨gI, 0, none⟩) l.length cI)).setCell ⟨w.heap.size + 1, 0, none⟩ (.int .i64 s.id)).setCell ⟨w.heap.size + 1, 1, none⟩ (.int .i64 s.co)).setCell ⟨w.heap.size + 1, 2, none⟩ (.int .i64 s.me)).setCell ⟨w.heap.size + 1, 3, none⟩ (.int .i64 s.cu)).setCell ⟨w.heap.size + 1, 4, none⟩ (.int .i64 s.da)).setCell ⟨w.heap.size + 1, 5, none⟩ (.int .i64 s.nn)).setCell ⟨w.heap.size + 1, 6, none⟩ (.int .i64 s.ra)).setCell ⟨w.heap.size + 1, 7, none⟩ (.int .i64 s.nu)).setCell ⟨w.heap.size + 1, 8, none⟩ (.int .i64 s.de)).setCell ⟨w.heap.size + 1, 9, none⟩ (.slice (some ⟨gI, 0, none⟩) l.length cI)).setCell ⟨w.heap.size + 1, 10, none⟩ (.slice (some ⟨gv, 0, none⟩) p.length cv)).setCell ⟨w.heap.size + 1, 11, none⟩ (.int .i64 s.op)).setCell ⟨w.heap.size + 1, 12, none⟩ (.int .i64 s.up)) (fun _ => ((((((((((((((Below.heap_setCell _ _ _ _ (show gv ≠ w.heap.size + 1 by omega)).trans (Below.heap_setCell _ _ _ _ (show gv ≠ w.heap.size + 1 by omega))).trans (Below.heap_setCell _ _ _ _ (show gv ≠ w.heap.size + 1 by omega))).trans (Below.heap_setCell _ _ _ _ (show gv ≠ w.heap.size + 1 by omega))).trans (Below.heap_setCell _ _ _ _ (show gv ≠ w.heap.size + 1 by omega))).trans (Below.heap_setCell _ _ _ _ (show gv ≠ w.heap.size + 1 by omega))).trans (Below.heap_setCell _ _ _ _ (show gv ≠ w.heap.size + 1 by omega))).trans (Below.heap_setCell _ _ _ _ (show gv ≠ w.heap.size + 1 by omega))).trans (Below.heap_setCell _ _ _ _ (show gv ≠ w.heap.size + 1 by omega))).trans (Below.heap_setCell _ _ _ _ (show gv ≠ w.heap.size + 1 by omega))).trans (Below.heap_setCell _ _ _ _ (show gv ≠ w.heap.size + 1 by omega))).trans (Below.heap_setCell _ _ _ _ (show gv ≠ w.heap.size + 1 by omega))).trans (Below.heap_setCell _ _ _ _ (show gv ≠ w.heap.size + 1 by omega))).trans (Below.heap_setCell _ _ _ _ (show gv ≠ w.heap.size by omega)))) (fun i hi => ((((((((((((((Below.heap_setCell _ _ _ _ (show gs' i ≠ w.heap.size + 1 by have := GL.out i hi; omega)).trans (Below.heap_setCell _ _ _ _ (show gs' i ≠ w.heap.size + 1 by have := GL.out i hi; omega))).trans (Below.heap_setCell _ _ _ _ (show gs' i ≠ w.heap.size + 1 by have := GL.out i hi; omega))).trans (Below.heap_setCell _ _ _ _ (show gs' i ≠ w.heap.size + 1 by have := GL.out i hi; omega))).trans (Below.heap_setCell _ _ _ _ (show gs' i ≠ w.heap.size + 1 by have := GL.out i hi; omega))).trans (Below.heap_setCell _ _ _ _ (show gs' i ≠ w.heap.size + 1 by have := GL.out i hi; omega))).trans (Below.heap_setCell _ _ _ _ (show gs' i ≠ w.heap.size + 1 by have := GL.out i hi; omega))).trans (Below.heap_setCell _ _ _ _ (show gs' i ≠ w.heap.size + 1 by have := GL.out i hi; omega))).trans (Below.heap_setCell _ _ _ _ (show gs' i ≠ w.heap.size + 1 by have := GL.out i hi; omega))).trans (Below.heap_setCell _ _ _ _ (show gs' i ≠ w.heap.size + 1 by have := GL.out i hi; omega))).trans (Below.heap_setCell _ _ _ _ (show gs' i ≠ w.heap.size + 1 by have := GL.out i hi; omega))).trans (Below.heap_setCell _ _ _ _ (show gs' i ≠ w.heap.size + 1 by have := GL.out i hi; omega))).trans (Below.heap_setCell _ _ _ _ (show gs' i ≠ w.heap.size + 1 by have := GL.out i hi; omega))).trans (Below.heap_setCell _ _ _ _ (show gs' i ≠ w.heap.size by have := GL.out i hi; omega)))) (by simp only [sz_set]; exact Nat.le_refl _))
      have SF := Lib.hid (show ((((((((((((((w7.setCell ⟨w.heap.size, 9, none⟩ (.slice (some ⟨gI, 0, none⟩) l.length cI)).setCell ⟨w.heap.size + 1, 0, none⟩ (.int .i64 s.id)).setCell ⟨w.heap.size + 1, 1, none⟩ (.int .i64 s.co)).setCell ⟨w.heap.size + 1, 2, none⟩ (.int .i64 s.me)).setCell ⟨w.heap.size + 1, 3, none⟩ (.int .i64 s.cu)).setCell ⟨w.heap.size + 1, 4, none⟩ (.int .i64 s.da)).setCell ⟨w.heap.size + 1, 5, none⟩ (.int .i64 s.nn)).setCell ⟨w.heap.size + 1, 6, none⟩ (.int .i64 s.ra)).setCell ⟨w.heap.size + 1, 7, none⟩ (.int .i64 s.nu)).setCell ⟨w.heap.size + 1, 8, none⟩ (.int .i64 s.de)).setCell ⟨w.heap.size + 1, 9, none⟩ (.slice (some ⟨gI, 0, none⟩) l.length cI)).setCell ⟨w.heap.size + 1, 10, none⟩ (.slice (some ⟨gv, 0, none⟩) p.length cv)).setCell ⟨w.heap.size + 1, 11, none⟩ (.int .i64 s.op)).setCell ⟨w.heap.size + 1, 12, none⟩ (.int .i64 s.up)).heap.size = w7.heap.size from by simp only [sz_set])
      clear Z0 Z1 RI P7 B7
      go_wp2
      change bodyPost _ _ _ _ _ ((((((((((((((w7.setCell ⟨w.heap.size, 9, none⟩ (.slice (some ⟨gI, 0, none⟩) l.length cI)).setCell ⟨w.heap.size + 1, 0, none⟩ (.int .i64 s.id)).setCell ⟨w.heap.size + 1, 1, none⟩ (.int .i64 s.co)).setCell ⟨w.heap.size + 1, 2, none⟩ (.int .i64 s.me)).setCell ⟨w.heap.size + 1, 3, none⟩ (.int .i64 s.cu)).setCell ⟨w.heap.size + 1, 4, none⟩ (.int .i64 s.da)).setCell ⟨w.heap.size + 1, 5, none⟩ (.int .i64 s.nn)).setCell ⟨w.heap.size + 1, 6, none⟩ (.int .i64 s.ra)).setCell ⟨w.heap.size + 1, 7, none⟩ (.int .i64 s.nu)).setCell ⟨w.heap.size + 1, 8, none⟩ (.int .i64 s.de)).setCell ⟨w.heap.size + 1, 9, none⟩ (.slice (some ⟨gI, 0, none⟩) l.length cI)).setCell ⟨w.heap.size + 1, 10, none⟩ (.slice (some ⟨gv, 0, none⟩) p.length cv)).setCell ⟨w.heap.size + 1, 11, none⟩ (.int .i64 s.op)).setCell ⟨w.heap.size + 1, 12, none⟩ (.int .i64 s.up))
      generalize (((((((((((((w7.setCell ⟨w.heap.size, 9, none⟩ (.slice (some ⟨gI, 0, none⟩) l.length cI)).setCell ⟨w.heap.size + 1, 0, none⟩ (.int .i64 s.id)).setCell ⟨w.heap.size + 1, 1, none⟩ (.int .i64 s.co)).setCell ⟨w.heap.size + 1, 2, none⟩ (.int .i64 s.me)).setCell ⟨w.heap.size + 1, 3, none⟩ (.int .i64 s.cu)).setCell ⟨w.heap.size + 1, 4, none⟩ (.int .i64 s.da)).setCell ⟨w.heap.size + 1, 5, none⟩ (.int .i64 s.nn)).setCell ⟨w.heap.size + 1, 6, none⟩ (.int .i64 s.ra)).setCell ⟨w.heap.size + 1, 7, none⟩ (.int .i64 s.nu)).setCell ⟨w.heap.size + 1, 8, none⟩ (.int .i64 s.de)).setCell ⟨w.heap.size + 1, 9, none⟩ (.slice (some ⟨gI, 0, none⟩) l.length cI)).setCell ⟨w.heap.size + 1, 10, none⟩ (.slice (some ⟨gv, 0, none⟩) p.length cv)).setCell ⟨w.heap.size + 1, 11, none⟩ (.int .i64 s.op)).setCell ⟨w.heap.size + 1, 12, none⟩ (.int .i64 s.up) = W9 at Y BF RF PF SF ⊢
      have y0 : W9.cell? ⟨w.heap.size + 1, 0, none⟩ = some (.int .i64 s.id) := Y.out.cell 0 (by decide)
      have y1 : W9.cell? ⟨w.heap.size + 1, 1, none⟩ = some (.int .i64 s.co) := Y.out.cell 1 (by decide)
      have y2 : W9.cell? ⟨w.heap.size + 1, 2, none⟩ = some (.int .i64 s.me) := Y.out.cell 2 (by decide)
      have y3 : W9.cell? ⟨w.heap.size + 1, 3, none⟩ = some (.int .i64 s.cu) := Y.out.cell 3 (by decide)
      have y4 : W9.cell? ⟨w.heap.size + 1, 4, none⟩ = some (.int .i64 s.da) := Y.out.cell 4 (by decide)
      have y5 : W9.cell? ⟨w.heap.size + 1, 5, none⟩ = some (.int .i64 s.nn) := Y.out.cell 5 (by decide)
      have y6 : W9.cell? ⟨w.heap.size + 1, 6, none⟩ = some (.int .i64 s.ra) := Y.out.cell 6 (by decide)
      have y7 : W9.cell? ⟨w.heap.size + 1, 7, none⟩ = some (.int .i64 s.nu) := Y.out.cell 7 (by decide)
      have y8 : W9.cell? ⟨w.heap.size + 1, 8, none⟩ = some (.int .i64 s.de) := Y.out.cell 8 (by decide)
      have y9 : W9.cell? ⟨w.heap.size + 1, 9, none⟩ = some (.slice (some ⟨gI, 0, none⟩) l.length cI) := Y.out.cell 9 (by decide)
      have y10 : W9.cell? ⟨w.heap.size + 1, 10, none⟩ = some (.slice (some ⟨gv, 0, none⟩) p.length cv) := Y.out.cell 10 (by decide)
      have y11 : W9.cell? ⟨w.heap.size + 1, 11, none⟩ = some (.int .i64 s.op) := Y.out.cell 11 (by decide)
      have y12 : W9.cell? ⟨w.heap.size + 1, 12, none⟩ = some (.int .i64 s.up) := Y.out.cell 12 (by decide)
      refine bodyPost_ret (v := .agg #[.int .i64 s.id, .int .i64 s.co, .int .i64 s.me, .int .i64 s.cu, .int .i64 s.da, .int .i64 s.nn, .int .i64 s.ra, .int .i64 s.nu, .int .i64 s.de, .slice (some ⟨gI, 0, none⟩) l.length cI, .slice (some ⟨gv, 0, none⟩) p.length cv, .int .i64 s.op, .int .i64 s.up]) (by simp [results, Try.results63, go_sem, y0, y1, y2, y3, y4, y5, y6, y7, y8, y9, y10, y11, y12]) rfl ⟨_, rfl, cI, gI, cv, gv, gs', cs', rfl, ?_, by have := LI.out; omega, by have := LI.out; have := SF.out; omega, by omega, by have := SZ7.out; have := SF.out; omega, by have := LI.out; omega, BF.out⟩
      exact ⟨RF.out, PF.out, fun _ => by have := LI.out; omega, fun _ => by omega, fun i hi => by have := GL.out i hi; omega, fun _ _ => by have := LI.out; omega, fun i hi _ => by have := LP7.out i hi; have := LI.out; omega⟩
end Go.Proofs.Ytmaejlfjdkkpdaa.ob
