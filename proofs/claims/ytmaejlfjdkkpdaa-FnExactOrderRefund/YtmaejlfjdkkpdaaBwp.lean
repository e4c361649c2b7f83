/-
  Plain helpers of this seat's proofs: what the iterator over plans from the last one on hands on. Conditions: none.
-/
import Derived.Test.YtmaejlfjdkkpdaaSt
import Derived.Test.YtmaejlfjdkkpdaaBi
import Derived.Test.YtmaejlfjdkkpdaaPlSt
import Derived.Test.YtmaejlfjdkkpdaaSi
namespace Go.Proofs.Ytmaejlfjdkkpdaa.st
variable {P : Program} {ops : Array Oper} {Q : Exit → Act → World → Prop} {md : Region.Mode}
theorem atKeep {w : World} {oi oj : Oper} {v u : Value} {a : Act} (hy : YieldsAt P ops w oj v a) (hap : oi.apart ops oj = true) (hs : ∀ cs b, oj.op ≠ .select cs b) : YieldsAt P ops w oj v (a.put oi.dst u) := by
  obtain ⟨h1, -, -⟩ := Oper.apart_spec hap
  exact hy.of_same (execOp_put oj hs a oi.dst u h1) (wanted_put oj a oi.dst u h1)
theorem atOne {fuel : Nat} {listed : Array Bool} {a : Act} {w : World} {rs : List Nat} (hr : Region.ready md ops listed = rs) (hne : rs ≠ []) (h : ∀ i ∈ rs, ∃ o v, ops[i]? = some o ∧ YieldsAt P ops w o v a ∧ wpAny P md ops Q fuel (listed.setIfInBounds i true) (a.put o.dst v) w) : wpAny P md ops Q (fuel + 1) listed a w :=
  wpAny_all hr hne fun i hi => by
    obtain ⟨o, v, ho, hy, hw⟩ := h i hi
    exact wpOp_of_stOp (K := fun a' => wpAny P md ops Q fuel (listed.setIfInBounds i true) a' w) (fun _ h => h) (hy.stOp ho hw)
theorem three {fuel i j k : Nat} {listed : Array Bool} {a : Act} {w : World} {oi oj ok : Oper} {u v x : Value} (hs : Region.noSelect ops = true)
    (hi : ops[i]? = some oi) (hj : ops[j]? = some oj) (hk : ops[k]? = some ok) (yi : YieldsAt P ops w oi u a) (yj : YieldsAt P ops w oj v a) (yk : YieldsAt P ops w ok x a)
    (aij : oi.apart ops oj = true) (aik : oi.apart ops ok = true) (aji : oj.apart ops oi = true) (ajk : oj.apart ops ok = true) (aki : ok.apart ops oi = true) (akj : ok.apart ops oj = true)
    (hij : i ≠ j) (hik : i ≠ k) (hjk : j ≠ k)
    (r : Region.ready md ops listed = [i, j, k]) (ri : Region.ready md ops (listed.setIfInBounds i true) = [j, k]) (rj : Region.ready md ops (listed.setIfInBounds j true) = [i, k]) (rk : Region.ready md ops (listed.setIfInBounds k true) = [i, j])
    (rij : Region.ready md ops ((listed.setIfInBounds i true).setIfInBounds j true) = [k]) (rik : Region.ready md ops ((listed.setIfInBounds i true).setIfInBounds k true) = [j]) (rjk : Region.ready md ops ((listed.setIfInBounds j true).setIfInBounds k true) = [i])
    (h : wpAny P md ops Q fuel (((listed.setIfInBounds i true).setIfInBounds j true).setIfInBounds k true) (((a.put oi.dst u).put oj.dst v).put ok.dst x) w) : wpAny P md ops Q (fuel + 1 + 1 + 1) listed a w := by
  have si : ∀ cs b, oi.op ≠ .select cs b := fun cs b => Region.noSelect_spec hs i oi cs b hi
  have sj : ∀ cs b, oj.op ≠ .select cs b := fun cs b => Region.noSelect_spec hs j oj cs b hj
  have sk : ∀ cs b, ok.op ≠ .select cs b := fun cs b => Region.noSelect_spec hs k ok cs b hk
  obtain ⟨-, dij, -⟩ := Oper.apart_spec aij
  obtain ⟨-, dik, -⟩ := Oper.apart_spec aik
  obtain ⟨-, djk, -⟩ := Oper.apart_spec ajk
  have pij : ∀ b : Act, (b.put oj.dst v).put oi.dst u = (b.put oi.dst u).put oj.dst v := fun b => (Act.put_comm b u v dij).symm
  have pik : ∀ b : Act, (b.put ok.dst x).put oi.dst u = (b.put oi.dst u).put ok.dst x := fun b => (Act.put_comm b u x dik).symm
  have pjk : ∀ b : Act, (b.put ok.dst x).put oj.dst v = (b.put oj.dst v).put ok.dst x := fun b => (Act.put_comm b v x djk).symm
  have lij : ∀ l : Array Bool, (l.setIfInBounds j true).setIfInBounds i true = (l.setIfInBounds i true).setIfInBounds j true := fun l => Array.setIfInBounds_comm _ _ (Ne.symm hij)
  have lik : ∀ l : Array Bool, (l.setIfInBounds k true).setIfInBounds i true = (l.setIfInBounds i true).setIfInBounds k true := fun l => Array.setIfInBounds_comm _ _ (Ne.symm hik)
  have ljk : ∀ l : Array Bool, (l.setIfInBounds k true).setIfInBounds j true = (l.setIfInBounds j true).setIfInBounds k true := fun l => Array.setIfInBounds_comm _ _ (Ne.symm hjk)
  have Ak : wpAny P md ops Q (fuel + 1) ((listed.setIfInBounds i true).setIfInBounds j true) ((a.put oi.dst u).put oj.dst v) w :=
    atOne rij (by simp) fun t ht => by
      obtain rfl : t = k := by simpa using ht
      exact ⟨ok, x, hk, atKeep (atKeep yk aik sk) ajk sk, h⟩
  have Aj : wpAny P md ops Q (fuel + 1) ((listed.setIfInBounds i true).setIfInBounds k true) ((a.put oi.dst u).put ok.dst x) w :=
    atOne rik (by simp) fun t ht => by
      obtain rfl : t = j := by simpa using ht
      exact ⟨oj, v, hj, atKeep (atKeep yj aij sj) akj sj, by rw [ljk, pjk]; exact h⟩
  have Ai : wpAny P md ops Q (fuel + 1) ((listed.setIfInBounds j true).setIfInBounds k true) ((a.put oj.dst v).put ok.dst x) w :=
    atOne rjk (by simp) fun t ht => by
      obtain rfl : t = i := by simpa using ht
      exact ⟨oi, u, hi, atKeep (atKeep yi aji si) aki si, by rw [lik, lij, pik, pij]; exact h⟩
  refine atOne r (by simp) fun t ht => ?_
  simp only [List.mem_cons, List.not_mem_nil, or_false] at ht
  rcases ht with rfl | rfl | rfl
  · refine ⟨oi, u, hi, yi, atOne ri (by simp) fun t ht => ?_⟩
    simp only [List.mem_cons, List.not_mem_nil, or_false] at ht
    rcases ht with rfl | rfl
    · exact ⟨oj, v, hj, atKeep yj aij sj, Ak⟩
    · exact ⟨ok, x, hk, atKeep yk aik sk, Aj⟩
  · refine ⟨oj, v, hj, yj, atOne rj (by simp) fun t ht => ?_⟩
    simp only [List.mem_cons, List.not_mem_nil, or_false] at ht
    rcases ht with rfl | rfl
    · exact ⟨oi, u, hi, atKeep yi aji si, by rw [lij, pij]; exact Ak⟩
    · exact ⟨ok, x, hk, atKeep yk ajk sk, Ai⟩
  · refine ⟨ok, x, hk, yk, atOne rk (by simp) fun t ht => ?_⟩
    simp only [List.mem_cons, List.not_mem_nil, or_false] at ht
    rcases ht with rfl | rfl
    · exact ⟨oi, u, hi, atKeep yi aki si, by rw [lik, pik]; exact Aj⟩
    · exact ⟨oj, v, hj, atKeep yj akj sj, by rw [ljk, pjk]; exact Ai⟩
end Go.Proofs.Ytmaejlfjdkkpdaa.st

namespace Go.Proofs.Ytmaejlfjdkkpdaa.base
open Go.ChangeShapes Go.WideShapes Go.ChangeAt Go.RowKit
open seven (F7 zz Row At)
open pl (inR prOk pok)
open gen
open Go.Shelf
attribute [local go_sem] Oper.semAt_some
def encL (x : Nat × Value) : Array Value := #[.int .i64 (x.1 : Int), .agg #[x.2]]
/-- What is read while the plans are handed on. -/
structure Rp (g Bs len cap k : Nat) (W : World) : Prop where
  hd : W.cell? ⟨Bs, 0, none⟩ = some (.slice (some ⟨g, 0, none⟩) len cap)
  pt : ∀ i, i + 1 + k = len → ∃ v, W.cell? ⟨g, i, none⟩ = some v
set_option maxRecDepth 100000 in
set_option maxHeartbeats 4000000 in
theorem bwPl (n : Nat) (hn : 1 ≤ n) (g Bs len cap : Nat) (hlen : len ≤ 24) :
    rf.IterK Fence.wide n Try.prog 125 #[.pointer (some ⟨Bs, 0, none⟩)] encL (fun pre => Rp g Bs len cap pre.length) (fun pre x => x.1 + 1 + pre.length = len) (fun xs => xs.length = len) := by
  intro l J Jx W hst hsx hQ hY h0
  have HQ := Lib.hid hQ
  have HY := Lib.hid hY
  have hh0 := (hQ _ _ h0).hd
  clear hst hsx hQ hY
  have hro : Fence.wide.round = none := rfl
  refine callsIn_of_wp Try.func125 rfl trivial ?_ hro
  simp only [Try.ntmps125, List.size_toArray, List.length_cons, List.length_nil, Nat.reduceAdd, Nat.reduceSub, Array.replicate_succ, Array.replicate_zero, List.push_toArray, List.append_toArray, List.nil_append, List.cons_append]
  gi_wp2
  gi_loopw [3] (fun i wr => ∃ (pre : List (Nat × Value)) (m : Nat), m + pre.length = len ∧ i = .int .i64 ((m : Int) - 1) ∧ J pre wr) (fun i _ => (intOf i + 1).toNat)
  case atStart => exact ⟨[], len, by simp, by go_num, h0⟩
  case round =>
    obtain ⟨pre, m, hm, rfl, hJs⟩ := hrel
    cases m with
    | zero =>
      have hm' : pre.length = len := by omega
      gi_wp2
      go_end0
      exact ⟨⟨_, rfl⟩, .inl ⟨_, hm', hJs⟩⟩
    | succ j =>
      have ej : (((j + 1 : Nat) : Int) - 1) = (j : Int) := by omega
      rw [ej]
      clear ej
      have hs := (HQ.out _ _ hJs).hd
      obtain ⟨x, q⟩ := (HQ.out _ _ hJs).pt j (by omega)
      obtain ⟨fn, tmps, assign, body, hy, hR⟩ := HY.out pre (j, x) wr hJs (by show j + 1 + pre.length = len; omega)
      dsimp only [encL] at hy
      have z0 : (0 : Int) ≤ (j : Int) := by omega
      have z1 : (j : Int) < (len : Int) := by omega
      gi_wp2
      refine hR.mono ?_
      rintro e W3 (⟨rfl, hJ3, hk3⟩ | ⟨rfl, hJx3, hk3⟩)
      · gi_wp2
        go_roundw
        case rel => exact ⟨pre ++ [(j, x)], j, by simp; omega, by go_num, hJ3⟩
        case measure => simp [intOf]
      · gi_wp2
        refine bodyPost_ret (results_none rfl _ _ _) rfl ?_
        exact ⟨⟨_, rfl⟩, .inr ⟨_, hJx3⟩⟩
theorem bwLC (a : Option Addr) (len cap : Nat) (w : World) : Calls Try.prog 118 #[.slice a len cap] w fun e w' => e = .returned (.func (.func 125) #[] #[.pointer (some ⟨w.heap.size, 0, none⟩)]) ∧ w' = w.alloc (.cells #[.slice a len cap] 29) := by
  go_enter Try.func118, Try.ntmps118
  go_wp2
  go_ret
  exact ⟨rfl, rfl⟩
end Go.Proofs.Ytmaejlfjdkkpdaa.base
namespace Go.Proofs.Ytmaejlfjdkkpdaa.pls
open Go.ChangeShapes Go.WideShapes Go.ChangeAt Go.RowKit
open gen
open seven (F7 zz Row Inp At)
theorem Pls.own {A B : World} {row : Option Nat} {a : Option Addr} {cap gp : Nat} {p : List (List F7)} {gs cs : Nat → Nat} (r : Pls A a cap gp p gs cs) (hg : A.grownBy B row) (hr : ∀ r, row = some r → ∃ o : Obj, A.heap[r]? = some o ∧ o.isCells = false) : Pls B a cap gp p gs cs :=
  ⟨r.addr, r.room, fun i hi => cell_kept (r.cells i hi) hg hr, fun i hi => base.row_own (r.rows i hi) hg hr, fun i hi => Nat.lt_of_lt_of_le (r.lt i hi) hg.size, fun h i => by
    have hb : B.heap[gp]? = A.heap[gp]? := by
      refine hg.block gp (r.plt h) fun e => ?_
      obtain ⟨o, ho, hc⟩ := cells_of_cell (r.cells 0 h)
      obtain ⟨o', ho', hc'⟩ := hr gp e.symm
      rw [show A.heap[gp]? = some o from ho] at ho'
      cases ho'
      rw [hc] at hc'
      cases hc'
    rw [World.frozen?_of_block (w := A) (a := ⟨gp, i, none⟩) hb]; exact r.free h i, r.ne, r.inj⟩
theorem Turned.own {b : Nat} {w A B : World} {row : Option Nat} (h : base.Turned b w A) (hg : A.grownBy B row) (hb : b ≤ A.heap.size) (hr : ∀ k, row = some k → w.heap.size ≤ k ∧ b ≤ k) : base.Turned b w B :=
  ⟨h.1.grown hg hb (fun k e => (hr k e).2), fun k hk hl => (hg.block k (Nat.lt_of_lt_of_le hl h.1.size) (fun e => by have := (hr k e.symm).1; omega)).trans (h.2 k hk hl)⟩
end Go.Proofs.Ytmaejlfjdkkpdaa.pls
namespace Go.Proofs.Ytmaejlfjdkkpdaa.ob
open Go.ChangeShapes Go.WideShapes Go.ChangeAt Go.RowKit
open gen
open seven (F7 zz Row At)
open pls (nth Pls OL)
/-- What holds while an order is decreased: the plans from place k on are done. -/
structure DI (w W0 : World) (b gp cp n Bo Bf Bl Bs : Nat) (fv : Value) (P : List (List F7)) (M : Int) (k : Nat) (gs gs3 cs3 : Nat → Nat) (W : World) : Prop where
  pl : Pls W (some ⟨gp, 0, none⟩) cp gp P gs3 cs3
  lf : W.cell? ⟨Bl, 0, none⟩ = some (.int .i64 M)
  fz : W.frozen? ⟨Bl, 0, none⟩ = false
  bo : W.cell? ⟨Bo, 0, none⟩ = some (.pointer (some ⟨b, 0, none⟩))
  bf : W.cell? ⟨Bf, 0, none⟩ = some fv
  bs : W.cell? ⟨Bs, 0, none⟩ = some (.slice (some ⟨gp, 0, none⟩) n cp)
  b10 : W.cell? ⟨b, 10, none⟩ = some (.slice (some ⟨gp, 0, none⟩) n cp)
  tu : base.Turned gp w W
  sz : W0.heap.size ≤ W.heap.size
  g1 : ∀ j, j < n → k ≤ j → W0.heap.size ≤ gs3 j
  g0 : ∀ j, j < n → j < k → gs3 j = gs j
theorem DI.own {w W0 : World} {b gp cp n Bo Bf Bl Bs : Nat} {fv : Value} {P : List (List F7)} {M : Int} {k : Nat} {gs gs3 cs3 : Nat → Nat} {A B : World} {row : Option Nat} (h : DI w W0 b gp cp n Bo Bf Bl Bs fv P M k gs gs3 cs3 A) (hg : A.grownBy B row) (hgp : gp ≤ W0.heap.size) (hw : w.heap.size ≤ W0.heap.size) (hr : ∀ r, row = some r → W0.heap.size ≤ r ∧ ∃ o : Obj, A.heap[r]? = some o ∧ o.isCells = false) : DI w W0 b gp cp n Bo Bf Bl Bs fv P M k gs gs3 cs3 B :=
  ⟨h.pl.own hg (fun r e => (hr r e).2), cell_kept h.lf hg (fun r e => (hr r e).2), base.frz_own h.lf h.fz hg (fun r e => (hr r e).2), cell_kept h.bo hg (fun r e => (hr r e).2), cell_kept h.bf hg (fun r e => (hr r e).2), cell_kept h.bs hg (fun r e => (hr r e).2), cell_kept h.b10 hg (fun r e => (hr r e).2), pls.Turned.own h.tu hg (Nat.le_trans hgp h.sz) (fun k e => ⟨Nat.le_trans hw (hr k e).1, Nat.le_trans hgp (hr k e).1⟩), Nat.le_trans h.sz hg.size, h.g1, h.g0⟩
/-- Where the blocks lie. -/
structure DB (w W0 : World) (b gp Bo Bf Bl Bs : Nat) : Prop where
  h1 : gp < w.heap.size
  h2 : b ≠ gp
  h3 : w.heap.size ≤ Bo
  h4 : Bo < Bf
  h5 : Bf < Bl
  h6 : Bl < Bs
  h7 : Bs < W0.heap.size
  h8 : b < Bo
theorem DI.below {w W0 : World} {b gp cp n Bo Bf Bl Bs : Nat} {fv : Value} {P : List (List F7)} {M : Int} {k : Nat} {gs gs3 cs3 : Nat → Nat} {A B : World} (h : DI w W0 b gp cp n Bo Bf Bl Bs fv P M k gs gs3 cs3 A) (hb : Below A.heap.size A B) (hgp : gp ≤ W0.heap.size) : DI w W0 b gp cp n Bo Bf Bl Bs fv P M k gs gs3 cs3 B :=
  ⟨h.pl.below hb, pls.cell_keep h.lf (hb.block _ (pls.cell_lt h.lf)), by rw [World.frozen?_of_block (w := A) (a := ⟨Bl, 0, none⟩) (hb.block _ (pls.cell_lt h.lf))]; exact h.fz, pls.cell_keep h.bo (hb.block _ (pls.cell_lt h.bo)), pls.cell_keep h.bf (hb.block _ (pls.cell_lt h.bf)), pls.cell_keep h.bs (hb.block _ (pls.cell_lt h.bs)), pls.cell_keep h.b10 (hb.block _ (pls.cell_lt h.b10)), pls.Turned.of h.tu hb (Nat.le_trans hgp h.sz), Nat.le_trans h.sz hb.size, h.g1, h.g0⟩
theorem DI.step {w W0 : World} {b gp cp n Bo Bf Bl Bs : Nat} {fv : Value} {P : List (List F7)} {M : Int} {j : Nat} {gs gs3 cs3 : Nat → Nat} {w1 : World} (h : DI w W0 b gp cp n Bo Bf Bl Bs fv P M (j + 1) gs gs3 cs3 w1) (hl : P.length = n) (hj : j < n) {Q : List F7} {g1 c1 : Nat} (r : Row w1 (some ⟨g1, 0, none⟩) c1 g1 Q) (l1 : W0.heap.size ≤ g1) (l2 : ∀ i, i < n → gs3 i ≠ g1) (k1 : g1 < w1.heap.size) (hs : DB w W0 b gp Bo Bf Bl Bs) (hgs : ∀ i, i < n → gs i < w.heap.size) (M' : Int) :
    DI w W0 b gp cp n Bo Bf Bl Bs fv (P.set j Q) M' j gs (pls.up gs3 j g1) (pls.up cs3 j c1) ((w1.setCell ⟨gp, j, none⟩ (.slice (some ⟨g1, 0, none⟩) Q.length c1)).setCell ⟨Bl, 0, none⟩ (.int .i64 M')) := by
  obtain ⟨h1, h2, h3, h4, h5, h6, h7, h8⟩ := hs
  have e1 : ∀ c, c ≠ gp → c ≠ Bl → ((w1.setCell ⟨gp, j, none⟩ (.slice (some ⟨g1, 0, none⟩) Q.length c1)).setCell ⟨Bl, 0, none⟩ (.int .i64 M')).heap[c]? = w1.heap[c]? := fun c a b => (Below.heap_setCell _ _ _ _ b).trans (Below.heap_setCell _ _ _ _ a)
  have cl : (w1.setCell ⟨gp, j, none⟩ (.slice (some ⟨g1, 0, none⟩) Q.length c1)).cell? ⟨Bl, 0, none⟩ = some (.int .i64 M) := pls.cell_keep h.lf (Below.heap_setCell _ _ _ _ (show Bl ≠ gp by omega))
  have S := h.pl.set (k := j) (by omega) r k1 (by omega) (fun i hi _ => l2 i (by omega))
  refine ⟨S.keep (fun _ => Below.heap_setCell _ _ _ _ (show gp ≠ Bl by omega)) (fun i hi => Below.heap_setCell _ _ _ _ (show pls.up gs3 j g1 i ≠ Bl from ?_)) (by simp [World.setCell]), World.cell?_setCell_same' _ _ _ (by rw [cl]; rfl), ?_, pls.cell_keep h.bo (e1 _ (by omega) (by omega)), pls.cell_keep h.bf (e1 _ (by omega) (by omega)), pls.cell_keep h.bs (e1 _ (by omega) (by omega)), pls.cell_keep h.b10 (e1 _ h2 (by omega)), ⟨(h.tu.set j _).1.setCell (p := ⟨Bl, 0, none⟩) (show gp ≤ Bl by omega) _, fun k hk hlt => (Below.heap_setCell _ _ _ _ (show k ≠ Bl by omega)).trans ((h.tu.set j _).2 k hk hlt)⟩, by have := h.sz; simpa [World.setCell] using this, fun i hi hk => ?_, fun i hi hk => ?_⟩
  · have hi' : i < n := by rw [List.length_set] at hi; omega
    unfold pls.up
    by_cases e : i = j
    · rw [if_pos e]; omega
    · rw [if_neg e]
      by_cases e2 : i < j
      · have := h.g0 i hi' (by omega); have := hgs i hi'; omega
      · have := h.g1 i hi' (by omega); omega
  · rw [World.frozen?_setCell, World.frozen?_setCell]; exact h.fz
  · unfold pls.up
    by_cases e : i = j
    · rw [if_pos e]; exact l1
    · rw [if_neg e]; exact h.g1 i hi (by omega)
  · unfold pls.up
    rw [if_neg (by omega)]; exact h.g0 i hi (by omega)
end Go.Proofs.Ytmaejlfjdkkpdaa.ob
