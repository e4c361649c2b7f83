/-
  Plain helpers of this seat's proofs: what the landed iterator over open debts hands on. Conditions: none.
-/
import Derived.Test.YtchpjojndkkmeaaDoorGen
import Derived.Test.YtchpjojndkkmeaaDoorSm
import Derived.RangeFuncNested
import Derived.RangeFuncBound
import Derived.RangeFuncLeaves
import Derived.StillTailTactics
import Derived.Shelf.Abstract
import Derived.Shelf.AbstractIn
import Derived.Shelf.RegionOpen
import Derived.OwnWalkIn
import Derived.TacticsInMore
import Derived.LoopNIn
import Derived.LoopIn
namespace Go.Proofs.YtchpjojndkkmeaaDoor.rf
open Go.ChangeShapes Go.WideShapes Go.ChangeAt Go.RowKit
variable {F : Fence} {n : Nat} {P : Program}
/-- What a function does that is ranged over: while the rounds keep Q, it hands them what V lets, one by one, and ends with a list of S. -/
def Iter {α : Type} (F : Fence) (n : Nat) (P : Program) (g : Nat) (lb : Array Value) (encs : α → Array Value) (Q : List α → World → Prop) (V : List α → α → Prop) (S : List α → Prop) : Prop :=
  ∀ (l : Nat) (J Jx : List α → World → Prop) (W : World), (∀ pre A B, J pre A → A.grownBy B none → J pre B) → (∀ pre A, J pre A → Q pre A) →
    (∀ pre x A, J pre A → V pre x → YieldAt F (n - 1) P l (encs x) A fun e B => (e = .returned (.bool true) ∧ J (pre ++ [x]) B) ∨ (e = .returned (.bool false) ∧ Jx (pre ++ [x]) B)) →
    J [] W → CallsIn F n P g (#[.func (.yield l) #[] #[]] ++ lb) W fun e B => (∃ v, e = .returned v) ∧ ((∃ xs, S xs ∧ J xs B) ∨ ∃ pre, Jx pre B)

/-- The record of the loop and the block for deferred calls, as the loop lays them. -/
def rcd (fn : FuncId) (tm : Array Value) (ps : Array Tmp) (assign body : Code) (D : Nat) (st : LoopState) (pe : Option Code) : Loop := { state := st, pending := pe, fn := fn, tmps := tm, params := ps, assign := assign, body := body, defers := D }
structure Book (D : Nat) (r : Loop) (W : World) : Prop where
  lp : W.heap[D + 1]? = some (.loop r)
  dfr : W.heap[D]? = some (.deferred (some []))
theorem Book.lt {D : Nat} {r : Loop} {W : World} (h : Book D r W) : D + 1 < W.heap.size := (Array.getElem?_eq_some_iff.1 h.lp).1
theorem Book.grown {D : Nat} {r : Loop} {A B : World} (h : Book D r A) (hg : A.grownBy B none) : Book D r B :=
  ⟨(hg.block _ h.lt (by simp)).trans h.lp, (hg.block _ (Nat.lt_of_succ_lt h.lt) (by simp)).trans h.dfr⟩
theorem Book.kept {D : Nat} {r : Loop} {A B : World} (h : Book D r A) (hk : KeepsFrom D A B) : Book D r B :=
  ⟨hk.same _ _ (Nat.le_succ _) h.lp rfl, hk.same _ _ (Nat.le_refl _) h.dfr rfl⟩
theorem Book.put {D : Nat} {r : Loop} {A : World} (h : Book D r A) (r' : Loop) : Book D r' (A.putObj (D + 1) (.loop r')) :=
  ⟨World.putObj_heap_same h.lt, (World.putObj_heap_other (by omega)).trans h.dfr⟩
theorem Book.new (w : World) (r : Loop) : Book w.heap.size r ((w.alloc (.deferred (some []))).alloc (.loop r)) := by
  refine ⟨?_, (Below.heap_alloc _ _ _ (by simp)).trans (World.alloc_heap_new w _)⟩
  have := World.alloc_heap_new (w.alloc (.deferred (some []))) (.loop r)
  rwa [World.size_alloc] at this

section
variable {α : Type} {ps : Array Tmp} {assign body : Code} {fn : FuncId} {tm : Array Value} {encs : α → Array Value} {V : List α → α → Prop} {D : Nat} {I : List α → World → Prop} {Ix : Code → List α → World → Prop} {Ax : α → Act → World → Prop}
/-- How a round ends, the record with it. -/
theorem round_end (hI : OwnFrom D I) (hIx : ∀ c, OwnFrom D (Ix c)) {xs : List α} {A : World} (hb : Book D (rcd fn tm ps assign body D .busy none) A) :
    ∀ e a' B, ownPostG D (fun _ _ => True) I Ix xs A e a' B → roundPost P (D + 1) (fun e B =>
      (e = .returned (.bool true) ∧ I xs B ∧ Book D (rcd fn tm ps assign body D .ready none) B) ∨
      (e = .returned (.bool false) ∧ ∃ c, Ix c xs B ∧ Book D (rcd fn tm ps assign body D .done (some c)) B)) e a' B := by
  intro e a' B h
  cases e with
  | normal =>
    obtain ⟨hk, _, hi⟩ := h
    have b2 := hb.kept hk
    exact ⟨_, _, run_endRound none b2.lp, .inl ⟨rfl, hI.putObj _ hi (Nat.le_succ _) b2.lp rfl, b2.put _⟩⟩
  | ret =>
    obtain ⟨hk, hi⟩ := h
    have b2 := hb.kept hk
    exact ⟨_, _, run_endRound (some .ret) b2.lp, .inr ⟨rfl, .ret, (hIx _).putObj _ hi (Nat.le_succ _) b2.lp rfl, b2.put _⟩⟩
  | exit id =>
    obtain ⟨hk, hi⟩ := h
    have b2 := hb.kept hk
    exact ⟨_, _, run_endRound (some (.exit id)) b2.lp, .inr ⟨rfl, .exit id, (hIx _).putObj _ hi (Nat.le_succ _) b2.lp rfl, b2.put _⟩⟩
  | goto t =>
    obtain ⟨hk, hi⟩ := h
    have b2 := hb.kept hk
    exact ⟨_, _, run_endRound (some (.goto t)) b2.lp, .inr ⟨rfl, .goto t, (hIx _).putObj _ hi (Nat.le_succ _) b2.lp rfl, b2.put _⟩⟩
  | panic c => exact h.elim
  | outgrown => exact h.elim
/-- One round. -/
theorem round (hfn : F.fn fn) (hps : ∀ x, (encs x).size = ps.size) (hI : OwnFrom D I) (hIx : ∀ c, OwnFrom D (Ix c)) (hAx : ∀ x a', OwnFrom D (fun (_ : Unit) W => Ax x a' W)) {m : Nat}
    (hassign : ∀ (l : Nat) (pre : List α) (x : α) (W : World) (K : Act → World → Prop), I pre W → V pre x → (∀ a' W', KeepsFrom D W W' → I pre W' → Ax x a' W' → K a' W') →
      assign.wpIn (F.inRound l) m P (Exit.then K (fun _ _ _ => False)) { tmps := (ps.zip (encs x)).foldl (fun t (p, v) => t.setIfInBounds p v) tm, defers := [] } W)
    (hbody : ∀ (l : Nat) (pre : List α) (x : α) (a' : Act) (W : World), I pre W → V pre x → Ax x a' W → body.wpIn (F.inRound l) m P (ownPostG D (fun _ _ => True) I Ix (pre ++ [x]) W) a' W)
    {pre : List α} {x : α} {A : World} (hi : I pre A) (hb : Book D (rcd fn tm ps assign body D .ready none) A) (hv : V pre x) :
    YieldAt F m P (D + 1) (encs x) A fun e B => (e = .returned (.bool true) ∧ I (pre ++ [x]) B ∧ Book D (rcd fn tm ps assign body D .ready none) B) ∨
      (e = .returned (.bool false) ∧ ∃ c, Ix c (pre ++ [x]) B ∧ Book D (rcd fn tm ps assign body D .done (some c)) B) := by
  refine ⟨fn, _, assign, body, run_yield (args := encs x) hb.lp (hps x), roundIn_of_wpIn hfn (hassign _ pre x A _ hi hv ?_)⟩
  intro a' W hk hi' hax
  have b1 := hb.kept hk
  refine ⟨_, run_beginRound b1.lp rfl, ?_⟩
  exact wpIn_mono (hbody _ pre x a' _ (hI.putObj _ hi' (Nat.le_succ _) b1.lp rfl) hv ((hAx x a').putObj (s := ()) _ hax (Nat.le_succ _) b1.lp rfl)) (round_end hI hIx (b1.put _))
end
/-- The statement. -/
theorem range {α : Type} {g : Operand} {ps : Array Tmp} {assign body : Code} {R : Exit → Act → World → Prop} {a : Act} {w : World} (hro : F.round = none) (h1 : 1 ≤ n) {gf : Nat} {lb : Array Value} (hg : a.eval g = .func (.func gf) #[] lb) (hFg : F.fn gf)
    (eg : ∀ args w, (callFunc gf args).run P w = .ok (.enter gf args) w) {encs : α → Array Value} {Q : List α → World → Prop} {V : List α → α → Prop} {S : List α → Prop} (hit : Iter F (n - 1) P gf lb encs Q V S) (hps : ∀ x, (encs x).size = ps.size)
    (I : List α → World → Prop) (Ix : Code → List α → World → Prop) (Ax : α → Act → World → Prop) (hI : OwnFrom w.heap.size I) (hIx : ∀ c, OwnFrom w.heap.size (Ix c)) (hAx : ∀ x a', OwnFrom w.heap.size (fun (_ : Unit) W => Ax x a' W)) (hQ : ∀ pre W, I pre W → Q pre W) (h0 : I [] w)
    (hassign : ∀ (l : Nat) (pre : List α) (x : α) (W : World) (K : Act → World → Prop), I pre W → V pre x → (∀ a' W', KeepsFrom w.heap.size W W' → I pre W' → Ax x a' W' → K a' W') →
      assign.wpIn (F.inRound l) (n - 1 - 1) P (Exit.then K (fun _ _ _ => False)) { tmps := (ps.zip (encs x)).foldl (fun t (p, v) => t.setIfInBounds p v) a.tmps, defers := [] } W)
    (hbody : ∀ (l : Nat) (pre : List α) (x : α) (a' : Act) (W : World), I pre W → V pre x → Ax x a' W → body.wpIn (F.inRound l) (n - 1 - 1) P (ownPostG w.heap.size (fun _ _ => True) I Ix (pre ++ [x]) W) a' W)
    (hdone : ∀ (xs : List α) (W : World) (D : Nat), w.heap.size ≤ D → W.heap[D]? = some (.deferred (some [])) → S xs → I xs W → R .normal { a with defers := { target := .collected D, args := #[] } :: a.defers } W)
    (hstop : ∀ (c : Code) (pre : List α) (W : World) (D : Nat), w.heap.size ≤ D → W.heap[D]? = some (.deferred (some [])) → Ix c pre W → c.wpIn F n P R { a with defers := { target := .collected D, args := #[] } :: a.defers } W) :
    (Code.rangeFunc g ps assign body).wpIn F n P R a w := by
  refine wpIn_rangeFunc fun fn hfn => ?_
  rw [hro]
  have hbk := Book.new w (rcd fn a.tmps ps assign body w.heap.size .ready none)
  have hi0 : I [] ((w.alloc (.deferred (some []))).alloc (.loop (rcd fn a.tmps ps assign body w.heap.size .ready none))) := hI.alloc _ (hI.alloc _ h0)
  have hrun := run_enterLoop_outer (P := P) (w := w) fn a.tmps ps assign body
  change _ = Result.ok _ ((w.alloc (.deferred (some []))).alloc (.loop (rcd fn a.tmps ps assign body w.heap.size .ready none))) at hrun
  generalize (w.alloc (.deferred (some []))).alloc (.loop (rcd fn a.tmps ps assign body w.heap.size .ready none)) = W1 at hbk hi0 hrun
  refine ⟨_, _, W1, { target := .fn (.func gf) lb, args := #[.func (.yield (w.heap.size + 1)) #[] #[]] }, W1, gf, #[.func (.yield (w.heap.size + 1)) #[] #[]] ++ lb, W1, hrun, ?_, ?_, ?_, fun _ => h1, ?_⟩
  · simp only [resolve, hg]
    simp [go_sem]
  · intro f' hf'
    simp [Target.leads] at hf'
    subst hf'
    exact hFg
  · simp [invoke, go_sem, eg]
  · refine (hit (w.heap.size + 1) (fun pre W => I pre W ∧ Book w.heap.size (rcd fn a.tmps ps assign body w.heap.size .ready none) W)
      (fun pre W => ∃ c, Ix c pre W ∧ Book w.heap.size (rcd fn a.tmps ps assign body w.heap.size .done (some c)) W) W1
      (fun pre A B h hgr => ⟨hI pre A B none h.1 hgr (fun r e => by cases e), h.2.grown hgr⟩) (fun pre A h => hQ pre A h.1)
      (fun pre x A h hv => round hfn hps hI hIx hAx hassign hbody h.1 h.2 hv) ⟨hi0, hbk⟩).mono ?_
    rintro e W2 ⟨⟨v, rfl⟩, ⟨xs, hS, hi, hb⟩ | ⟨pre, c, hi, hb⟩⟩
    · exact ⟨none, _, run_endLoop hb.lp (by simp [rcd]), hdone xs _ w.heap.size (Nat.le_refl _) (hb.put _).dfr hS (hI.putObj _ hi (Nat.le_succ _) hb.lp rfl)⟩
    · exact ⟨some c, _, run_endLoop hb.lp (by simp [rcd]), hstop c pre _ w.heap.size (Nat.le_refl _) (hb.put _).dfr ((hIx c).putObj _ hi (Nat.le_succ _) hb.lp rfl)⟩
end Go.Proofs.YtchpjojndkkmeaaDoor.rf

namespace Go.Proofs.YtchpjojndkkmeaaDoor.base
open Go.ChangeShapes Go.WideShapes Go.ChangeAt Go.RowKit
open seven (F7 zz Row At)
open pl (inR prOk pok)
open gen
set_option maxRecDepth 40000 in
set_option maxHeartbeats 4000000 in
theorem dbC (w : World) (g o : Nat) (x : F7) (h : At w g o x) (p : pl.Pin x) : Calls Tryd.prog 64 #[.pointer (some ⟨g, o, none⟩)] w fun e w' => e = .returned (.agg #[.pointer (some ⟨g, o + 6, none⟩), .int .i64 (x.2.2.2.1 - x.2.2.2.2.2.2), .pointer (some ⟨g, o + 5, none⟩), .int .i64 (x.2.2.1 - x.2.2.2.2.2.1), .pointer (some ⟨g, o + 4, none⟩), .int .i64 (x.2.1 - x.2.2.2.2.1)]) ∧ Below w.heap.size w w' := by
  obtain ⟨x0, x1, x2, x3, x4, x5, x6⟩ := x
  obtain ⟨_, _, u1, u2, u3, u4, u5, u6, u7, u8, u9, u10, u11, u12⟩ := p
  dsimp only at u1 u2 u3 u4 u5 u6 u7 u8 u9 u10 u11 u12 ⊢
  have lg := h.lt
  have A0 := fun ob => h.keep (Below.heap_alloc w ob g lg)
  clear h
  go_enter Tryd.func64, Tryd.ntmps64
  go_wp2_with fail
  have B0 := Lib.hid ((Below.refl w.heap.size w).alloc (Nat.le_refl _) (.cells #[.pointer none, .int .i64 0, .pointer none, .int .i64 0, .pointer none, .int .i64 0] 91))
  obtain ⟨y0, y1, y2, y3, y4, y5, y6⟩ := A0 (.cells #[.pointer none, .int .i64 0, .pointer none, .int .i64 0, .pointer none, .int .i64 0] 91)
  have c0 : (w.alloc (.cells #[.pointer none, .int .i64 0, .pointer none, .int .i64 0, .pointer none, .int .i64 0] 91)).cell? ⟨w.heap.size, 0, none⟩ = some (.pointer none) := box_cell (box_refl w _) 0 rfl
  have c1 : (w.alloc (.cells #[.pointer none, .int .i64 0, .pointer none, .int .i64 0, .pointer none, .int .i64 0] 91)).cell? ⟨w.heap.size, 1, none⟩ = some (.int .i64 0) := box_cell (box_refl w _) 1 rfl
  have c2 : (w.alloc (.cells #[.pointer none, .int .i64 0, .pointer none, .int .i64 0, .pointer none, .int .i64 0] 91)).cell? ⟨w.heap.size, 2, none⟩ = some (.pointer none) := box_cell (box_refl w _) 2 rfl
  have c3 : (w.alloc (.cells #[.pointer none, .int .i64 0, .pointer none, .int .i64 0, .pointer none, .int .i64 0] 91)).cell? ⟨w.heap.size, 3, none⟩ = some (.int .i64 0) := box_cell (box_refl w _) 3 rfl
  have c4 : (w.alloc (.cells #[.pointer none, .int .i64 0, .pointer none, .int .i64 0, .pointer none, .int .i64 0] 91)).cell? ⟨w.heap.size, 4, none⟩ = some (.pointer none) := box_cell (box_refl w _) 4 rfl
  have c5 : (w.alloc (.cells #[.pointer none, .int .i64 0, .pointer none, .int .i64 0, .pointer none, .int .i64 0] 91)).cell? ⟨w.heap.size, 5, none⟩ = some (.int .i64 0) := box_cell (box_refl w _) 5 rfl
  have fz : ∀ k, (w.alloc (.cells #[.pointer none, .int .i64 0, .pointer none, .int .i64 0, .pointer none, .int .i64 0] 91)).frozen? ⟨w.heap.size, k, none⟩ = false := fun k => World.frozen?_alloc_new w _ _ k
  clear A0
  obtain ⟨rb, hrb⟩ : ∃ rb, rb = w.heap.size := ⟨_, rfl⟩
  rw [← hrb] at c0 c1 c2 c3 c4 c5 fz ⊢
  have HRB := Lib.hid (Nat.le_of_eq hrb.symm)
  have FZ0 := Lib.hid fz
  generalize w.alloc (.cells #[.pointer none, .int .i64 0, .pointer none, .int .i64 0, .pointer none, .int .i64 0] 91) = W0 at *
  have f0 := fz 0
  have f1 := fz 1
  have f2 := fz 2
  have f3 := fz 3
  have f4 := fz 4
  have f5 := fz 5
  have ngr : g ≠ rb := by omega
  clear hrb fz
  go_still_tail 40, (by kernel_rfl)
  change wpList _ _ _ _ _ W0.drew
  have B1 := Lib.hid B0.out.drew
  replace c0 : W0.drew.cell? ⟨rb, 0, none⟩ = some (.pointer none) := c0
  replace c1 : W0.drew.cell? ⟨rb, 1, none⟩ = some (.int .i64 0) := c1
  replace c2 : W0.drew.cell? ⟨rb, 2, none⟩ = some (.pointer none) := c2
  replace c3 : W0.drew.cell? ⟨rb, 3, none⟩ = some (.int .i64 0) := c3
  replace c4 : W0.drew.cell? ⟨rb, 4, none⟩ = some (.pointer none) := c4
  replace c5 : W0.drew.cell? ⟨rb, 5, none⟩ = some (.int .i64 0) := c5
  replace f0 : W0.drew.frozen? ⟨rb, 0, none⟩ = false := f0
  replace f1 : W0.drew.frozen? ⟨rb, 1, none⟩ = false := f1
  replace f2 : W0.drew.frozen? ⟨rb, 2, none⟩ = false := f2
  replace f3 : W0.drew.frozen? ⟨rb, 3, none⟩ = false := f3
  replace f4 : W0.drew.frozen? ⟨rb, 4, none⟩ = false := f4
  replace f5 : W0.drew.frozen? ⟨rb, 5, none⟩ = false := f5
  have FZ := Lib.hid (show ∀ k, W0.drew.frozen? ⟨rb, k, none⟩ = false from FZ0.out)
  clear FZ0
  generalize W0.drew = W1 at *
  clear y0 y1 y2 y3 y4 y5 y6
  have lrb : rb < W1.heap.size := by
    unfold World.cell? at c0
    cases hh : W1.heap[rb]? with
    | none => simp [hh] at c0
    | some o => exact (Array.getElem?_eq_some_iff.1 hh).1
  have K0 : Blk W1 rb 6 (fun k => (W1.cell? ⟨rb, k, none⟩).getD undef) := ⟨lrb, fun k hk => by
    match k, hk with
    | 0, _ => rw [c0]; rfl
    | 1, _ => rw [c1]; rfl
    | 2, _ => rw [c2]; rfl
    | 3, _ => rw [c3]; rfl
    | 4, _ => rw [c4]; rfl
    | 5, _ => rw [c5]; rfl, FZ.out⟩
  have K := Lib.hid ((((((K0.set (k := 0) (by omega) (.pointer (some ⟨g, o + 6, none⟩))).set (k := 1) (by omega) (.int .i64 (x3 - x6))).set (k := 2) (by omega) (.pointer (some ⟨g, o + 5, none⟩))).set (k := 3) (by omega) (.int .i64 (x2 - x5))).set (k := 4) (by omega) (.pointer (some ⟨g, o + 4, none⟩))).set (k := 5) (by omega) (.int .i64 (x1 - x4)))
  have BL := Lib.hid ((((((B1.out.setCell (p := ⟨rb, 0, none⟩) HRB.out (.pointer (some ⟨g, o + 6, none⟩))).setCell (p := ⟨rb, 1, none⟩) HRB.out (.int .i64 (x3 - x6))).setCell (p := ⟨rb, 2, none⟩) HRB.out (.pointer (some ⟨g, o + 5, none⟩))).setCell (p := ⟨rb, 3, none⟩) HRB.out (.int .i64 (x2 - x5))).setCell (p := ⟨rb, 4, none⟩) HRB.out (.pointer (some ⟨g, o + 4, none⟩))).setCell (p := ⟨rb, 5, none⟩) HRB.out (.int .i64 (x1 - x4)))
  clear K0
  go_wp2
  change bodyPost _ _ _ _ _ ((((((W1.setCell ⟨rb, 0, none⟩ (.pointer (some ⟨g, o + 6, none⟩))).setCell ⟨rb, 1, none⟩ (.int .i64 (x3 - x6))).setCell ⟨rb, 2, none⟩ (.pointer (some ⟨g, o + 5, none⟩))).setCell ⟨rb, 3, none⟩ (.int .i64 (x2 - x5))).setCell ⟨rb, 4, none⟩ (.pointer (some ⟨g, o + 4, none⟩))).setCell ⟨rb, 5, none⟩ (.int .i64 (x1 - x4)))
  generalize ((((((W1.setCell ⟨rb, 0, none⟩ (.pointer (some ⟨g, o + 6, none⟩))).setCell ⟨rb, 1, none⟩ (.int .i64 (x3 - x6))).setCell ⟨rb, 2, none⟩ (.pointer (some ⟨g, o + 5, none⟩))).setCell ⟨rb, 3, none⟩ (.int .i64 (x2 - x5))).setCell ⟨rb, 4, none⟩ (.pointer (some ⟨g, o + 4, none⟩))).setCell ⟨rb, 5, none⟩ (.int .i64 (x1 - x4))) = W9 at K BL ⊢
  have d0 := K.out.cell 0 (by omega)
  have d1 := K.out.cell 1 (by omega)
  have d2 := K.out.cell 2 (by omega)
  have d3 := K.out.cell 3 (by omega)
  have d4 := K.out.cell 4 (by omega)
  have d5 := K.out.cell 5 (by omega)
  simp [upd] at d0 d1 d2 d3 d4 d5
  refine bodyPost_ret (v := .agg #[.pointer (some ⟨g, o + 6, none⟩), .int .i64 (x3 - x6), .pointer (some ⟨g, o + 5, none⟩), .int .i64 (x2 - x5), .pointer (some ⟨g, o + 4, none⟩), .int .i64 (x1 - x4)]) (by simp [results, Tryd.results64, go_sem, d0, d1, d2, d3, d4, d5]) rfl ⟨rfl, BL.out⟩
end Go.Proofs.YtchpjojndkkmeaaDoor.base

namespace Go.Proofs.YtchpjojndkkmeaaDoor.base
open Go.ChangeShapes Go.WideShapes Go.ChangeAt Go.RowKit
open seven (F7 zz Row At)
open pl (inR prOk pok)
open gen
open Go.Shelf
attribute [local go_sem] Oper.semAt_some
/-- The j-th debt of a Part: the place where its payment is recorded, and what is open. -/
def el (i : Nat) (x : F7) (j : Nat) : Nat × Int := if j = 0 then (i * 7 + 6, x.2.2.2.1 - x.2.2.2.2.2.2) else if j = 1 then (i * 7 + 5, x.2.2.1 - x.2.2.2.2.2.1) else (i * 7 + 4, x.2.1 - x.2.2.2.2.1)
/-- The open ones of the first j debts of a Part. -/
def dsTo (i : Nat) (x : F7) : Nat → List (Nat × Int)
  | 0 => []
  | j + 1 => dsTo i x j ++ (if 0 < (el i x j).2 then [el i x j] else [])
/-- The open debts of the first k Parts. -/
def DS (L : List F7) : Nat → List (Nat × Int)
  | 0 => []
  | k + 1 => DS L k ++ dsTo k (L.getD k zz) 3
def encD (g : Nat) (x : Nat × Int) : Array Value := #[.agg #[.pointer (some ⟨g, x.1, none⟩), .int .i64 x.2]]
/-- What the iterator reads, when some debts have been handed on. -/
structure Rd (g Bs cap : Nat) (L : List F7) (pre : List (Nat × Int)) (W : World) : Prop where
  hd : W.cell? ⟨Bs, 0, none⟩ = some (.slice (some ⟨g, 0, none⟩) L.length cap)
  pt : ∀ i, i < L.length → pre = DS L i → At W g (i * 7) (L.getD i zz)
/-- What may come next. -/
def Nx (L : List F7) (pre : List (Nat × Int)) (x : Nat × Int) : Prop := ∃ k j, k < L.length ∧ j < 3 ∧ pre = DS L k ++ dsTo k (L.getD k zz) j ∧ x = el k (L.getD k zz) j ∧ 0 < x.2
theorem by_below {A B : World} (h : Below A.heap.size A B) : A.grownBy B none := ⟨h.os, h.tape, h.output, h.size, fun k hk _ => h.block k hk⟩
theorem dsTo_t {i j : Nat} {x : F7} (h : 0 < (el i x j).2) : dsTo i x (j + 1) = dsTo i x j ++ [el i x j] := by rw [dsTo, if_pos h]
theorem dsTo_f {i j : Nat} {x : F7} (h : ¬ 0 < (el i x j).2) : dsTo i x (j + 1) = dsTo i x j := by rw [dsTo, if_neg h, List.append_nil]
set_option maxRecDepth 100000 in
theorem ixD (a b c d e f : Value) (w : World) : (Instr.index 91 (.agg #[a, b, c, d, e, f]) (.int .i64 0)).run Tryd.prog w = .ok (.agg #[a, b]) w ∧ (Instr.index 91 (.agg #[a, b, c, d, e, f]) (.int .i64 1)).run Tryd.prog w = .ok (.agg #[c, d]) w ∧ (Instr.index 91 (.agg #[a, b, c, d, e, f]) (.int .i64 2)).run Tryd.prog w = .ok (.agg #[e, f]) w := by
  refine ⟨?_, ?_, ?_⟩
  all_goals
    simp only [Instr.index, asIntOf, Sem.run_bind, Sem.run_pure, Result.andThen_ok, run_underlying Tryd.underlying91, part]
    rfl
set_option maxRecDepth 100000 in
set_option maxHeartbeats 4000000 in
theorem odIt (n : Nat) (hn : 2 ≤ n) (g Bs cap : Nat) (L : List F7) (hlen : L.length ≤ 24) (hcap : L.length ≤ cap) (hp : ∀ i, i < L.length → pl.Pin (L.getD i zz)) :
    rf.Iter Fence.wide n Tryd.prog 63 #[.pointer (some ⟨Bs, 0, none⟩)] (encD g) (Rd g Bs cap L) (Nx L) (fun xs => xs = DS L L.length) := by
  intro l J Jx W hst hQ hY h0
  have HST := Lib.hid hst
  have HQ := Lib.hid hQ
  have HY := Lib.hid hY
  have HP := Lib.hid hp
  have hh0 := (hQ _ _ h0).hd
  clear hst hQ hY hp
  obtain ⟨len, hl⟩ : ∃ len, len = L.length := ⟨_, rfl⟩
  rw [← hl] at hlen hcap hh0
  have HL := Lib.hid hl
  clear hl
  have hro : Fence.wide.round = none := rfl
  refine callsIn_of_wp Tryd.func63 rfl trivial ?_ hro
  simp only [Tryd.ntmps63, List.size_toArray, List.length_cons, List.length_nil, Nat.reduceAdd, Nat.reduceSub, Array.replicate_succ, Array.replicate_zero, List.push_toArray, List.append_toArray, List.nil_append, List.cons_append]
  gi_wp2
  gi_loopw [8] (fun i wr => ∃ k : Nat, k ≤ len ∧ i = .int .i64 k ∧ J (DS L k) wr) (fun i _ => len - (intOf i).toNat)
  case atStart => exact ⟨0, by omega, rfl, h0⟩
  case round =>
    obtain ⟨k, hk, rfl, hJ⟩ := hrel
    have JJ := Lib.hid hJ
    by_cases hlt : k < len
    · have HLT := Lib.hid (show k < L.length from by rw [← HL.out]; exact hlt)
      have hd := (HQ.out _ _ hJ).hd
      rw [← HL.out] at hd
      have q := (HQ.out _ _ hJ).pt k HLT.out rfl
      have PX := HP.out k HLT.out
      obtain ⟨x, hx⟩ : ∃ x, x = L.getD k zz := ⟨_, rfl⟩
      rw [← hx] at q PX
      have HX := Lib.hid hx
      have DB := Lib.hid (dbC wr g (k * 7) x q PX)
      have z1 : (k : Int) < (len : Int) := by omega
      have u1 : decide (k < len) = true := by simp; omega
      clear hx q hJ
      have hw : Fence.wide.fn 64 := trivial
      gi_wp2_with fail
      refine ⟨fun _ => (by omega), (callsIn_wide.2 DB.out).mono ?_⟩
      rintro e w1 ⟨rfl, b1⟩
      have J1 := Lib.hid (show J (DS L k ++ dsTo k x 0) w1 from by rw [dsTo, List.append_nil]; exact HST.out _ _ _ JJ.out (by_below b1))
      clear b1 DB hd
      obtain ⟨D0, hD0⟩ : ∃ D, D = x.2.2.2.1 - x.2.2.2.2.2.2 := ⟨_, rfl⟩
      obtain ⟨D1, hD1⟩ : ∃ D, D = x.2.2.1 - x.2.2.2.2.2.1 := ⟨_, rfl⟩
      obtain ⟨D2, hD2⟩ : ∃ D, D = x.2.1 - x.2.2.2.2.1 := ⟨_, rfl⟩
      rw [← hD0, ← hD1, ← hD2]
      have HD0 := Lib.hid hD0
      have HD1 := Lib.hid hD1
      have HD2 := Lib.hid hD2
      clear hD0 hD1 hD2
      gi_wp2
      obtain ⟨_, _, v1, v2, v3, v4, v5, v6, v7, v8, v9, v10, v11, v12⟩ := PX
      gi_loopw [15] (fun jv wr => (jv = .int .i64 0 ∧ J (DS L k ++ dsTo k x 0) wr) ∨ (jv = .int .i64 1 ∧ J (DS L k ++ dsTo k x 1) wr) ∨ (jv = .int .i64 2 ∧ J (DS L k ++ dsTo k x 2) wr) ∨ (jv = .int .i64 3 ∧ J (DS L k ++ dsTo k x 3) wr)) (fun jv _ => 3 - (intOf jv).toNat)
      case atStart => exact .inl ⟨rfl, J1.out⟩
      case round =>
        clear J1 JJ
        rcases hrel with ⟨rfl, hJ⟩ | ⟨rfl, hJ⟩ | ⟨rfl, hJ⟩ | ⟨rfl, hJ⟩
        · have hix := fun w => (ixD (.pointer (some ⟨g, k * 7 + 6, none⟩)) (.int .i64 D0) (.pointer (some ⟨g, k * 7 + 5, none⟩)) (.int .i64 D1) (.pointer (some ⟨g, k * 7 + 4, none⟩)) (.int .i64 D2) w).1
          cases t1 : decide (0 < D0) with
          | false =>
            have E := Lib.hid (show dsTo k x 1 = dsTo k x 0 from dsTo_f (by show ¬ 0 < x.2.2.2.1 - x.2.2.2.2.2.2; rw [← HD0.out]; simpa using t1))
            have J2 := Lib.hid (HST.out _ _ _ hJ (World.grownBy_alloc wr (.cells #[.pointer (some ⟨g, k * 7 + 6, none⟩), .int .i64 D0] 65) none))
            clear hJ
            gi_wp2
            refine ⟨fun f h => (by cases h), ?_⟩
            gi_wp2
            go_roundw
            case rel => exact .inr (.inl ⟨by go_num, by rw [E.out]; exact J2.out⟩)
            case measure => simp [intOf]
          | true =>
            have hpos : 0 < D0 := by simpa using t1
            have E := Lib.hid (show dsTo k x 1 = dsTo k x 0 ++ [(k * 7 + 6, D0)] from by rw [HD0.out]; exact dsTo_t (i := k) (x := x) (j := 0) (by show 0 < x.2.2.2.1 - x.2.2.2.2.2.2; rw [← HD0.out]; exact hpos))
            have J2 := HST.out _ _ _ hJ (World.grownBy_alloc wr (.cells #[.pointer (some ⟨g, k * 7 + 6, none⟩), .int .i64 D0] 65) none)
            obtain ⟨fn, tmps, assign, body, hy, hR⟩ := HY.out _ (k * 7 + 6, D0) _ J2 ⟨k, 0, HLT.out, by omega, by rw [← HX.out], by rw [← HX.out, HD0.out]; rfl, hpos⟩
            dsimp only [encD] at hy
            have d0 : (wr.alloc (.cells #[.pointer (some ⟨g, k * 7 + 6, none⟩), .int .i64 D0] 65)).cell? ⟨wr.heap.size, 0, none⟩ = some (.pointer (some ⟨g, k * 7 + 6, none⟩)) := box_cell (box_refl wr _) 0 rfl
            have d1 : (wr.alloc (.cells #[.pointer (some ⟨g, k * 7 + 6, none⟩), .int .i64 D0] 65)).cell? ⟨wr.heap.size, 1, none⟩ = some (.int .i64 D0) := box_cell (box_refl wr _) 1 rfl
            clear hJ J2 hpos
            gi_wp2
            refine ⟨fun _ => (by omega), hR.mono ?_⟩
            rintro e W3 (⟨rfl, hJ3⟩ | ⟨rfl, hJx3⟩)
            · gi_wp2
              go_roundw
              case rel => exact .inr (.inl ⟨by go_num, by rw [E.out, ← List.append_assoc]; exact hJ3⟩)
              case measure => simp [intOf]
            · gi_wp2
              refine bodyPost_ret (results_none rfl _ _ _) rfl ?_
              exact ⟨⟨_, rfl⟩, .inr ⟨_, hJx3⟩⟩
        · have hix := fun w => (ixD (.pointer (some ⟨g, k * 7 + 6, none⟩)) (.int .i64 D0) (.pointer (some ⟨g, k * 7 + 5, none⟩)) (.int .i64 D1) (.pointer (some ⟨g, k * 7 + 4, none⟩)) (.int .i64 D2) w).2.1
          cases t1 : decide (0 < D1) with
          | false =>
            have E := Lib.hid (show dsTo k x 2 = dsTo k x 1 from dsTo_f (by show ¬ 0 < x.2.2.1 - x.2.2.2.2.2.1; rw [← HD1.out]; simpa using t1))
            have J2 := Lib.hid (HST.out _ _ _ hJ (World.grownBy_alloc wr (.cells #[.pointer (some ⟨g, k * 7 + 5, none⟩), .int .i64 D1] 65) none))
            clear hJ
            gi_wp2
            refine ⟨fun f h => (by cases h), ?_⟩
            gi_wp2
            go_roundw
            case rel => exact .inr (.inr (.inl ⟨by go_num, by rw [E.out]; exact J2.out⟩))
            case measure => simp [intOf]
          | true =>
            have hpos : 0 < D1 := by simpa using t1
            have E := Lib.hid (show dsTo k x 2 = dsTo k x 1 ++ [(k * 7 + 5, D1)] from by rw [HD1.out]; exact dsTo_t (i := k) (x := x) (j := 1) (by show 0 < x.2.2.1 - x.2.2.2.2.2.1; rw [← HD1.out]; exact hpos))
            have J2 := HST.out _ _ _ hJ (World.grownBy_alloc wr (.cells #[.pointer (some ⟨g, k * 7 + 5, none⟩), .int .i64 D1] 65) none)
            obtain ⟨fn, tmps, assign, body, hy, hR⟩ := HY.out _ (k * 7 + 5, D1) _ J2 ⟨k, 1, HLT.out, by omega, by rw [← HX.out], by rw [← HX.out, HD1.out]; rfl, hpos⟩
            dsimp only [encD] at hy
            have d0 : (wr.alloc (.cells #[.pointer (some ⟨g, k * 7 + 5, none⟩), .int .i64 D1] 65)).cell? ⟨wr.heap.size, 0, none⟩ = some (.pointer (some ⟨g, k * 7 + 5, none⟩)) := box_cell (box_refl wr _) 0 rfl
            have d1 : (wr.alloc (.cells #[.pointer (some ⟨g, k * 7 + 5, none⟩), .int .i64 D1] 65)).cell? ⟨wr.heap.size, 1, none⟩ = some (.int .i64 D1) := box_cell (box_refl wr _) 1 rfl
            clear hJ J2 hpos
            gi_wp2
            refine ⟨fun _ => (by omega), hR.mono ?_⟩
            rintro e W3 (⟨rfl, hJ3⟩ | ⟨rfl, hJx3⟩)
            · gi_wp2
              go_roundw
              case rel => exact .inr (.inr (.inl ⟨by go_num, by rw [E.out, ← List.append_assoc]; exact hJ3⟩))
              case measure => simp [intOf]
            · gi_wp2
              refine bodyPost_ret (results_none rfl _ _ _) rfl ?_
              exact ⟨⟨_, rfl⟩, .inr ⟨_, hJx3⟩⟩
        · have hix := fun w => (ixD (.pointer (some ⟨g, k * 7 + 6, none⟩)) (.int .i64 D0) (.pointer (some ⟨g, k * 7 + 5, none⟩)) (.int .i64 D1) (.pointer (some ⟨g, k * 7 + 4, none⟩)) (.int .i64 D2) w).2.2
          cases t1 : decide (0 < D2) with
          | false =>
            have E := Lib.hid (show dsTo k x 3 = dsTo k x 2 from dsTo_f (by show ¬ 0 < x.2.1 - x.2.2.2.2.1; rw [← HD2.out]; simpa using t1))
            have J2 := Lib.hid (HST.out _ _ _ hJ (World.grownBy_alloc wr (.cells #[.pointer (some ⟨g, k * 7 + 4, none⟩), .int .i64 D2] 65) none))
            clear hJ
            gi_wp2
            refine ⟨fun f h => (by cases h), ?_⟩
            gi_wp2
            go_roundw
            case rel => exact .inr (.inr (.inr ⟨by go_num, by rw [E.out]; exact J2.out⟩))
            case measure => simp [intOf]
          | true =>
            have hpos : 0 < D2 := by simpa using t1
            have E := Lib.hid (show dsTo k x 3 = dsTo k x 2 ++ [(k * 7 + 4, D2)] from by rw [HD2.out]; exact dsTo_t (i := k) (x := x) (j := 2) (by show 0 < x.2.1 - x.2.2.2.2.1; rw [← HD2.out]; exact hpos))
            have J2 := HST.out _ _ _ hJ (World.grownBy_alloc wr (.cells #[.pointer (some ⟨g, k * 7 + 4, none⟩), .int .i64 D2] 65) none)
            obtain ⟨fn, tmps, assign, body, hy, hR⟩ := HY.out _ (k * 7 + 4, D2) _ J2 ⟨k, 2, HLT.out, by omega, by rw [← HX.out], by rw [← HX.out, HD2.out]; rfl, hpos⟩
            dsimp only [encD] at hy
            have d0 : (wr.alloc (.cells #[.pointer (some ⟨g, k * 7 + 4, none⟩), .int .i64 D2] 65)).cell? ⟨wr.heap.size, 0, none⟩ = some (.pointer (some ⟨g, k * 7 + 4, none⟩)) := box_cell (box_refl wr _) 0 rfl
            have d1 : (wr.alloc (.cells #[.pointer (some ⟨g, k * 7 + 4, none⟩), .int .i64 D2] 65)).cell? ⟨wr.heap.size, 1, none⟩ = some (.int .i64 D2) := box_cell (box_refl wr _) 1 rfl
            clear hJ J2 hpos
            gi_wp2
            refine ⟨fun _ => (by omega), hR.mono ?_⟩
            rintro e W3 (⟨rfl, hJ3⟩ | ⟨rfl, hJx3⟩)
            · gi_wp2
              go_roundw
              case rel => exact .inr (.inr (.inr ⟨by go_num, by rw [E.out, ← List.append_assoc]; exact hJ3⟩))
              case measure => simp [intOf]
            · gi_wp2
              refine bodyPost_ret (results_none rfl _ _ _) rfl ?_
              exact ⟨⟨_, rfl⟩, .inr ⟨_, hJx3⟩⟩
        · gi_wp2
          go_roundw
          case rel => exact ⟨k + 1, by omega, by go_num, by rw [DS, ← HX.out]; exact hJ⟩
          case measure => simp [intOf]; omega
    · have u1 : decide (k < len) = false := by simp; omega
      obtain rfl : k = len := by omega
      clear hJ
      gi_wp2
      go_end0
      exact ⟨⟨_, rfl⟩, .inl ⟨_, by rw [HL.out], JJ.out⟩⟩
end Go.Proofs.YtchpjojndkkmeaaDoor.base
