/-
  Plain helpers of this seat's proofs: a range over a function that keeps memory of its own while its rounds run. Conditions: none.
-/
import Derived.Test.YtmnmijiikjpdnaaRf
import Derived.RangeFuncNested
import Derived.RangeFuncBound
import Derived.RangeFuncLeaves
namespace Go.Proofs.Ytmnmijiikjpdnaa.rf
open Go.ChangeShapes Go.WideShapes Go.ChangeAt Go.RowKit
variable {F : Fence} {n : Nat} {P : Program}
/-- Every block from N on lies as it lay. -/
def Kept (N : Nat) (A B : World) : Prop := A.heap.size ≤ B.heap.size ∧ ∀ k, N ≤ k → k < A.heap.size → B.heap[k]? = A.heap[k]?
theorem Kept.refl (N : Nat) (A : World) : Kept N A A := ⟨Nat.le_refl _, fun _ _ _ => rfl⟩
theorem Kept.trans {N : Nat} {A B C : World} (h : Kept N A B) (k : Kept N B C) : Kept N A C := ⟨Nat.le_trans h.1 k.1, fun i hi hl => (k.2 i hi (Nat.lt_of_lt_of_le hl h.1)).trans (h.2 i hi hl)⟩
theorem Kept.mono {N M : Nat} {A B : World} (h : Kept N A B) (hm : N ≤ M) : Kept M A B := ⟨h.1, fun i hi hl => h.2 i (Nat.le_trans hm hi) hl⟩
theorem Kept.from {N : Nat} {A B : World} (h : Kept N A B) : KeepsFrom N A B := ⟨h.1, fun k _ hk h0 _ => (h.2 k hk (Array.getElem?_eq_some_iff.1 h0).1).trans h0⟩
theorem Kept.put {N : Nat} {A : World} {r : Nat} (o : Obj) (h : r < N) : Kept N A (A.putObj r o) := ⟨by simp [World.putObj], fun k hk _ => World.putObj_heap_other (by omega)⟩
theorem Kept.set {N : Nat} {A : World} {p : Addr} (v : Value) (h : p.block < N) : Kept N A (A.setCell p v) := ⟨by simp [World.setCell], fun k hk _ => Below.heap_setCell A p v k (by omega)⟩
theorem Kept.alloc (N : Nat) (A : World) (o : Obj) : Kept N A (A.alloc o) := ⟨by simp, fun k _ hl => Below.heap_alloc A o k hl⟩
theorem Kept.drew (N : Nat) (A : World) : Kept N A A.drew := ⟨Nat.le_refl _, fun _ _ _ => rfl⟩
theorem roundIn_wide {m k l : Nat} {f : FuncId} {tmps : Array Value} {assign body : Code} {w : World} {R : Ending → World → Prop} (h : RoundIn Fence.wide m P l f tmps assign body w R) : RoundIn Fence.wide k P l f tmps assign body w R := by
  exact ⟨h.1, fun c cs _ => h.2 c cs (room_wide _)⟩
/-- What a function does that is ranged over and that has memory of its own. -/
def IterK {α : Type} (F : Fence) (n : Nat) (P : Program) (g : Nat) (lb : Array Value) (encs : α → Array Value) (Q : List α → World → Prop) (V : List α → α → Prop) (S : List α → Prop) : Prop :=
  ∀ (l : Nat) (J Jx : List α → World → Prop) (W : World), OwnFrom W.heap.size J → OwnFrom W.heap.size Jx → (∀ pre A, J pre A → Q pre A) →
    (∀ pre x A, J pre A → V pre x → YieldAt F (n - 1) P l (encs x) A fun e B => (e = .returned (.bool true) ∧ J (pre ++ [x]) B ∧ Kept W.heap.size A B) ∨ (e = .returned (.bool false) ∧ Jx (pre ++ [x]) B ∧ KeepsFrom W.heap.size A B)) →
    J [] W → CallsIn F n P g (#[.func (.yield l) #[] #[]] ++ lb) W fun e B => (∃ v, e = .returned v) ∧ ((∃ xs, S xs ∧ J xs B) ∨ ∃ pre, Jx pre B)
theorem Book.grownK {D : Nat} {r : Loop} {A B : World} {row : Option Nat} (h : Book D r A) (hg : A.grownBy B row) (hr : ∀ k, row = some k → D + 2 ≤ k) : Book D r B :=
  ⟨(hg.block _ h.lt (fun e => by have := hr _ e.symm; omega)).trans h.lp, (hg.block _ (Nat.lt_of_succ_lt h.lt) (fun e => by have := hr _ e.symm; omega)).trans h.dfr⟩
theorem roundPost_mono {l : Nat} {R R' : Ending → World → Prop} (h : ∀ e w, R e w → R' e w) : ∀ e a w, roundPost P l R e a w → roundPost P l R' e a w := by
  intro e a w hp
  cases e <;> first
    | (obtain ⟨x, y, h1, h2⟩ := hp; exact ⟨x, y, h1, h _ _ h2⟩)
    | exact hp
    | exact h _ _ hp
section
variable {α : Type} {ps : Array Tmp} {assign body : Code} {fn : FuncId} {tm : Array Value} {encs : α → Array Value} {V : List α → α → Prop} {D : Nat} {I : List α → World → Prop} {Ix : Code → List α → World → Prop} {Ax : α → Act → World → Prop}
/-- How a round ends, the record with it. -/
theorem round_endK (hI : OwnFrom D I) (hIx : ∀ c, OwnFrom D (Ix c)) {xs : List α} {A : World} (hb : Book D (rcd fn tm ps assign body D .busy none) A) :
    ∀ e a' B, ownPostG D (Kept (D + 2)) I Ix xs A e a' B → roundPost P (D + 1) (fun e B =>
      (e = .returned (.bool true) ∧ I xs B ∧ Book D (rcd fn tm ps assign body D .ready none) B ∧ Kept (D + 2) A B) ∨
      (e = .returned (.bool false) ∧ ∃ c, Ix c xs B ∧ Book D (rcd fn tm ps assign body D .done (some c)) B ∧ KeepsFrom (D + 2) A B)) e a' B := by
  intro e a' B h
  have kf : ∀ {B : World} {r r' : Loop}, KeepsFrom D A B → B.heap[D + 1]? = some (.loop r) → KeepsFrom (D + 2) A (B.putObj (D + 1) (.loop r')) := fun {B r r'} hk _ => ⟨Nat.le_trans hk.size (by simp [World.putObj]), fun k o hk2 h0 ho => (World.putObj_heap_other (by omega)).trans (hk.same k o (by omega) h0 ho)⟩
  cases e with
  | normal =>
    obtain ⟨hk, hkp, hi⟩ := h
    have b2 := hb.kept hk
    exact ⟨_, _, run_endRound none b2.lp, .inl ⟨rfl, hI.putObj _ hi (Nat.le_succ _) b2.lp rfl, b2.put _, hkp.trans (Kept.put _ (by omega))⟩⟩
  | ret =>
    obtain ⟨hk, hi⟩ := h
    have b2 := hb.kept hk
    exact ⟨_, _, run_endRound (some .ret) b2.lp, .inr ⟨rfl, .ret, (hIx _).putObj _ hi (Nat.le_succ _) b2.lp rfl, b2.put _, kf hk b2.lp⟩⟩
  | exit id =>
    obtain ⟨hk, hi⟩ := h
    have b2 := hb.kept hk
    exact ⟨_, _, run_endRound (some (.exit id)) b2.lp, .inr ⟨rfl, .exit id, (hIx _).putObj _ hi (Nat.le_succ _) b2.lp rfl, b2.put _, kf hk b2.lp⟩⟩
  | goto t =>
    obtain ⟨hk, hi⟩ := h
    have b2 := hb.kept hk
    exact ⟨_, _, run_endRound (some (.goto t)) b2.lp, .inr ⟨rfl, .goto t, (hIx _).putObj _ hi (Nat.le_succ _) b2.lp rfl, b2.put _, kf hk b2.lp⟩⟩
  | panic c => exact h.elim
  | outgrown => exact h.elim
/-- One round. -/
theorem roundK (hfn : F.fn fn) (hps : ∀ x, (encs x).size = ps.size) (hI : OwnFrom D I) (hIx : ∀ c, OwnFrom D (Ix c)) (hAx : ∀ x a', OwnFrom D (fun (_ : Unit) W => Ax x a' W)) {m : Nat}
    (hassign : ∀ (l : Nat) (pre : List α) (x : α) (W : World) (K : Act → World → Prop), I pre W → V pre x → (∀ a' W', KeepsFrom D W W' → Kept (D + 2) W W' → I pre W' → Ax x a' W' → K a' W') →
      assign.wpIn (F.inRound l) m P (Exit.then K (fun _ _ _ => False)) { tmps := (ps.zip (encs x)).foldl (fun t (p, v) => t.setIfInBounds p v) tm, defers := [] } W)
    (hbody : ∀ (l : Nat) (pre : List α) (x : α) (a' : Act) (W : World), I pre W → V pre x → Ax x a' W → body.wpIn (F.inRound l) m P (ownPostG D (Kept (D + 2)) I Ix (pre ++ [x]) W) a' W)
    {pre : List α} {x : α} {A : World} (hi : I pre A) (hb : Book D (rcd fn tm ps assign body D .ready none) A) (hv : V pre x) :
    YieldAt F m P (D + 1) (encs x) A fun e B => (e = .returned (.bool true) ∧ I (pre ++ [x]) B ∧ Book D (rcd fn tm ps assign body D .ready none) B ∧ Kept (D + 2) A B) ∨
      (e = .returned (.bool false) ∧ ∃ c, Ix c (pre ++ [x]) B ∧ Book D (rcd fn tm ps assign body D .done (some c)) B ∧ KeepsFrom (D + 2) A B) := by
  refine ⟨fn, _, assign, body, run_yield (args := encs x) hb.lp (hps x), roundIn_of_wpIn hfn (hassign _ pre x A _ hi hv ?_)⟩
  intro a' W hk hkp hi' hax
  have b1 := hb.kept hk
  refine ⟨_, run_beginRound b1.lp rfl, ?_⟩
  have k1 : Kept (D + 2) A (W.putObj (D + 1) (.loop (rcd fn tm ps assign body D .busy none))) := hkp.trans (Kept.put _ (by omega))
  refine wpIn_mono (hbody _ pre x a' _ (hI.putObj _ hi' (Nat.le_succ _) b1.lp rfl) hv ((hAx x a').putObj (s := ()) _ hax (Nat.le_succ _) b1.lp rfl)) fun e a' B h => ?_
  have hw : ∀ (e : Ending) (B : World), ((e = .returned (.bool true) ∧ I (pre ++ [x]) B ∧ Book D (rcd fn tm ps assign body D .ready none) B ∧ Kept (D + 2) (W.putObj (D + 1) (.loop (rcd fn tm ps assign body D .busy none))) B) ∨
      (e = .returned (.bool false) ∧ ∃ c, Ix c (pre ++ [x]) B ∧ Book D (rcd fn tm ps assign body D .done (some c)) B ∧ KeepsFrom (D + 2) (W.putObj (D + 1) (.loop (rcd fn tm ps assign body D .busy none))) B)) → ((e = .returned (.bool true) ∧ I (pre ++ [x]) B ∧ Book D (rcd fn tm ps assign body D .ready none) B ∧ Kept (D + 2) A B) ∨
      (e = .returned (.bool false) ∧ ∃ c, Ix c (pre ++ [x]) B ∧ Book D (rcd fn tm ps assign body D .done (some c)) B ∧ KeepsFrom (D + 2) A B)) := by
    rintro e B (⟨h1, h2, h3, h4⟩ | ⟨h1, c, h2, h3, h4⟩)
    · exact .inl ⟨h1, h2, h3, k1.trans h4⟩
    · exact .inr ⟨h1, c, h2, h3, k1.from.trans h4⟩
  exact roundPost_mono hw _ _ _ (round_endK hI hIx (b1.put _) e a' B h)
end
/-- The statement. -/
theorem rangeK {α : Type} {g : Operand} {ps : Array Tmp} {assign body : Code} {R : Exit → Act → World → Prop} {a : Act} {w : World} (hro : F.round = none) (h1 : 1 ≤ n) {gf : Nat} {lb : Array Value} (hg : a.eval g = .func (.func gf) #[] lb) (hFg : F.fn gf)
    (eg : ∀ args w, (callFunc gf args).run P w = .ok (.enter gf args) w) {encs : α → Array Value} {Q : List α → World → Prop} {V : List α → α → Prop} {S : List α → Prop} (hit : IterK F (n - 1) P gf lb encs Q V S) (hps : ∀ x, (encs x).size = ps.size)
    (I : List α → World → Prop) (Ix : Code → List α → World → Prop) (Ax : α → Act → World → Prop) (hI : OwnFrom w.heap.size I) (hIx : ∀ c, OwnFrom w.heap.size (Ix c)) (hAx : ∀ x a', OwnFrom w.heap.size (fun (_ : Unit) W => Ax x a' W)) (hQ : ∀ pre W, I pre W → Q pre W) (h0 : I [] w)
    (hassign : ∀ (l : Nat) (pre : List α) (x : α) (W : World) (K : Act → World → Prop), I pre W → V pre x → (∀ a' W', KeepsFrom w.heap.size W W' → Kept (w.heap.size + 2) W W' → I pre W' → Ax x a' W' → K a' W') →
      assign.wpIn (F.inRound l) (n - 1 - 1) P (Exit.then K (fun _ _ _ => False)) { tmps := (ps.zip (encs x)).foldl (fun t (p, v) => t.setIfInBounds p v) a.tmps, defers := [] } W)
    (hbody : ∀ (l : Nat) (pre : List α) (x : α) (a' : Act) (W : World), I pre W → V pre x → Ax x a' W → body.wpIn (F.inRound l) (n - 1 - 1) P (ownPostG w.heap.size (Kept (w.heap.size + 2)) I Ix (pre ++ [x]) W) a' W)
    (hdone : ∀ (xs : List α) (W : World) (D : Nat), w.heap.size ≤ D → W.heap[D]? = some (.deferred (some [])) → S xs → I xs W → R .normal { a with defers := { target := .collected D, args := #[] } :: a.defers } W)
    (hstop : ∀ (c : Code) (pre : List α) (W : World) (D : Nat), w.heap.size ≤ D → W.heap[D]? = some (.deferred (some [])) → Ix c pre W → c.wpIn F n P R { a with defers := { target := .collected D, args := #[] } :: a.defers } W) :
    (Code.rangeFunc g ps assign body).wpIn F n P R a w := by
  refine wpIn_rangeFunc fun fn hfn => ?_
  rw [hro]
  have hbk := Book.new w (rcd fn a.tmps ps assign body w.heap.size .ready none)
  have hi0 : I [] ((w.alloc (.deferred (some []))).alloc (.loop (rcd fn a.tmps ps assign body w.heap.size .ready none))) := hI.alloc _ (hI.alloc _ h0)
  have hrun := run_enterLoop_outer (P := P) (w := w) fn a.tmps ps assign body
  change _ = Result.ok _ ((w.alloc (.deferred (some []))).alloc (.loop (rcd fn a.tmps ps assign body w.heap.size .ready none))) at hrun
  have hs2 : ((w.alloc (.deferred (some []))).alloc (.loop (rcd fn a.tmps ps assign body w.heap.size .ready none))).heap.size = w.heap.size + 2 := by simp
  generalize (w.alloc (.deferred (some []))).alloc (.loop (rcd fn a.tmps ps assign body w.heap.size .ready none)) = W1 at hbk hi0 hrun hs2
  have hs1 : w.heap.size ≤ W1.heap.size := by omega
  refine ⟨_, _, W1, { target := .fn (.func gf) lb, args := #[.func (.yield (w.heap.size + 1)) #[] #[]] }, W1, gf, #[.func (.yield (w.heap.size + 1)) #[] #[]] ++ lb, W1, hrun, ?_, ?_, ?_, fun _ => h1, ?_⟩
  · simp only [resolve, hg]
    simp [go_sem]
  · intro f' hf'
    simp [Target.leads] at hf'
    subst hf'
    exact hFg
  · simp [invoke, go_sem, eg]
  · refine (hit (w.heap.size + 1) (fun pre W => I pre W ∧ Book w.heap.size (rcd fn a.tmps ps assign body w.heap.size .ready none) W)
      (fun pre W => ∃ c, Ix c pre W ∧ Book w.heap.size (rcd fn a.tmps ps assign body w.heap.size .done (some c)) W) W1
      (fun pre A B row h hgr hr => ⟨hI pre A B row h.1 hgr (fun r e => ⟨Nat.le_trans hs1 (hr r e).1, (hr r e).2⟩), h.2.grownK hgr (fun r e => hs2 ▸ (hr r e).1)⟩)
      (fun pre A B row h hgr hr => by obtain ⟨c, h1, h2⟩ := h; exact ⟨c, hIx c pre A B row h1 hgr (fun r e => ⟨Nat.le_trans hs1 (hr r e).1, (hr r e).2⟩), h2.grownK hgr (fun r e => hs2 ▸ (hr r e).1)⟩)
      (fun pre A h => hQ pre A h.1)
      (fun pre x A h hv => by
        obtain ⟨fn', t', a1, b1, hy, hR⟩ := roundK hfn hps hI hIx hAx hassign hbody h.1 h.2 hv
        refine ⟨fn', t', a1, b1, hy, hR.mono ?_⟩
        rw [hs2]
        rintro e B (⟨h1, h2, h3, h4⟩ | ⟨h1, c, h2, h3, h4⟩)
        · exact .inl ⟨h1, ⟨h2, h3⟩, h4⟩
        · exact .inr ⟨h1, ⟨c, h2, h3⟩, h4⟩) ⟨hi0, hbk⟩).mono ?_
    rintro e W2 ⟨⟨v, rfl⟩, ⟨xs, hS, hi, hb⟩ | ⟨pre, c, hi, hb⟩⟩
    · exact ⟨none, _, run_endLoop hb.lp (by simp [rcd]), hdone xs _ w.heap.size (Nat.le_refl _) (hb.put _).dfr hS (hI.putObj _ hi (Nat.le_succ _) hb.lp rfl)⟩
    · exact ⟨some c, _, run_endLoop hb.lp (by simp [rcd]), hstop c pre _ w.heap.size (Nat.le_refl _) (hb.put _).dfr ((hIx c).putObj _ hi (Nat.le_succ _) hb.lp rfl)⟩
end Go.Proofs.Ytmnmijiikjpdnaa.rf
