/-
  Plain helpers of this seat's proofs: a range over a function that writes a box of its own (laid ahead of the statement) between its rounds. Conditions: none.
-/
import Derived.Test.YtpogfdeioibkdaaGreatDoorGen
import Derived.RangeFuncNested
import Derived.RangeFuncBound
import Derived.RangeFuncLeaves
namespace Go.Proofs.YtpogfdeioibkdaaGreatDoor.rf
open Go.ChangeShapes Go.WideShapes Go.ChangeAt Go.RowKit
variable {F : Fence} {n : Nat} {P : Program}
/-- What a function does that is ranged over: while the rounds keep Q, it hands them what V lets, one by one, and ends with a list of S. -/
def Iter {α : Type} (F : Fence) (n : Nat) (P : Program) (g : Nat) (lb : Array Value) (encs : α → Array Value) (Q : List α → World → Prop) (V : List α → α → Prop) (S : List α → Prop) : Prop :=
  ∀ (l : Nat) (J Jx : List α → World → Prop) (W : World), (∀ pre A B, J pre A → A.grownBy B none → J pre B) → (∀ pre A, J pre A → Q pre A) →
    (∀ pre x A, J pre A → V pre x → YieldAt F (n - 1) P l (encs x) A fun e B => (e = .returned (.bool true) ∧ J (pre ++ [x]) B) ∨ (e = .returned (.bool false) ∧ Jx (pre ++ [x]) B)) →
    J [] W → CallsIn F n P g (#[.func (.yield l) #[] #[]] ++ lb) W fun e B => (∃ v, e = .returned v) ∧ ((∃ xs, S xs ∧ J xs B) ∨ ∃ pre, Jx pre B)

/-- The record of the loop and the block for deferred calls, as the loop lays them. -/
def rcd (fn : FuncId) (tm : Array Value) (ps : Array Tmp) (assign body : Code) (D : Nat) (st : LoopState) (pe : Option Code) : Loop := { state := st, pending := pe, fn := fn, tmps := tm, params := ps, assign := assign, body := body, defers := D }
structure Book (D : Nat) (r : Loop) (W : World) : Prop where
  lp : W.heap[D + 1]? = some (.loop r)
  dfr : W.heap[D]? = some (.deferred (some []))
theorem Book.lt {D : Nat} {r : Loop} {W : World} (h : Book D r W) : D + 1 < W.heap.size := (Array.getElem?_eq_some_iff.1 h.lp).1
theorem Book.grown {D : Nat} {r : Loop} {A B : World} (h : Book D r A) (hg : A.grownBy B none) : Book D r B :=
  ⟨(hg.block _ h.lt (by simp)).trans h.lp, (hg.block _ (Nat.lt_of_succ_lt h.lt) (by simp)).trans h.dfr⟩
theorem Book.kept {D : Nat} {r : Loop} {A B : World} (h : Book D r A) (hk : KeepsFrom D A B) : Book D r B :=
  ⟨hk.same _ _ (Nat.le_succ _) h.lp rfl, hk.same _ _ (Nat.le_refl _) h.dfr rfl⟩
theorem Book.put {D : Nat} {r : Loop} {A : World} (h : Book D r A) (r' : Loop) : Book D r' (A.putObj (D + 1) (.loop r')) :=
  ⟨World.putObj_heap_same h.lt, (World.putObj_heap_other (by omega)).trans h.dfr⟩
theorem Book.new (w : World) (r : Loop) : Book w.heap.size r ((w.alloc (.deferred (some []))).alloc (.loop r)) := by
  refine ⟨?_, (Below.heap_alloc _ _ _ (by simp)).trans (World.alloc_heap_new w _)⟩
  have := World.alloc_heap_new (w.alloc (.deferred (some []))) (.loop r)
  rwa [World.size_alloc] at this

section
variable {α : Type} {ps : Array Tmp} {assign body : Code} {fn : FuncId} {tm : Array Value} {encs : α → Array Value} {V : List α → α → Prop} {D : Nat} {I : List α → World → Prop} {Ix : Code → List α → World → Prop} {Ax : α → Act → World → Prop}
/-- How a round ends, the record with it. -/
theorem round_end (hI : OwnFrom D I) (hIx : ∀ c, OwnFrom D (Ix c)) {xs : List α} {A : World} (hb : Book D (rcd fn tm ps assign body D .busy none) A) :
    ∀ e a' B, ownPostG D (fun _ _ => True) I Ix xs A e a' B → roundPost P (D + 1) (fun e B =>
      (e = .returned (.bool true) ∧ I xs B ∧ Book D (rcd fn tm ps assign body D .ready none) B) ∨
      (e = .returned (.bool false) ∧ ∃ c, Ix c xs B ∧ Book D (rcd fn tm ps assign body D .done (some c)) B)) e a' B := by
  intro e a' B h
  cases e with
  | normal =>
    obtain ⟨hk, _, hi⟩ := h
    have b2 := hb.kept hk
    exact ⟨_, _, run_endRound none b2.lp, .inl ⟨rfl, hI.putObj _ hi (Nat.le_succ _) b2.lp rfl, b2.put _⟩⟩
  | ret =>
    obtain ⟨hk, hi⟩ := h
    have b2 := hb.kept hk
    exact ⟨_, _, run_endRound (some .ret) b2.lp, .inr ⟨rfl, .ret, (hIx _).putObj _ hi (Nat.le_succ _) b2.lp rfl, b2.put _⟩⟩
  | exit id =>
    obtain ⟨hk, hi⟩ := h
    have b2 := hb.kept hk
    exact ⟨_, _, run_endRound (some (.exit id)) b2.lp, .inr ⟨rfl, .exit id, (hIx _).putObj _ hi (Nat.le_succ _) b2.lp rfl, b2.put _⟩⟩
  | goto t =>
    obtain ⟨hk, hi⟩ := h
    have b2 := hb.kept hk
    exact ⟨_, _, run_endRound (some (.goto t)) b2.lp, .inr ⟨rfl, .goto t, (hIx _).putObj _ hi (Nat.le_succ _) b2.lp rfl, b2.put _⟩⟩
  | panic c => exact h.elim
  | outgrown => exact h.elim
/-- One round. -/
theorem round (hfn : F.fn fn) (hps : ∀ x, (encs x).size = ps.size) (hI : OwnFrom D I) (hIx : ∀ c, OwnFrom D (Ix c)) (hAx : ∀ x a', OwnFrom D (fun (_ : Unit) W => Ax x a' W)) {m : Nat}
    (hassign : ∀ (l : Nat) (pre : List α) (x : α) (W : World) (K : Act → World → Prop), I pre W → V pre x → (∀ a' W', KeepsFrom D W W' → I pre W' → Ax x a' W' → K a' W') →
      assign.wpIn (F.inRound l) m P (Exit.then K (fun _ _ _ => False)) { tmps := (ps.zip (encs x)).foldl (fun t (p, v) => t.setIfInBounds p v) tm, defers := [] } W)
    (hbody : ∀ (l : Nat) (pre : List α) (x : α) (a' : Act) (W : World), I pre W → V pre x → Ax x a' W → body.wpIn (F.inRound l) m P (ownPostG D (fun _ _ => True) I Ix (pre ++ [x]) W) a' W)
    {pre : List α} {x : α} {A : World} (hi : I pre A) (hb : Book D (rcd fn tm ps assign body D .ready none) A) (hv : V pre x) :
    YieldAt F m P (D + 1) (encs x) A fun e B => (e = .returned (.bool true) ∧ I (pre ++ [x]) B ∧ Book D (rcd fn tm ps assign body D .ready none) B) ∨
      (e = .returned (.bool false) ∧ ∃ c, Ix c (pre ++ [x]) B ∧ Book D (rcd fn tm ps assign body D .done (some c)) B) := by
  refine ⟨fn, _, assign, body, run_yield (args := encs x) hb.lp (hps x), roundIn_of_wpIn hfn (hassign _ pre x A _ hi hv ?_)⟩
  intro a' W hk hi' hax
  have b1 := hb.kept hk
  refine ⟨_, run_beginRound b1.lp rfl, ?_⟩
  exact wpIn_mono (hbody _ pre x a' _ (hI.putObj _ hi' (Nat.le_succ _) b1.lp rfl) hv ((hAx x a').putObj (s := ()) _ hax (Nat.le_succ _) b1.lp rfl)) (round_end hI hIx (b1.put _))
end
/-- The statement. -/
theorem range {α : Type} {g : Operand} {ps : Array Tmp} {assign body : Code} {R : Exit → Act → World → Prop} {a : Act} {w : World} (hro : F.round = none) (h1 : 1 ≤ n) {gf : Nat} {lb : Array Value} (hg : a.eval g = .func (.func gf) #[] lb) (hFg : F.fn gf)
    (eg : ∀ args w, (callFunc gf args).run P w = .ok (.enter gf args) w) {encs : α → Array Value} {Q : List α → World → Prop} {V : List α → α → Prop} {S : List α → Prop} (hit : Iter F (n - 1) P gf lb encs Q V S) (hps : ∀ x, (encs x).size = ps.size)
    (I : List α → World → Prop) (Ix : Code → List α → World → Prop) (Ax : α → Act → World → Prop) (hI : OwnFrom w.heap.size I) (hIx : ∀ c, OwnFrom w.heap.size (Ix c)) (hAx : ∀ x a', OwnFrom w.heap.size (fun (_ : Unit) W => Ax x a' W)) (hQ : ∀ pre W, I pre W → Q pre W) (h0 : I [] w)
    (hassign : ∀ (l : Nat) (pre : List α) (x : α) (W : World) (K : Act → World → Prop), I pre W → V pre x → (∀ a' W', KeepsFrom w.heap.size W W' → I pre W' → Ax x a' W' → K a' W') →
      assign.wpIn (F.inRound l) (n - 1 - 1) P (Exit.then K (fun _ _ _ => False)) { tmps := (ps.zip (encs x)).foldl (fun t (p, v) => t.setIfInBounds p v) a.tmps, defers := [] } W)
    (hbody : ∀ (l : Nat) (pre : List α) (x : α) (a' : Act) (W : World), I pre W → V pre x → Ax x a' W → body.wpIn (F.inRound l) (n - 1 - 1) P (ownPostG w.heap.size (fun _ _ => True) I Ix (pre ++ [x]) W) a' W)
    (hdone : ∀ (xs : List α) (W : World) (D : Nat), w.heap.size ≤ D → W.heap[D]? = some (.deferred (some [])) → S xs → I xs W → R .normal { a with defers := { target := .collected D, args := #[] } :: a.defers } W)
    (hstop : ∀ (c : Code) (pre : List α) (W : World) (D : Nat), w.heap.size ≤ D → W.heap[D]? = some (.deferred (some [])) → Ix c pre W → c.wpIn F n P R { a with defers := { target := .collected D, args := #[] } :: a.defers } W) :
    (Code.rangeFunc g ps assign body).wpIn F n P R a w := by
  refine wpIn_rangeFunc fun fn hfn => ?_
  rw [hro]
  have hbk := Book.new w (rcd fn a.tmps ps assign body w.heap.size .ready none)
  have hi0 : I [] ((w.alloc (.deferred (some []))).alloc (.loop (rcd fn a.tmps ps assign body w.heap.size .ready none))) := hI.alloc _ (hI.alloc _ h0)
  have hrun := run_enterLoop_outer (P := P) (w := w) fn a.tmps ps assign body
  change _ = Result.ok _ ((w.alloc (.deferred (some []))).alloc (.loop (rcd fn a.tmps ps assign body w.heap.size .ready none))) at hrun
  generalize (w.alloc (.deferred (some []))).alloc (.loop (rcd fn a.tmps ps assign body w.heap.size .ready none)) = W1 at hbk hi0 hrun
  refine ⟨_, _, W1, { target := .fn (.func gf) lb, args := #[.func (.yield (w.heap.size + 1)) #[] #[]] }, W1, gf, #[.func (.yield (w.heap.size + 1)) #[] #[]] ++ lb, W1, hrun, ?_, ?_, ?_, fun _ => h1, ?_⟩
  · simp only [resolve, hg]
    simp [go_sem]
  · intro f' hf'
    simp [Target.leads] at hf'
    subst hf'
    exact hFg
  · simp [invoke, go_sem, eg]
  · refine (hit (w.heap.size + 1) (fun pre W => I pre W ∧ Book w.heap.size (rcd fn a.tmps ps assign body w.heap.size .ready none) W)
      (fun pre W => ∃ c, Ix c pre W ∧ Book w.heap.size (rcd fn a.tmps ps assign body w.heap.size .done (some c)) W) W1
      (fun pre A B h hgr => ⟨hI pre A B none h.1 hgr (fun r e => by cases e), h.2.grown hgr⟩) (fun pre A h => hQ pre A h.1)
      (fun pre x A h hv => round hfn hps hI hIx hAx hassign hbody h.1 h.2 hv) ⟨hi0, hbk⟩).mono ?_
    rintro e W2 ⟨⟨v, rfl⟩, ⟨xs, hS, hi, hb⟩ | ⟨pre, c, hi, hb⟩⟩
    · exact ⟨none, _, run_endLoop hb.lp (by simp [rcd]), hdone xs _ w.heap.size (Nat.le_refl _) (hb.put _).dfr hS (hI.putObj _ hi (Nat.le_succ _) hb.lp rfl)⟩
    · exact ⟨some c, _, run_endLoop hb.lp (by simp [rcd]), hstop c pre _ w.heap.size (Nat.le_refl _) (hb.put _).dfr ((hIx c).putObj _ hi (Nat.le_succ _) hb.lp rfl)⟩
end Go.Proofs.YtpogfdeioibkdaaGreatDoor.rf

namespace Go.Proofs.YtpogfdeioibkdaaGreatDoor.rf
open Go.ChangeShapes Go.WideShapes Go.ChangeAt Go.RowKit
variable {F : Fence} {n : Nat} {P : Program}
/-- Block b lies as it lay. -/
def Sm (b : Nat) (A B : World) : Prop := B.heap[b]? = A.heap[b]?
theorem Sm.trans {b : Nat} {A B C : World} (h : Sm b A B) (k : Sm b B C) : Sm b A C := Eq.trans k h
theorem Sm.put {b : Nat} {A : World} {r : Nat} (o : Obj) (h : r ≠ b) : Sm b A (A.putObj r o) := World.putObj_heap_other (by omega)
/-- What a function does that is ranged over and that writes its box Bs between the rounds. -/
def IterB {α : Type} (F : Fence) (n : Nat) (P : Program) (g : Nat) (lb : Array Value) (encs : α → Array Value) (Bs : Nat) (v0 : Value) (V : List α → α → Prop) (S : List α → Prop) : Prop :=
  ∀ (l : Nat) (J Jx : List α → World → Prop) (W : World), (∀ pre A B, J pre A → A.grownBy B none → J pre B) → (∀ pre A v, J pre A → J pre (A.setCell ⟨Bs, 0, none⟩ v)) →
    (∀ pre x A, J pre A → V pre x → YieldAt F (n - 1) P l (encs x) A fun e B => (e = .returned (.bool true) ∧ J (pre ++ [x]) B ∧ Sm Bs A B) ∨ (e = .returned (.bool false) ∧ Jx (pre ++ [x]) B)) →
    J [] W → W.cell? ⟨Bs, 0, none⟩ = some v0 → W.frozen? ⟨Bs, 0, none⟩ = false → CallsIn F n P g (#[.func (.yield l) #[] #[]] ++ lb) W fun e B => (∃ v, e = .returned v) ∧ ((∃ xs, S xs ∧ J xs B) ∨ ∃ pre, Jx pre B)
theorem Book.set {D : Nat} {r : Loop} {A : World} (h : Book D r A) {b : Nat} (hb : b < D) (v : Value) : Book D r (A.setCell ⟨b, 0, none⟩ v) :=
  ⟨(Below.heap_setCell A ⟨b, 0, none⟩ v (D + 1) (by show D + 1 ≠ b; omega)).trans h.lp, (Below.heap_setCell A ⟨b, 0, none⟩ v D (by show D ≠ b; omega)).trans h.dfr⟩
theorem roundPost_monoB {l : Nat} {R R' : Ending → World → Prop} (h : ∀ e w, R e w → R' e w) : ∀ e a w, roundPost P l R e a w → roundPost P l R' e a w := by
  intro e a w hp
  cases e <;> first
    | (obtain ⟨x, y, h1, h2⟩ := hp; exact ⟨x, y, h1, h _ _ h2⟩)
    | exact hp
    | exact h _ _ hp
section
variable {α : Type} {ps : Array Tmp} {assign body : Code} {fn : FuncId} {tm : Array Value} {encs : α → Array Value} {V : List α → α → Prop} {D : Nat} {I : List α → World → Prop} {Ix : Code → List α → World → Prop} {Ax : α → Act → World → Prop}
/-- How a round ends, the record with it. -/
theorem round_endB {Bs : Nat} (hBs : Bs < D) (hI : OwnFrom D I) (hIx : ∀ c, OwnFrom D (Ix c)) {xs : List α} {A : World} (hb : Book D (rcd fn tm ps assign body D .busy none) A) :
    ∀ e a' B, ownPostG D (Sm Bs) I Ix xs A e a' B → roundPost P (D + 1) (fun e B =>
      (e = .returned (.bool true) ∧ I xs B ∧ Book D (rcd fn tm ps assign body D .ready none) B ∧ Sm Bs A B) ∨
      (e = .returned (.bool false) ∧ ∃ c, Ix c xs B ∧ Book D (rcd fn tm ps assign body D .done (some c)) B)) e a' B := by
  intro e a' B h
  cases e with
  | normal =>
    obtain ⟨hk, hsm, hi⟩ := h
    have b2 := hb.kept hk
    exact ⟨_, _, run_endRound none b2.lp, .inl ⟨rfl, hI.putObj _ hi (Nat.le_succ _) b2.lp rfl, b2.put _, hsm.trans (Sm.put _ (by omega))⟩⟩
  | ret =>
    obtain ⟨hk, hi⟩ := h
    have b2 := hb.kept hk
    exact ⟨_, _, run_endRound (some .ret) b2.lp, .inr ⟨rfl, .ret, (hIx _).putObj _ hi (Nat.le_succ _) b2.lp rfl, b2.put _⟩⟩
  | exit id =>
    obtain ⟨hk, hi⟩ := h
    have b2 := hb.kept hk
    exact ⟨_, _, run_endRound (some (.exit id)) b2.lp, .inr ⟨rfl, .exit id, (hIx _).putObj _ hi (Nat.le_succ _) b2.lp rfl, b2.put _⟩⟩
  | goto t =>
    obtain ⟨hk, hi⟩ := h
    have b2 := hb.kept hk
    exact ⟨_, _, run_endRound (some (.goto t)) b2.lp, .inr ⟨rfl, .goto t, (hIx _).putObj _ hi (Nat.le_succ _) b2.lp rfl, b2.put _⟩⟩
  | panic c => exact h.elim
  | outgrown => exact h.elim
/-- One round. -/
theorem roundB {Bs : Nat} (hBs : Bs < D) (hfn : F.fn fn) (hps : ∀ x, (encs x).size = ps.size) (hI : OwnFrom D I) (hIx : ∀ c, OwnFrom D (Ix c)) (hAx : ∀ x a', OwnFrom D (fun (_ : Unit) W => Ax x a' W)) {m : Nat}
    (hassign : ∀ (l : Nat) (pre : List α) (x : α) (W : World) (K : Act → World → Prop), I pre W → V pre x → (∀ a' W', KeepsFrom D W W' → Sm Bs W W' → I pre W' → Ax x a' W' → K a' W') →
      assign.wpIn (F.inRound l) m P (Exit.then K (fun _ _ _ => False)) { tmps := (ps.zip (encs x)).foldl (fun t (p, v) => t.setIfInBounds p v) tm, defers := [] } W)
    (hbody : ∀ (l : Nat) (pre : List α) (x : α) (a' : Act) (W : World), I pre W → V pre x → Ax x a' W → body.wpIn (F.inRound l) m P (ownPostG D (Sm Bs) I Ix (pre ++ [x]) W) a' W)
    {pre : List α} {x : α} {A : World} (hi : I pre A) (hb : Book D (rcd fn tm ps assign body D .ready none) A) (hv : V pre x) :
    YieldAt F m P (D + 1) (encs x) A fun e B => (e = .returned (.bool true) ∧ I (pre ++ [x]) B ∧ Book D (rcd fn tm ps assign body D .ready none) B ∧ Sm Bs A B) ∨
      (e = .returned (.bool false) ∧ ∃ c, Ix c (pre ++ [x]) B ∧ Book D (rcd fn tm ps assign body D .done (some c)) B) := by
  refine ⟨fn, _, assign, body, run_yield (args := encs x) hb.lp (hps x), roundIn_of_wpIn hfn (hassign _ pre x A _ hi hv ?_)⟩
  intro a' W hk hsm hi' hax
  have b1 := hb.kept hk
  refine ⟨_, run_beginRound b1.lp rfl, ?_⟩
  have k1 : Sm Bs A (W.putObj (D + 1) (.loop (rcd fn tm ps assign body D .busy none))) := hsm.trans (Sm.put _ (by omega))
  refine wpIn_mono (hbody _ pre x a' _ (hI.putObj _ hi' (Nat.le_succ _) b1.lp rfl) hv ((hAx x a').putObj (s := ()) _ hax (Nat.le_succ _) b1.lp rfl)) fun e a' B h => ?_
  refine roundPost_monoB ?_ _ _ _ (round_endB hBs hI hIx (b1.put _) e a' B h)
  rintro e B (⟨h1, h2, h3, h4⟩ | ⟨h1, h2⟩)
  · exact .inl ⟨h1, h2, h3, k1.trans h4⟩
  · exact .inr ⟨h1, h2⟩
end
/-- The statement. -/
theorem rangeB {α : Type} {g : Operand} {ps : Array Tmp} {assign body : Code} {R : Exit → Act → World → Prop} {a : Act} {w : World} (hro : F.round = none) (h1 : 1 ≤ n) {gf : Nat} {lb : Array Value} (hg : a.eval g = .func (.func gf) #[] lb) (hFg : F.fn gf)
    (eg : ∀ args w, (callFunc gf args).run P w = .ok (.enter gf args) w) {encs : α → Array Value} {Bs : Nat} {v0 : Value} {V : List α → α → Prop} {S : List α → Prop} (hit : IterB F (n - 1) P gf lb encs Bs v0 V S) (hBs : Bs < w.heap.size) (hv0 : w.cell? ⟨Bs, 0, none⟩ = some v0) (hf0 : w.frozen? ⟨Bs, 0, none⟩ = false) (hps : ∀ x, (encs x).size = ps.size)
    (I : List α → World → Prop) (Ix : Code → List α → World → Prop) (Ax : α → Act → World → Prop) (hI : OwnFrom w.heap.size I) (hIx : ∀ c, OwnFrom w.heap.size (Ix c)) (hAx : ∀ x a', OwnFrom w.heap.size (fun (_ : Unit) W => Ax x a' W)) (hS : ∀ pre W v, I pre W → I pre (W.setCell ⟨Bs, 0, none⟩ v)) (h0 : I [] w)
    (hassign : ∀ (l : Nat) (pre : List α) (x : α) (W : World) (K : Act → World → Prop), I pre W → V pre x → (∀ a' W', KeepsFrom w.heap.size W W' → Sm Bs W W' → I pre W' → Ax x a' W' → K a' W') →
      assign.wpIn (F.inRound l) (n - 1 - 1) P (Exit.then K (fun _ _ _ => False)) { tmps := (ps.zip (encs x)).foldl (fun t (p, v) => t.setIfInBounds p v) a.tmps, defers := [] } W)
    (hbody : ∀ (l : Nat) (pre : List α) (x : α) (a' : Act) (W : World), I pre W → V pre x → Ax x a' W → body.wpIn (F.inRound l) (n - 1 - 1) P (ownPostG w.heap.size (Sm Bs) I Ix (pre ++ [x]) W) a' W)
    (hdone : ∀ (xs : List α) (W : World) (D : Nat), w.heap.size ≤ D → W.heap[D]? = some (.deferred (some [])) → S xs → I xs W → R .normal { a with defers := { target := .collected D, args := #[] } :: a.defers } W)
    (hstop : ∀ (c : Code) (pre : List α) (W : World) (D : Nat), w.heap.size ≤ D → W.heap[D]? = some (.deferred (some [])) → Ix c pre W → c.wpIn F n P R { a with defers := { target := .collected D, args := #[] } :: a.defers } W) :
    (Code.rangeFunc g ps assign body).wpIn F n P R a w := by
  refine wpIn_rangeFunc fun fn hfn => ?_
  rw [hro]
  have hbk := Book.new w (rcd fn a.tmps ps assign body w.heap.size .ready none)
  have hi0 : I [] ((w.alloc (.deferred (some []))).alloc (.loop (rcd fn a.tmps ps assign body w.heap.size .ready none))) := hI.alloc _ (hI.alloc _ h0)
  have hrun := run_enterLoop_outer (P := P) (w := w) fn a.tmps ps assign body
  change _ = Result.ok _ ((w.alloc (.deferred (some []))).alloc (.loop (rcd fn a.tmps ps assign body w.heap.size .ready none))) at hrun
  have hb1 : ((w.alloc (.deferred (some []))).alloc (.loop (rcd fn a.tmps ps assign body w.heap.size .ready none))).heap[Bs]? = w.heap[Bs]? := (Below.heap_alloc _ _ _ (by simp; omega)).trans (Below.heap_alloc _ _ _ hBs)
  have hc1 := (World.cell?_of_block (w := w) (a := ⟨Bs, 0, none⟩) hb1).trans hv0
  have hc2 := (World.frozen?_of_block (w := w) (a := ⟨Bs, 0, none⟩) hb1).trans hf0
  generalize (w.alloc (.deferred (some []))).alloc (.loop (rcd fn a.tmps ps assign body w.heap.size .ready none)) = W1 at hbk hi0 hrun hc1 hc2
  refine ⟨_, _, W1, { target := .fn (.func gf) lb, args := #[.func (.yield (w.heap.size + 1)) #[] #[]] }, W1, gf, #[.func (.yield (w.heap.size + 1)) #[] #[]] ++ lb, W1, hrun, ?_, ?_, ?_, fun _ => h1, ?_⟩
  · simp only [resolve, hg]
    simp [go_sem]
  · intro f' hf'
    simp [Target.leads] at hf'
    subst hf'
    exact hFg
  · simp [invoke, go_sem, eg]
  · refine (hit (w.heap.size + 1) (fun pre W => I pre W ∧ Book w.heap.size (rcd fn a.tmps ps assign body w.heap.size .ready none) W)
      (fun pre W => ∃ c, Ix c pre W ∧ Book w.heap.size (rcd fn a.tmps ps assign body w.heap.size .done (some c)) W) W1
      (fun pre A B h hgr => ⟨hI pre A B none h.1 hgr (fun r e => by cases e), h.2.grown hgr⟩) (fun pre A v h => ⟨hS pre A v h.1, h.2.set hBs v⟩)
      (fun pre x A h hv => by
        obtain ⟨fn', t', a1, b1, hy, hR⟩ := roundB hBs hfn hps hI hIx hAx hassign hbody h.1 h.2 hv
        refine ⟨fn', t', a1, b1, hy, hR.mono ?_⟩
        rintro e B (⟨h1, h2, h3, h4⟩ | ⟨h1, c, h2, h3⟩)
        · exact .inl ⟨h1, ⟨h2, h3⟩, h4⟩
        · exact .inr ⟨h1, ⟨c, h2, h3⟩⟩) ⟨hi0, hbk⟩ hc1 hc2).mono ?_
    rintro e W2 ⟨⟨v, rfl⟩, ⟨xs, hS, hi, hb⟩ | ⟨pre, c, hi, hb⟩⟩
    · exact ⟨none, _, run_endLoop hb.lp (by simp [rcd]), hdone xs _ w.heap.size (Nat.le_refl _) (hb.put _).dfr hS (hI.putObj _ hi (Nat.le_succ _) hb.lp rfl)⟩
    · exact ⟨some c, _, run_endLoop hb.lp (by simp [rcd]), hstop c pre _ w.heap.size (Nat.le_refl _) (hb.put _).dfr ((hIx c).putObj _ hi (Nat.le_succ _) hb.lp rfl)⟩
end Go.Proofs.YtpogfdeioibkdaaGreatDoor.rf
