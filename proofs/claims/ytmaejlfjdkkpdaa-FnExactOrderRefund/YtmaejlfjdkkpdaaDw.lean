/-
  Plain helpers of this seat's proofs: the mathematics of decreasing an order. Conditions: none.
-/
import Derived.Test.YtmaejlfjdkkpdaaPy
import Derived.Test.YtmaejlfjdkkpdaaSi
import Derived.Test.YtmaejlfjdkkpdaaWk
namespace Go.Proofs.Ytmaejlfjdkkpdaa.wk
variable {α S : Type} (z : α)
theorem mr_nth (f : S → α → α × S) (s : S) : ∀ (l : List α) (i : Nat), i < l.length → (mr f s l).1.getD i z = (f (mr f s (l.drop (i + 1))).2 (l.getD i z)).1
  | [], i, h => absurd h (by simp)
  | x :: l, 0, _ => by simp [mr]
  | x :: l, i + 1, h => by
    have := mr_nth f s l i (by simpa using h)
    simpa [mr] using this
theorem bw_nth (f : S → α → α × S) (s : S) {l : List α} {i : Nat} (h : i < l.length) : (bw f s l 0).getD i z = (f (bs f s l (i + 1)) (l.getD i z)).1 := by
  rw [bw_zero]; unfold bs; exact mr_nth z f s l i h
end Go.Proofs.Ytmaejlfjdkkpdaa.wk
namespace Go.Proofs.Ytmaejlfjdkkpdaa.ob
open Go.ChangeShapes Go.WideShapes Go.ChangeAt Go.RowKit
open gen
open seven (F7 zz Row At)
open four (F4)
open pl (inR)
open pls (nth Pls OL)
open ord (Sc iok)
/-- Changing one plan with what is left. -/
noncomputable def stD (g : Int → F7 → F7 × Int) (n : Int) (q : List F7) : List F7 × Int := (base.bkL g q n, base.bkN g q n)
noncomputable def dL (g : Int → F7 → F7 × Int) (p : List (List F7)) (n : Int) : List (List F7) := wk.bw (stD g) n p 0
noncomputable def dN (g : Int → F7 → F7 × Int) (p : List (List F7)) (n : Int) : Int := wk.bs (stD g) n p 0
def Gd (g : Int → F7 → F7 × Int) : Prop := ∀ x m, pl.Pin x → 0 ≤ m → 0 ≤ (g m x).2 ∧ (g m x).2 ≤ m
theorem gd_cut : Gd pl.cut := fun _ _ h k => base.cut_b h k
theorem gd_back : Gd pl.back := fun _ _ h k => base.back_b h k
theorem dk_in {g : Int → F7 → F7 × Int} (hg : Gd g) {q : List F7} {n : Int} (h : pl.pv q = true) (h0 : 0 ≤ n) (h1 : n ≤ 1000000000000) : base.pyOk q n = true ∧ 0 ≤ base.bkN g q n ∧ base.bkN g q n ≤ n := by
  have ok : base.pyOk q n = true := by unfold base.pyOk; rw [h, Bool.true_and]; exact pl.inR_iff.2 ⟨h0, h1⟩
  refine ⟨ok, ?_⟩
  rw [(base.bk_yes ok).2]
  exact base.bs_b (fun x m hx hm => hg x m hx hm) (fun i hi => (pl.pv_iff.1 h).pin hi) h0 (Nat.zero_le _)
theorem dk_bs {g : Int → F7 → F7 × Int} (hg : Gd g) {n : Int} (h0 : 0 ≤ n) (h1 : n ≤ 1000000000000) {p : List (List F7)} (hp : ord.PVs p) : ∀ j k, k + j = p.length → 0 ≤ wk.bs (stD g) n p k ∧ wk.bs (stD g) n p k ≤ n
  | 0, k, e => by obtain rfl : k = p.length := by omega
                  rw [wk.bs_all]; exact ⟨h0, Int.le_refl _⟩
  | j + 1, k, e => by
    obtain ⟨a, b⟩ := dk_bs hg h0 h1 hp j (k + 1) (by omega)
    rw [wk.bs_succ [] (stD g) n (show k < p.length by omega)]
    obtain ⟨_, c, d⟩ := dk_in hg (hp k (by omega)) a (by omega)
    show 0 ≤ base.bkN g (p.getD k []) _ ∧ base.bkN g (p.getD k []) _ ≤ n
    exact ⟨c, by omega⟩
theorem pbw_nth (f : Int → F7 → F7 × Int) (s : Int) {l : List F7} {i : Nat} (h : i < l.length) : (pl.bw f s l 0).getD i zz = (f (pl.bs f s l (i + 1)) (l.getD i zz)).1 := by
  have e : ∀ (l : List F7), pl.mr f s l = wk.mr f s l := fun l => by
    induction l with
    | nil => rfl
    | cons x l ih => simp only [pl.mr, wk.mr, ih]
  rw [pl.bw_zero]; unfold pl.bs; rw [e, e]; exact wk.mr_nth zz f s l i h
theorem pv_cut {q : List F7} {n : Int} (h : pl.pv q = true) (h0 : 0 ≤ n) (h1 : n ≤ 1000000000000) : pl.pv (base.bkL pl.cut q n) = true := by
  obtain ⟨ok, -⟩ := dk_in gd_cut h h0 h1
  rw [(base.bk_yes ok).1]
  have V := pl.pv_iff.1 h
  refine pl.pv_iff.2 ⟨by rw [pl.bw_len]; exact V.1, fun i hi => ?_⟩
  rw [pl.bw_len] at hi
  have B : ∀ k, k ≤ q.length → 0 ≤ pl.bs pl.cut n q k := fun k hk => (base.bs_b (fun x m hx hm => base.cut_b hx hm) (fun i hi => V.pin hi) h0 hk).1
  refine ⟨?_, fun hp => ?_⟩
  · rw [pbw_nth _ _ hi]
    have P := V.pin hi
    have b := B (i + 1) hi
    obtain ⟨a1, a2, a3, a4, a5, a6, a7, a8, a9, a10, a11, a12, a13, a14⟩ := P
    refine pl.pok_iff.2 ?_
    generalize pl.bs pl.cut n q (i + 1) = S at b ⊢
    unfold pl.cut
    constructor <;> dsimp only <;> omega
  · rw [pbw_nth _ _ hi, pbw_nth _ _ (show i - 1 < q.length by omega)]
    exact (V.2 i hi).up hp
theorem PVs_cut {p : List (List F7)} {n : Int} (h : ord.PVs p) (h0 : 0 ≤ n) (h1 : n ≤ 1000000000000) : ord.PVs (dL pl.cut p n) := fun i hi => by
  unfold dL at hi ⊢
  rw [wk.bw_len] at hi
  rw [wk.bw_nth [] _ _ hi]
  obtain ⟨a, b⟩ := dk_bs gd_cut h0 h1 h (p.length - (i + 1)) (i + 1) (by omega)
  exact pv_cut (h i hi) a (by omega)
theorem dN_in {g : Int → F7 → F7 × Int} (hg : Gd g) {n : Int} (h0 : 0 ≤ n) (h1 : n ≤ 1000000000000) {p : List (List F7)} (hp : ord.PVs p) : 0 ≤ dN g p n ∧ dN g p n ≤ n := dk_bs hg h0 h1 hp p.length 0 (by omega)
theorem dL_len (g : Int → F7 → F7 × Int) (p : List (List F7)) (n : Int) : (dL g p n).length = p.length := wk.bw_len _ _ _ _
theorem dL_short {g : Int → F7 → F7 × Int} {p : List (List F7)} {n : Int} (h : ∀ i, i < p.length → (nth p i).length ≤ 24) : ∀ i, i < p.length → (nth (dL g p n) i).length ≤ 24 := fun i hi => by
  unfold nth dL
  rw [wk.bw_nth [] _ _ hi]
  exact Nat.le_trans (base.bkL_len _ _ _) (h i hi)
end Go.Proofs.Ytmaejlfjdkkpdaa.ob
