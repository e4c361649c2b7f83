/-
  Plain helpers of this seat's proofs: the mathematics of paying off. Conditions: none.
-/
import Derived.Test.YtchpjojndkkmeaaDoorOut
import Derived.Test.YtchpjojndkkmeaaDoorOd
import Derived.Test.YtchpjojndkkmeaaDoorLn7
namespace Go.Proofs.YtchpjojndkkmeaaDoor.base
open Go.ChangeShapes Go.WideShapes Go.ChangeAt Go.RowKit
open seven (F7 zz Row At)
open pl (inR prOk pok)
open gen
/-- Interest that is not due yet is waived. -/
def wv (d : Int) (s : Int) (x : F7) : F7 × Int := ((x.1, x.2.1, x.2.2.1 - pl.woff d x, x.2.2.2.1, x.2.2.2.2.1, x.2.2.2.2.2.1, x.2.2.2.2.2.2), s + pl.woff d x)
def wvX (d : Int) (x : F7) : F7 := (x.1, x.2.1, x.2.2.1 - pl.woff d x, x.2.2.2.1, x.2.2.2.2.1, x.2.2.2.2.2.1, x.2.2.2.2.2.2)
theorem ml_map {S : Type} {f : S → F7 → F7 × S} {h : F7 → F7} (e : ∀ s x, (f s x).1 = h x) : ∀ (s : S) (l : List F7), (pl.ml f s l).1 = l.map h
  | _, [] => rfl
  | s, x :: l => by simp [pl.ml, e, ml_map e _ l]
theorem getD_map {h : F7 → F7} {l : List F7} {i : Nat} (hi : i < l.length) : (l.map h).getD i zz = h (l.getD i zz) := by
  simp [List.getD_eq_getElem?_getD, List.getElem?_map, List.getElem?_eq_getElem hi]
def wvL (l : List F7) (d : Int) : List F7 := l.map (wvX d)
theorem wvL_get {l : List F7} {d : Int} {i : Nat} (hi : i < l.length) : (wvL l d).getD i zz = wvX d (l.getD i zz) := getD_map hi
theorem wvL_fw (l : List F7) (d : Int) : pl.fw (wv d) 0 l l.length = wvL l d := by rw [pl.fw_all]; exact ml_map (f := wv d) (h := wvX d) (fun _ _ => rfl) 0 l
theorem woff_in {d : Int} {x : F7} (p : pl.Pin x) : 0 ≤ pl.woff d x ∧ pl.woff d x ≤ x.2.2.1 - x.2.2.2.2.2.1 ∧ pl.woff d x ≤ 1000000000000 := by
  have := p.j0; have := p.j1; have := p.i1
  unfold pl.woff; split <;> omega
theorem wvX_pin {d : Int} {x : F7} (p : pl.Pin x) : pl.Pin (wvX d x) := by
  have := woff_in (d := d) p
  obtain ⟨a, b, c, d, e, f, g, h, i, j, k, l, m, n⟩ := p
  unfold wvX
  constructor <;> dsimp only <;> omega
theorem wv_sum {d : Int} {l : List F7} (hp : ∀ i, i < l.length → pl.Pin (l.getD i zz)) : ∀ k, k ≤ l.length → 0 ≤ pl.fs (wv d) 0 l k ∧ pl.fs (wv d) 0 l k ≤ k * 1000000000000
  | 0, _ => by rw [pl.fs_zero]; simp
  | k + 1, hk => by
    have := wv_sum (d := d) hp k (by omega)
    have p := woff_in (d := d) (hp k (by omega))
    rw [pl.fs_succ _ _ (by omega)]
    generalize pl.fs (wv d) 0 l k = S at this ⊢
    unfold wv
    dsimp only
    omega
/-- What is open of a Part. -/
def op (x : F7) : Int := (x.2.2.2.1 - x.2.2.2.2.2.2) + (x.2.2.1 - x.2.2.2.2.2.1) + (x.2.1 - x.2.2.2.2.1)
def opTo (L : List F7) : Nat → Int
  | 0 => 0
  | k + 1 => opTo L k + op (L.getD k zz)
def sm : List (Nat × Int) → Int
  | [] => 0
  | x :: l => x.2 + sm l
theorem sm_app : ∀ a b : List (Nat × Int), sm (a ++ b) = sm a + sm b
  | [], b => by simp [sm]
  | x :: a, b => by simp [sm, sm_app a b]; omega
theorem el_in {i j : Nat} {x : F7} (p : pl.Pin x) : 0 ≤ (el i x j).2 ∧ (el i x j).2 ≤ 1000000000000 := by
  obtain ⟨_, _, _, _, _, _, _, _, _, _, _, _, _, _⟩ := p
  unfold el
  split
  · dsimp only; omega
  · split <;> dsimp only <;> omega
theorem dsTo_sm {i : Nat} {x : F7} (p : pl.Pin x) (j : Nat) : sm (dsTo i x (j + 1)) = sm (dsTo i x j) + (el i x j).2 := by
  have h := el_in (i := i) (j := j) p
  by_cases q : 0 < (el i x j).2
  · rw [dsTo_t q, sm_app]; simp [sm]
  · rw [dsTo_f q]; omega
theorem dsTo_b {i : Nat} {x : F7} (p : pl.Pin x) : ∀ j, 0 ≤ sm (dsTo i x j) ∧ sm (dsTo i x j) ≤ j * 1000000000000
  | 0 => by simp [dsTo, sm]
  | j + 1 => by
    have h := el_in (i := i) (j := j) p
    have k := dsTo_b (i := i) p j
    rw [dsTo_sm p]; omega
theorem dsTo_3 {i : Nat} {x : F7} (p : pl.Pin x) : sm (dsTo i x 3) = op x := by
  rw [dsTo_sm p, dsTo_sm p, dsTo_sm p]
  unfold op el dsTo sm
  simp
theorem DS_sm {L : List F7} (hp : ∀ i, i < L.length → pl.Pin (L.getD i zz)) : ∀ k, k ≤ L.length → sm (DS L k) = opTo L k
  | 0, _ => rfl
  | k + 1, hk => by rw [DS, sm_app, DS_sm hp k (by omega), dsTo_3 (hp k (by omega))]; rfl
theorem opTo_b {L : List F7} (hp : ∀ i, i < L.length → pl.Pin (L.getD i zz)) : ∀ k, k ≤ L.length → 0 ≤ opTo L k ∧ opTo L k ≤ k * 3000000000000
  | 0, _ => by simp [opTo]
  | k + 1, hk => by
    have h := opTo_b hp k (by omega)
    obtain ⟨_, _, _, _, _, _, _, _, _, _, _, _, _, _⟩ := hp k (by omega)
    rw [opTo]; unfold op; omega
theorem Nx_b {L : List F7} (hl : L.length ≤ 24) (hp : ∀ i, i < L.length → pl.Pin (L.getD i zz)) {pre : List (Nat × Int)} {x : Nat × Int} (h : Nx L pre x) : 0 ≤ sm pre ∧ sm pre ≤ 100000000000000 ∧ 0 < x.2 ∧ x.2 ≤ 1000000000000 := by
  obtain ⟨k, j, hk, hj, rfl, rfl, h2⟩ := h
  have a := el_in (i := k) (j := j) (hp k hk)
  have b := dsTo_b (i := k) (hp k hk) j
  have c := opTo_b hp k (by omega)
  rw [sm_app, DS_sm hp k (by omega)]
  omega
/-- What paying off costs. -/
def pfTo (l : List F7) (d : Int) : Nat → Int
  | 0 => 0
  | k + 1 => pfTo l d k + op (wvX d (l.getD k zz))
theorem pf_op {l : List F7} {d : Int} : ∀ k, k ≤ l.length → opTo (wvL l d) k = pfTo l d k
  | 0, _ => rfl
  | k + 1, hk => by rw [opTo, pfTo, pf_op k (by omega), wvL_get (by omega)]
noncomputable def pof (l : List F7) (d : Int) : Int := if pl.pv l && inR d 0 100000 then pfTo l d l.length else -1
theorem pof_t {l : List F7} {d : Int} (h : pl.pv l = true) (k : inR d 0 100000 = true) : pof l d = pfTo l d l.length := by unfold pof; rw [h, k]; rfl
theorem pof_f {l : List F7} {d : Int} (h : pl.pv l = false) : pof l d = -1 := by unfold pof; rw [h]; rfl
theorem pof_g {l : List F7} {d : Int} (h : pl.pv l = true) (k : inR d 0 100000 = false) : pof l d = -1 := by unfold pof; rw [h, k]; rfl
theorem pfTo_b {l : List F7} {d : Int} (hp : ∀ i, i < l.length → pl.Pin (l.getD i zz)) : ∀ k, k ≤ l.length → 0 ≤ pfTo l d k ∧ pfTo l d k ≤ k * 3000000000000
  | 0, _ => by simp [pfTo]
  | k + 1, hk => by
    have h := pfTo_b (d := d) hp k (by omega)
    obtain ⟨_, _, _, _, _, _, _, _, _, _, _, _, _, _⟩ := wvX_pin (d := d) (hp k (by omega))
    rw [pfTo]; unfold op; omega
end Go.Proofs.YtchpjojndkkmeaaDoor.base
