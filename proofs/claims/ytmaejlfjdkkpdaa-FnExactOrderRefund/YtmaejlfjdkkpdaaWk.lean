/-
  Plain helpers of this seat's proofs: walks over lists that hand a state on. Conditions: none.
-/
import Derived.Test.YtmaejlfjdkkpdaaGen
namespace Go.Proofs.Ytmaejlfjdkkpdaa.wk
variable {α S : Type} (z : α)
/-- A walk over a list that hands a state on, from the first one to the last one. -/
def ml (f : S → α → α × S) : S → List α → List α × S
  | s, [] => ([], s)
  | s, x :: l => ((f s x).1 :: (ml f (f s x).2 l).1, (ml f (f s x).2 l).2)
/-- The same, from the last one to the first one. -/
def mr (f : S → α → α × S) (s : S) : List α → List α × S
  | [] => ([], s)
  | x :: l => ((f (mr f s l).2 x).1 :: (mr f s l).1, (f (mr f s l).2 x).2)
theorem ml_len (f : S → α → α × S) : ∀ (s : S) (l : List α), (ml f s l).1.length = l.length
  | _, [] => rfl
  | s, x :: l => by simp [ml, ml_len f _ l]
theorem mr_len (f : S → α → α × S) (s : S) : ∀ (l : List α), (mr f s l).1.length = l.length
  | [] => rfl
  | x :: l => by simp [mr, mr_len f s l]
theorem ml_snoc (f : S → α → α × S) : ∀ (s : S) (l : List α) (x : α), ml f s (l ++ [x]) = ((ml f s l).1 ++ [(f (ml f s l).2 x).1], (f (ml f s l).2 x).2)
  | _, [], _ => rfl
  | s, y :: l, x => by simp [ml, ml_snoc f _ l x]
theorem take_snoc {l : List α} {k : Nat} (h : k < l.length) : l.take (k + 1) = l.take k ++ [l.getD k z] := by
  rw [List.take_add_one, List.getD_eq_getElem?_getD, List.getElem?_eq_getElem h]; simp
theorem drop_cons {l : List α} {k : Nat} (h : k < l.length) : l.drop k = l.getD k z :: l.drop (k + 1) := by
  rw [List.drop_eq_getElem_cons h, List.getD_eq_getElem?_getD, List.getElem?_eq_getElem h]; simp
/-- The list behind the first k rounds of a walk forward. -/
def fw (f : S → α → α × S) (s : S) (l : List α) (k : Nat) : List α := (ml f s (l.take k)).1 ++ l.drop k
def fs (f : S → α → α × S) (s : S) (l : List α) (k : Nat) : S := (ml f s (l.take k)).2
theorem fw_zero (f : S → α → α × S) (s : S) (l : List α) : fw f s l 0 = l := by simp [fw, ml]
theorem fs_zero (f : S → α → α × S) (s : S) (l : List α) : fs f s l 0 = s := by simp [fs, ml]
theorem fw_len (f : S → α → α × S) (s : S) (l : List α) (k : Nat) : (fw f s l k).length = l.length := by
  simp [fw, ml_len]; omega
theorem fw_all (f : S → α → α × S) (s : S) (l : List α) : fw f s l l.length = (ml f s l).1 := by simp [fw]
theorem fs_all (f : S → α → α × S) (s : S) (l : List α) : fs f s l l.length = (ml f s l).2 := by simp [fs]
theorem fs_succ (f : S → α → α × S) (s : S) {l : List α} {k : Nat} (h : k < l.length) : fs f s l (k + 1) = (f (fs f s l k) (l.getD k z)).2 := by
  unfold fs; rw [take_snoc z h, ml_snoc]
theorem fw_get (f : S → α → α × S) (s : S) {l : List α} {k : Nat} (h : k < l.length) : (fw f s l k).getD k z = l.getD k z := by
  have hl : (ml f s (l.take k)).1.length = k := by rw [ml_len]; simp; omega
  unfold fw
  rw [List.getD_eq_getElem?_getD, List.getElem?_append_right (by omega), hl, Nat.sub_self, drop_cons z h]; rfl
theorem fw_succ (f : S → α → α × S) (s : S) {l : List α} {k : Nat} (h : k < l.length) : fw f s l (k + 1) = (fw f s l k).set k (f (fs f s l k) (l.getD k z)).1 := by
  have hl : (ml f s (l.take k)).1.length = k := by rw [ml_len]; simp; omega
  unfold fw fs
  rw [take_snoc z h, ml_snoc, List.set_append_right _ _ (by omega), hl, Nat.sub_self, drop_cons z h]
  simp
/-- The list when the Parts from place k on are done by a walk backward. -/
def bw (f : S → α → α × S) (s : S) (l : List α) (k : Nat) : List α := l.take k ++ (mr f s (l.drop k)).1
def bs (f : S → α → α × S) (s : S) (l : List α) (k : Nat) : S := (mr f s (l.drop k)).2
theorem bw_all (f : S → α → α × S) (s : S) (l : List α) : bw f s l l.length = l := by simp [bw, mr]
theorem bs_all (f : S → α → α × S) (s : S) (l : List α) : bs f s l l.length = s := by simp [bs, mr]
theorem bw_len (f : S → α → α × S) (s : S) (l : List α) (k : Nat) : (bw f s l k).length = l.length := by
  simp [bw, mr_len]; omega
theorem bw_zero (f : S → α → α × S) (s : S) (l : List α) : bw f s l 0 = (mr f s l).1 := by simp [bw]
theorem bs_zero (f : S → α → α × S) (s : S) (l : List α) : bs f s l 0 = (mr f s l).2 := by simp [bs]
theorem bs_succ (f : S → α → α × S) (s : S) {l : List α} {k : Nat} (h : k < l.length) : bs f s l k = (f (bs f s l (k + 1)) (l.getD k z)).2 := by
  unfold bs; rw [drop_cons z h, mr]
theorem bw_get (f : S → α → α × S) (s : S) {l : List α} {k : Nat} (h : k < l.length) : (bw f s l (k + 1)).getD k z = l.getD k z := by
  unfold bw
  rw [List.getD_eq_getElem?_getD, List.getElem?_append_left (by simp; omega), List.getElem?_take, if_pos (by omega), List.getD_eq_getElem?_getD]
theorem bw_succ (f : S → α → α × S) (s : S) {l : List α} {k : Nat} (h : k < l.length) : bw f s l k = (bw f s l (k + 1)).set k (f (bs f s l (k + 1)) (l.getD k z)).1 := by
  have hl : (l.take k).length = k := by simp; omega
  unfold bw bs
  rw [take_snoc z h, drop_cons z h, mr, List.append_assoc, List.set_append_right _ _ (by omega), hl, Nat.sub_self]
  simp
/-- What a round leaves of the state keeps what all rounds keep. -/
theorem fs_keep (z : α) {f : S → α → α × S} {s : S} {l : List α} (I : S → Prop) (h0 : I s) (hs : ∀ s x, I s → x ∈ l → I (f s x).2) : ∀ k, k ≤ l.length → I (fs f s l k)
  | 0, _ => by rw [fs_zero]; exact h0
  | k + 1, hk => by
    rw [fs_succ z f s (by omega)]
    refine hs _ _ (fs_keep z I h0 hs k (by omega)) ?_
    rw [List.getD_eq_getElem?_getD, List.getElem?_eq_getElem (by omega)]; simp
theorem bs_keep (z : α) {f : S → α → α × S} {s : S} {l : List α} (I : S → Prop) (h0 : I s) (hs : ∀ s x, I s → x ∈ l → I (f s x).2) : ∀ j k, k + j = l.length → I (bs f s l k)
  | 0, k, e => by obtain rfl : k = l.length := by omega
                  rw [bs_all]; exact h0
  | j + 1, k, e => by
    rw [bs_succ z f s (by omega)]
    refine hs _ _ (bs_keep z I h0 hs j (k + 1) (by omega)) ?_
    rw [List.getD_eq_getElem?_getD, List.getElem?_eq_getElem (by omega)]; simp

end Go.Proofs.Ytmaejlfjdkkpdaa.wk
