/-
  Plain mathematics: allocations by remainders, and the merging of two sorted rows in place. Conditions: none.
-/
import Derived.Test.YtchpjojndkkmeaaDoorAlc
import Derived.Sort.Lot0

namespace Go.Proofs.YtchpjojndkkmeaaDoor.mrg
open Go
/-- An element of what is sorted: where it stood, and its remainder. -/
abbrev El := Int × Int
/-- The order: a greater remainder first, of equal ones the first one. -/
def tl (x y : El) : Bool := decide (y.2 < x.2 ∨ (y.2 = x.2 ∧ x.1 < y.1))
/-- What the program's own comparison answers. -/
def cf (x y : El) : Int := if y.2 < x.2 then -1 else if x.2 < y.2 then 1 else 0

theorem tl_iff {x y : El} : tl x y = true ↔ (y.2 < x.2 ∨ (y.2 = x.2 ∧ x.1 < y.1)) := by simp [tl]
theorem tl_trans {x y z : El} (h1 : tl x y = true) (h2 : tl y z = true) : tl x z = true := by
  rw [tl_iff] at *; omega
theorem tl_irrefl (x : El) : tl x x = false := by simp [tl]
theorem tl_asymm {x y : El} (h : tl x y = true) : tl y x = false := by
  cases e : tl y x with
  | false => rfl
  | true => have := tl_trans h e; rw [tl_irrefl] at this; cases this
theorem cf_neg {x y : El} (h : x.1 < y.1) : cf y x < 0 ↔ tl y x = true := by
  rw [tl_iff]; unfold cf; split <;> (try split) <;> omega
theorem cf_not {x y : El} (h : x.1 < y.1) (hc : ¬ cf y x < 0) : tl x y = true := by
  rw [tl_iff]; unfold cf at hc; split at hc <;> (try split at hc) <;> omega

def Srt (a b : Nat) (f : Nat → El) : Prop := ∀ i j, a ≤ i → i < j → j < b → tl (f i) (f j) = true
def Frm (a b : Nat) (f f' : Nat → El) : Prop := (∀ k, k < a ∨ b ≤ k → f' k = f k) ∧ ∀ k, a ≤ k → k < b → ∃ k', a ≤ k' ∧ k' < b ∧ f' k = f k'
/-- All of one side stood ahead of all of the other. -/
def Crs (a m b : Nat) (f : Nat → El) : Prop := ∀ i j, a ≤ i → i < m → m ≤ j → j < b → (f i).1 < (f j).1

theorem Frm.refl (a b : Nat) (f : Nat → El) : Frm a b f f := ⟨fun _ _ => rfl, fun k h1 h2 => ⟨k, h1, h2, rfl⟩⟩
theorem Frm.trans {a b : Nat} {f g h : Nat → El} (h1 : Frm a b f g) (h2 : Frm a b g h) : Frm a b f h := by
  refine ⟨fun k hk => (h2.1 k hk).trans (h1.1 k hk), fun k ha hb => ?_⟩
  obtain ⟨k1, a1, b1, e1⟩ := h2.2 k ha hb
  obtain ⟨k2, a2, b2, e2⟩ := h1.2 k1 a1 b1
  exact ⟨k2, a2, b2, e1.trans e2⟩
theorem Frm.mono {a b a' b' : Nat} {f g : Nat → El} (h : Frm a b f g) (ha : a' ≤ a) (hb : b ≤ b') : Frm a' b' f g := by
  refine ⟨fun k hk => h.1 k (by omega), fun k h1 h2 => ?_⟩
  by_cases hk : a ≤ k ∧ k < b
  · obtain ⟨k', x, y, e⟩ := h.2 k hk.1 hk.2
    exact ⟨k', by omega, by omega, e⟩
  · exact ⟨k, h1, h2, h.1 k (by omega)⟩
theorem Frm.all {a b : Nat} {f g : Nat → El} (h : Frm a b f g) {p : El → Prop} (hp : ∀ k, a ≤ k → k < b → p (f k)) : ∀ k, a ≤ k → k < b → p (g k) := fun k h1 h2 => by
  obtain ⟨k', x, y, e⟩ := h.2 k h1 h2
  rw [e]; exact hp k' x y
theorem Srt.le {a b : Nat} {f : Nat → El} (h : Srt a b f) {i j : Nat} (h1 : a ≤ i) (h2 : i ≤ j) (h3 : j < b) {z : El} (hz : tl (f j) z = true) : tl (f i) z = true := by
  rcases Nat.lt_or_ge i j with hl | hg
  · exact tl_trans (h i j h1 hl h3) hz
  · obtain rfl : i = j := by omega
    exact hz
theorem Srt.ge {a b : Nat} {f : Nat → El} (h : Srt a b f) {i j : Nat} (h1 : a ≤ i) (h2 : i ≤ j) (h3 : j < b) {z : El} (hz : tl z (f i) = true) : tl z (f j) = true := by
  rcases Nat.lt_or_ge i j with hl | hg
  · exact tl_trans hz (h i j h1 hl h3)
  · obtain rfl : i = j := by omega
    exact hz
theorem Srt.part {a b a' b' : Nat} {f : Nat → El} (h : Srt a b f) (ha : a ≤ a') (hb : b' ≤ b) : Srt a' b' f := fun i j h1 h2 h3 => h i j (by omega) h2 (by omega)
theorem Srt.join {a m b : Nat} {f : Nat → El} (h1 : Srt a m f) (h2 : Srt m b f) (h : ∀ i j, a ≤ i → i < m → m ≤ j → j < b → tl (f i) (f j) = true) : Srt a b f := fun i j hi hij hj => by
  by_cases hm : j < m
  · exact h1 i j hi hij hm
  · by_cases hn : i < m
    · exact h i j hi hn (by omega) hj
    · exact h2 i j (by omega) hij hj
theorem Srt.same {a b : Nat} {f g : Nat → El} (h : Srt a b f) (e : ∀ k, a ≤ k → k < b → g k = f k) : Srt a b g := fun i j h1 h2 h3 => by
  rw [e i h1 (by omega), e j (by omega) h3]; exact h i j h1 h2 h3

/-- The first search: where the one element of the left side belongs on the right side. -/
structure Up (f : Nat → El) (a m b i j : Nat) : Prop where
  mi : m ≤ i
  ij : i ≤ j
  jb : j ≤ b
  lo : ∀ h, m ≤ h → h < i → tl (f h) (f a) = true
  hi : ∀ h, j ≤ h → h < b → tl (f a) (f h) = true
theorem Up.start (f : Nat → El) (a m b : Nat) (h : m ≤ b) : Up f a m b m b := ⟨Nat.le_refl _, h, Nat.le_refl _, fun _ _ _ => by omega, fun _ _ _ => by omega⟩
theorem Up.left {f : Nat → El} {a m b i j : Nat} (u : Up f a m b i j) (hS : Srt m b f) (hij : i < j) (ht : tl (f ((i + j) / 2)) (f a) = true) : Up f a m b ((i + j) / 2 + 1) j :=
  ⟨by have := u.mi; omega, by omega, u.jb, fun h h1 h2 => hS.le h1 (show h ≤ (i + j) / 2 by omega) (by have := u.jb; omega) ht, u.hi⟩
theorem Up.right {f : Nat → El} {a m b i j : Nat} (u : Up f a m b i j) (hS : Srt m b f) (hij : i < j) (ht : tl (f a) (f ((i + j) / 2)) = true) : Up f a m b i ((i + j) / 2) :=
  ⟨u.mi, by omega, by have := u.jb; omega, u.lo, fun h h1 h2 => hS.ge (show m ≤ (i + j) / 2 by have := u.mi; omega) h1 h2 ht⟩
/-- An element carried from a to i - 1. -/
def upTo (f : Nat → El) (a i k : Nat) : El := if a ≤ k ∧ k + 1 < i then f (k + 1) else if k + 1 = i ∧ a ≤ k then f a else f k
theorem upTo_srt {f : Nat → El} {a b i : Nat} (u : Up f a (a + 1) b i i) (hS : Srt (a + 1) b f) : Srt a b (upTo f a i) ∧ Frm a b f (upTo f a i) := by
  have h1 := u.mi; have h2 := u.jb
  refine ⟨fun x y hx hxy hy => ?_, fun k hk => ?_, fun k ha hb => ?_⟩
  · unfold upTo
    by_cases c1 : x + 1 < i
    · rw [if_pos ⟨hx, c1⟩]
      by_cases c2 : y + 1 < i
      · rw [if_pos ⟨by omega, c2⟩]; exact hS _ _ (by omega) (by omega) (by omega)
      · rw [if_neg (by omega)]
        by_cases c3 : y + 1 = i
        · rw [if_pos ⟨c3, by omega⟩]; exact u.lo _ (by omega) (by omega)
        · rw [if_neg (by omega)]; exact hS _ _ (by omega) (by omega) (by omega)
    · rw [if_neg (by omega)]
      by_cases c3 : x + 1 = i
      · rw [if_pos ⟨c3, hx⟩, if_neg (by omega), if_neg (by omega)]; exact u.hi _ (by omega) (by omega)
      · rw [if_neg (by omega), if_neg (by omega), if_neg (by omega)]; exact hS _ _ (by omega) (by omega) (by omega)
  · unfold upTo; rw [if_neg (by omega), if_neg (by omega)]
  · unfold upTo
    by_cases c1 : a ≤ k ∧ k + 1 < i
    · rw [if_pos c1]; exact ⟨k + 1, by omega, by omega, rfl⟩
    · rw [if_neg c1]
      by_cases c3 : k + 1 = i ∧ a ≤ k
      · rw [if_pos c3]; exact ⟨a, by omega, by omega, rfl⟩
      · rw [if_neg c3]; exact ⟨k, ha, hb, rfl⟩

/-- The second search: where the one element of the right side belongs on the left side. -/
structure Dn (f : Nat → El) (a m i j : Nat) : Prop where
  ai : a ≤ i
  ij : i ≤ j
  jm : j ≤ m
  lo : ∀ h, a ≤ h → h < i → tl (f h) (f m) = true
  hi : ∀ h, j ≤ h → h < m → tl (f m) (f h) = true
theorem Dn.start (f : Nat → El) (a m : Nat) (h : a ≤ m) : Dn f a m a m := ⟨Nat.le_refl _, h, Nat.le_refl _, fun _ _ _ => by omega, fun _ _ _ => by omega⟩
theorem Dn.left {f : Nat → El} {a m i j : Nat} (u : Dn f a m i j) (hS : Srt a m f) (hij : i < j) (ht : tl (f ((i + j) / 2)) (f m) = true) : Dn f a m ((i + j) / 2 + 1) j :=
  ⟨by have := u.ai; omega, by omega, u.jm, fun h h1 h2 => hS.le h1 (show h ≤ (i + j) / 2 by omega) (by have := u.jm; omega) ht, u.hi⟩
theorem Dn.right {f : Nat → El} {a m i j : Nat} (u : Dn f a m i j) (hS : Srt a m f) (hij : i < j) (ht : tl (f m) (f ((i + j) / 2)) = true) : Dn f a m i ((i + j) / 2) :=
  ⟨u.ai, by omega, by have := u.jm; omega, u.lo, fun h h1 h2 => hS.ge (show a ≤ (i + j) / 2 by have := u.ai; omega) h1 h2 ht⟩
/-- An element carried from m down to i. -/
def dnTo (f : Nat → El) (i m k : Nat) : El := if k = i ∧ k ≤ m then f m else if i < k ∧ k ≤ m then f (k - 1) else f k
theorem dnTo_srt {f : Nat → El} {a m i : Nat} (u : Dn f a m i i) (hS : Srt a m f) : Srt a (m + 1) (dnTo f i m) ∧ Frm a (m + 1) f (dnTo f i m) := by
  have h1 := u.ai; have h2 := u.jm
  refine ⟨fun x y hx hxy hy => ?_, fun k hk => ?_, fun k ha hb => ?_⟩
  · unfold dnTo
    by_cases c1 : x = i
    · rw [if_pos ⟨c1, by omega⟩, if_neg (by omega), if_pos (by omega)]; exact u.hi _ (by omega) (by omega)
    · rw [if_neg (by omega)]
      by_cases c2 : i < x
      · rw [if_pos ⟨c2, by omega⟩, if_neg (by omega), if_pos (by omega)]; exact hS _ _ (by omega) (by omega) (by omega)
      · rw [if_neg (by omega)]
        by_cases c3 : y = i
        · rw [if_pos ⟨c3, by omega⟩]; exact u.lo _ hx (by omega)
        · rw [if_neg (by omega)]
          by_cases c4 : i < y
          · rw [if_pos ⟨c4, by omega⟩]
            exact hS _ _ hx (by omega) (by omega)
          · rw [if_neg (by omega)]; exact hS _ _ hx hxy (by omega)
  · unfold dnTo; rw [if_neg (by omega), if_neg (by omega)]
  · unfold dnTo
    by_cases c1 : k = i ∧ k ≤ m
    · rw [if_pos c1]; exact ⟨m, by omega, by omega, rfl⟩
    · rw [if_neg c1]
      by_cases c3 : i < k ∧ k ≤ m
      · rw [if_pos c3]; exact ⟨k - 1, by omega, by omega, rfl⟩
      · rw [if_neg c3]; exact ⟨k, ha, hb, rfl⟩

/-- Two blocks beside one another change places. -/
def rot (f : Nat → El) (a m b k : Nat) : El := if k < a ∨ b ≤ k then f k else if k < a + (b - m) then f (k + (m - a)) else f (k - (b - m))
/-- Two blocks of one length change places. -/
def swr (f : Nat → El) (a b n k : Nat) : El := if a ≤ k ∧ k < a + n then f (k + (b - a)) else if b ≤ k ∧ k < b + n then f (k - (b - a)) else f k
theorem rot_gt (f : Nat → El) (m i j : Nat) (h : j < i) (hi : i ≤ m) (h0 : 0 < j) : rot (swr f (m - i) m j) (m - (i - j)) m (m + j) = rot f (m - i) m (m + j) := by
  funext k
  unfold rot swr
  by_cases c1 : k < m - i ∨ m + j ≤ k
  · simp only [if_pos c1]
    rw [if_pos (by omega), if_neg (by omega), if_neg (by omega)]
  · simp only [if_neg c1]
    by_cases c2 : k < m - i + j
    · rw [if_pos (by omega), if_pos (by omega), if_pos (by omega)]
    · rw [if_neg (by omega)]
      by_cases c3 : k < m - (i - j) + (m + j - m)
      · rw [if_pos c3, if_neg (by omega), if_pos (by omega), if_neg (by omega)]; congr 1; omega
      · rw [if_neg c3, if_neg (by omega), if_neg (by omega), if_neg (by omega)]
theorem rot_lt (f : Nat → El) (m i j : Nat) (h : i < j) (hi : i ≤ m) (h0 : 0 < i) : rot (swr f (m - i) (m + j - i) i) (m - i) m (m + (j - i)) = rot f (m - i) m (m + j) := by
  funext k
  unfold rot swr
  by_cases c1 : k < m - i ∨ m + j ≤ k
  · simp only [if_pos c1]
    rw [if_pos (by omega), if_neg (by omega), if_neg (by omega)]
  · simp only [if_neg c1]
    by_cases c2 : m + (j - i) ≤ k
    · rw [if_pos (by omega), if_neg (by omega), if_pos (by omega), if_neg (by omega)]; congr 1; omega
    · rw [if_neg (by omega)]
      by_cases c3 : k < m - i + (m + (j - i) - m)
      · rw [if_pos c3, if_neg (by omega), if_neg (by omega), if_pos (by omega)]
      · rw [if_neg c3, if_pos (by omega), if_pos (by omega)]; congr 1; omega
theorem rot_eq (f : Nat → El) (m i : Nat) (hi : i ≤ m) : swr f (m - i) m i = rot f (m - i) m (m + i) := by
  funext k
  unfold rot swr
  by_cases c1 : k < m - i ∨ m + i ≤ k
  · rw [if_pos c1, if_neg (by omega), if_neg (by omega)]
  · rw [if_neg c1]
    by_cases c2 : k < m
    · rw [if_pos (by omega), if_pos (by omega)]
    · rw [if_neg (by omega), if_pos (by omega), if_neg (by omega)]; congr 1; omega

/-- The third search: how far the two sides change places. -/
structure Md (f : Nat → El) (p s0 r0 s r : Nat) : Prop where
  a : s0 ≤ s
  b : s ≤ r
  c : r ≤ r0
  lo : ∀ c, s0 ≤ c → c < s → tl (f c) (f (p - c)) = true
  hi : ∀ c, r ≤ c → c < r0 → tl (f (p - c)) (f c) = true
theorem Md.start (f : Nat → El) (p s0 r0 : Nat) (h : s0 ≤ r0) : Md f p s0 r0 s0 r0 := ⟨Nat.le_refl _, h, Nat.le_refl _, fun _ _ _ => by omega, fun _ _ _ => by omega⟩
/-- Where the search looks. -/
structure Mid (f : Nat → El) (a m b mid p s0 r0 : Nat) : Prop where
  am : a < m
  mb : m < b
  emid : mid = (a + b) / 2
  ep : p + 1 = mid + m
  es : (mid < m ∧ s0 + b = mid + m ∧ r0 = mid) ∨ (m ≤ mid ∧ s0 = a ∧ r0 = m)
  left : Srt a m f
  right : Srt m b f
  cross : Crs a m b f
theorem Mid.le {f : Nat → El} {a m b mid p s0 r0 : Nat} (M : Mid f a m b mid p s0 r0) : a ≤ s0 ∧ s0 ≤ r0 ∧ r0 ≤ m ∧ (∀ c, s0 ≤ c → c < r0 → m ≤ p - c ∧ p - c < b ∧ c ≤ p) := by
  obtain ⟨h1, h2, h3, h4, h5, _, _, _⟩ := M
  refine ⟨by omega, by omega, by omega, fun c _ _ => ⟨by omega, by omega, by omega⟩⟩
theorem Md.left {f : Nat → El} {a m b mid p s0 r0 s r : Nat} (u : Md f p s0 r0 s r) (M : Mid f a m b mid p s0 r0) (h : s < r) (ht : tl (f ((s + r) / 2)) (f (p - (s + r) / 2)) = true) : Md f p s0 r0 ((s + r) / 2 + 1) r := by
  obtain ⟨l1, l2, l3, l4⟩ := M.le
  have ua := u.a; have uc := u.c
  refine ⟨by omega, by omega, u.c, fun c h1 h2 => ?_, u.hi⟩
  have k := l4 ((s + r) / 2) (by omega) (by omega)
  have k' := l4 c (by omega) (by omega)
  have := M.left.le (show a ≤ c by omega) (show c ≤ (s + r) / 2 by omega) (by omega) ht
  exact M.right.ge (show m ≤ p - (s + r) / 2 by omega) (by omega) (by omega) this
theorem Md.right {f : Nat → El} {a m b mid p s0 r0 s r : Nat} (u : Md f p s0 r0 s r) (M : Mid f a m b mid p s0 r0) (h : s < r) (ht : tl (f (p - (s + r) / 2)) (f ((s + r) / 2)) = true) : Md f p s0 r0 s ((s + r) / 2) := by
  obtain ⟨l1, l2, l3, l4⟩ := M.le
  have ua := u.a; have uc := u.c
  refine ⟨u.a, by omega, by omega, u.lo, fun c h1 h2 => ?_⟩
  have k := l4 ((s + r) / 2) (by omega) (by omega)
  have k' := l4 c (by omega) (by omega)
  have := M.right.le (show m ≤ p - c by omega) (show p - c ≤ p - (s + r) / 2 by omega) (by omega) ht
  exact M.left.ge (show a ≤ (s + r) / 2 by omega) h1 (by omega) this

/-- What stands behind the change of places (or where none was asked). -/
structure Cut (f f' : Nat → El) (a mid b s e : Nat) : Prop where
  am : a < mid
  mb : mid < b
  as : a ≤ s
  sm : s ≤ mid
  me : mid ≤ e
  eb : e ≤ b
  frm : Frm a b f f'
  l1 : Srt a s f'
  l2 : Srt s mid f'
  r1 : Srt mid e f'
  r2 : Srt e b f'
  c1 : Crs a s mid f'
  c2 : Crs mid e b f'
  lr : ∀ i j, a ≤ i → i < mid → mid ≤ j → j < b → tl (f' i) (f' j) = true
theorem rot_frm (f : Nat → El) (a m b : Nat) (h1 : a ≤ m) (h2 : m ≤ b) : Frm a b f (rot f a m b) := by
  refine ⟨fun k hk => by unfold rot; rw [if_pos hk], fun k ha hb => ?_⟩
  unfold rot
  rw [if_neg (by omega)]
  by_cases c : k < a + (b - m)
  · rw [if_pos c]; exact ⟨_, by omega, by omega, rfl⟩
  · rw [if_neg c]; exact ⟨_, by omega, by omega, rfl⟩
theorem cut_of {f : Nat → El} {a m b mid p s0 r0 s : Nat} (u : Md f p s0 r0 s s) (M : Mid f a m b mid p s0 r0) (h2 : a + 2 ≤ m) (h3 : m + 2 ≤ b) (e : Nat) (he : e + s = mid + m) :
    Cut f (rot f s m e) a mid b s e := by
  obtain ⟨l1, l2, l3, l4⟩ := M.le
  have ua := u.a; have ub := u.b; have uc := u.c
  have em := M.emid; have ep := M.ep; have es := M.es
  have mid1 : m ≤ e := by omega
  have mid2 : e ≤ b := by omega
  have k1 : ∀ k, k < s → rot f s m e k = f k := fun k hk => by unfold rot; rw [if_pos (by omega)]
  have k2 : ∀ k, s ≤ k → k < mid → rot f s m e k = f (k + (m - s)) := fun k h1 h2 => by unfold rot; rw [if_neg (by omega), if_pos (by omega)]
  have k3 : ∀ k, mid ≤ k → k < e → rot f s m e k = f (k - (e - m)) := fun k h1 h2 => by unfold rot; rw [if_neg (by omega), if_neg (by omega)]
  have k4 : ∀ k, e ≤ k → rot f s m e k = f k := fun k hk => by unfold rot; rw [if_pos (by omega)]
  have ab : ∀ i j, a ≤ i → i < s → e ≤ j → j < b → tl (f i) (f j) = true := fun i j hi hs hj hb => by
    by_cases c : s0 < s
    · have t := u.lo (s - 1) (by omega) (by omega)
      rw [show p - (s - 1) = e by omega] at t
      exact M.right.ge (show m ≤ e by omega) hj hb (M.left.le hi (show i ≤ s - 1 by omega) (by omega) t)
    · omega
  have ba : ∀ i j, m ≤ i → i < e → s ≤ j → j < m → tl (f i) (f j) = true := fun i j hi hs hj hb => by
    by_cases c : s < r0
    · have t := u.hi s (by omega) (by omega)
      rw [show p - s = e - 1 by omega] at t
      exact M.left.ge (show a ≤ s by omega) hj hb (M.right.le hi (show i ≤ e - 1 by omega) (by omega) t)
    · omega
  refine ⟨by omega, by omega, by omega, by omega, by omega, mid2, (rot_frm f s m e (by omega) mid1).mono (by omega) mid2, ?_, ?_, ?_, ?_, ?_, ?_, ?_⟩
  · exact (M.left.part (Nat.le_refl _) (by omega)).same fun k _ h => k1 k h
  · intro i j h1 h2 h3
    rw [k2 i h1 (by omega), k2 j (by omega) h3]; exact M.right _ _ (by omega) (by omega) (by omega)
  · intro i j h1 h2 h3
    rw [k3 i h1 (by omega), k3 j (by omega) h3]; exact M.left _ _ (by omega) (by omega) (by omega)
  · exact (M.right.part mid1 (Nat.le_refl _)).same fun k h _ => k4 k h
  · intro i j h1 h2 h3 h4
    rw [k1 i h2, k2 j h3 h4]; exact M.cross _ _ h1 (by omega) (by omega) (by omega)
  · intro i j h1 h2 h3 h4
    rw [k3 i h1 h2, k4 j h3]; exact M.cross _ _ (by omega) (by omega) (by omega) h4
  · intro i j h1 h2 h3 h4
    by_cases c1 : i < s
    · rw [k1 i c1]
      by_cases c2 : j < e
      · rw [k3 j h3 c2]; exact M.left _ _ h1 (by omega) (by omega)
      · rw [k4 j (by omega)]; exact ab i j h1 c1 (by omega) h4
    · rw [k2 i (by omega) h2]
      by_cases c2 : j < e
      · rw [k3 j h3 c2]; exact ba _ _ (by omega) (by omega) (by omega) (by omega)
      · rw [k4 j (by omega)]; exact M.right _ _ (by omega) (by omega) h4
theorem rot_none (f : Nat → El) (s m e : Nat) (h : ¬ (s < m ∧ m < e)) (h1 : s ≤ m) (h2 : m ≤ e) : rot f s m e = f := by
  funext k
  unfold rot
  by_cases c : k < s ∨ e ≤ k
  · rw [if_pos c]
  · rw [if_neg c]
    by_cases d : k < s + (e - m)
    · rw [if_pos d]; congr 1; omega
    · rw [if_neg d]; congr 1; omega

/-- Behind both halves. -/
theorem Cut.done {f f' g h : Nat → El} {a mid b s e : Nat} (C : Cut f f' a mid b s e) (g1 : Frm a mid f' g) (g2 : Srt a mid g) (h1 : Frm mid b g h) (h2 : Srt mid b h) : Srt a b h ∧ Frm a b f h := by
  have am := C.am; have mb := C.mb
  have G : ∀ i, a ≤ i → i < mid → h i = g i := fun i _ hi => h1.1 i (by omega)
  have F : ∀ j, mid ≤ j → j < b → g j = f' j := fun j hj _ => g1.1 j (by omega)
  refine ⟨Srt.join (g2.same G) h2 fun i j hi him hj hb => ?_, C.frm.trans ((g1.mono (Nat.le_refl _) (by omega)).trans (h1.mono (by omega) (Nat.le_refl _)))⟩
  obtain ⟨j', a1, a2, e1⟩ := h1.2 j hj hb
  obtain ⟨i', b1, b2, e2⟩ := g1.2 i hi him
  rw [G i hi him, e2, e1, F j' a1 a2]
  exact C.lr i' j' b1 b2 a1 a2
/-- A half in which there is nothing to merge. -/
theorem Cut.left_id {f f' : Nat → El} {a mid b s e : Nat} (C : Cut f f' a mid b s e) (h : ¬ (a < s ∧ s < mid)) : Srt a mid f' := by
  have h1 := C.as; have h2 := C.sm
  by_cases c : a < s
  · obtain rfl : s = mid := by omega
    exact C.l1
  · obtain rfl : s = a := by omega
    exact C.l2
theorem Cut.right_id {f f' g : Nat → El} {a mid b s e : Nat} (C : Cut f f' a mid b s e) (g1 : Frm a mid f' g) (h : ¬ (mid < e ∧ e < b)) : Srt mid b g := by
  have h1 := C.me; have h2 := C.eb
  refine Srt.same ?_ fun k hk _ => g1.1 k (by omega)
  by_cases c : mid < e
  · obtain rfl : e = b := by omega
    exact C.r1
  · obtain rfl : e = mid := by omega
    exact C.r2
theorem Cut.right_pre {f f' g : Nat → El} {a mid b s e : Nat} (C : Cut f f' a mid b s e) (g1 : Frm a mid f' g) : Srt mid e g ∧ Srt e b g ∧ Crs mid e b g := by
  have h1 := C.me; have h2 := C.eb
  have F : ∀ j, mid ≤ j → g j = f' j := fun j hj => g1.1 j (by omega)
  refine ⟨C.r1.same fun k hk _ => F k hk, C.r2.same fun k hk _ => F k (by omega), fun i j a1 a2 a3 a4 => ?_⟩
  rw [F i a1, F j (by omega)]; exact C.c2 i j a1 a2 a3 a4

/-- What a row of elements holds, by its places. -/
def at' (d : Array El) (k : Nat) : El := d[k]!
theorem at_swp (d : Array El) (i j k : Nat) (hi : i < d.size) (hj : j < d.size) (hij : i ≠ j) : at' (Sort.swp d i j) k = if k = i then at' d j else if k = j then at' d i else at' d k := by
  unfold at'
  by_cases c1 : k = i
  · subst c1; rw [if_pos rfl]; exact Sort.swp_left d k j hi hij
  · rw [if_neg c1]
    by_cases c2 : k = j
    · subst c2; rw [if_pos rfl]; exact Sort.swp_right d i k hj
    · rw [if_neg c2]; exact Sort.swp_other d i j k c1 c2
def lt (x y : El) : Bool := decide (cf x y < 0)

theorem inn (f0 : Nat → El) (a i : Nat) (hS : Srt a i f0) (hx : ∀ k, a ≤ k → k < i → (f0 k).1 < (f0 i).1) :
    ∀ (j : Nat) (d : Array El), a ≤ j → j ≤ i → i < d.size → (∀ k, at' d k = dnTo f0 j i k) → (∀ h, j ≤ h → h < i → tl (f0 i) (f0 h) = true) →
      ∃ j', Dn f0 a i j' j' ∧ (Sort.insInner lt a j d).size = d.size ∧ ∀ k, at' (Sort.insInner lt a j d) k = dnTo f0 j' i k
  | 0, d, h1, h2, h3, h4, h5 => by
    unfold Sort.insInner
    exact ⟨0, ⟨h1, Nat.le_refl _, h2, fun _ _ _ => by omega, h5⟩, rfl, h4⟩
  | j + 1, d, h1, h2, h3, h4, h5 => by
    unfold Sort.insInner
    have e1 : d[j + 1]! = f0 i := by have := h4 (j + 1); unfold dnTo at this; rw [if_pos ⟨rfl, h2⟩] at this; exact this
    have e0 : d[j]! = f0 j := by have := h4 j; unfold dnTo at this; rw [if_neg (by omega), if_neg (by omega)] at this; exact this
    rw [e1, e0]
    by_cases ha : a < j + 1
    · have ix := hx j (by omega) (by omega)
      by_cases hc : cf (f0 i) (f0 j) < 0
      · rw [if_pos (by simp [lt, hc]; omega)]
        obtain ⟨j', a1, a2, a3⟩ := inn f0 a i hS hx j (Sort.swp d (j + 1) j) (by omega) (by omega) (by rw [Sort.size_swp]; exact h3) (fun k => by
            rw [at_swp d (j + 1) j k (by omega) (by omega) (by omega), h4, h4, h4]
            unfold dnTo
            by_cases c1 : k = j + 1
            · subst c1
              rw [if_pos rfl, if_neg (by omega), if_neg (by omega), if_neg (by omega), if_pos (by omega)]
              congr 1
            · rw [if_neg c1]
              by_cases c2 : k = j
              · subst c2
                rw [if_pos rfl, if_pos (by omega), if_pos (by omega)]
              · rw [if_neg c2, if_neg (show ¬ (k = j + 1 ∧ k ≤ i) by omega), if_neg (show ¬ (k = j ∧ k ≤ i) by omega)]
                by_cases c3 : j + 1 < k ∧ k ≤ i
                · rw [if_pos c3, if_pos (by omega)]
                · rw [if_neg c3, if_neg (by omega)])
          (fun h a1 a2 => by
            by_cases c : h = j
            · subst c; exact (cf_neg ix).1 hc
            · exact h5 h (by omega) a2)
        exact ⟨j', a1, by rw [a2, Sort.size_swp], a3⟩
      · rw [if_neg (by simp [lt]; omega)]
        exact ⟨j + 1, ⟨h1, Nat.le_refl _, h2, fun h b1 b2 => hS.le b1 (show h ≤ j by omega) (by omega) (cf_not ix hc), h5⟩, rfl, h4⟩
    · rw [if_neg (by simp; omega)]
      exact ⟨j + 1, ⟨h1, Nat.le_refl _, h2, fun h b1 b2 => by omega, h5⟩, rfl, h4⟩
theorem dnTo_self (f : Nat → El) (i k : Nat) : f k = dnTo f i i k := by
  unfold dnTo
  by_cases c : k = i ∧ k ≤ i
  · rw [if_pos c]; rw [c.1]
  · rw [if_neg c, if_neg (by omega)]
def Asc (a i b : Nat) (f : Nat → El) : Prop := ∀ k j, a ≤ k → k < j → i ≤ j → j < b → (f k).1 < (f j).1
theorem out (a b : Nat) : ∀ (n i : Nat) (d : Array El), b - i = n → a < i → i ≤ b → b ≤ d.size → Srt a i (at' d) → Asc a i b (at' d) →
      (Sort.insOuter lt a b i d).size = d.size ∧ Srt a b (at' (Sort.insOuter lt a b i d)) ∧ Frm a b (at' d) (at' (Sort.insOuter lt a b i d))
  | 0, i, d, hn, _, hib, _, hs, _ => by
    obtain rfl : i = b := by omega
    rw [Sort.insOuter, if_neg (by omega)]
    exact ⟨rfl, hs, Frm.refl _ _ _⟩
  | n + 1, i, d, hn, hai, hib, hb, hs, hq => by
    rw [Sort.insOuter, if_pos (by omega)]
    obtain ⟨j', D, sz, e⟩ := inn (at' d) a i hs (fun k h1 h2 => hq k i h1 h2 (Nat.le_refl _) (by omega)) i d (by omega) (Nat.le_refl _) (by omega) (fun k => dnTo_self _ i k) (fun h _ _ => by omega)
    obtain ⟨s1, f1⟩ := dnTo_srt D hs
    rw [← show at' (Sort.insInner lt a i d) = dnTo (at' d) j' i from funext e] at s1 f1
    obtain ⟨z, s2, f2⟩ := out a b n (i + 1) (Sort.insInner lt a i d) (by omega) (by omega) (by omega) (by rw [sz]; exact hb) s1 (fun k j h1 h2 h3 h4 => by
      rw [f1.1 j (by omega)]
      by_cases c : k < i + 1
      · obtain ⟨k', b1, b2, b3⟩ := f1.2 k h1 c
        rw [b3]; exact hq k' j b1 (by omega) (by omega) h4
      · rw [f1.1 k (by omega)]; exact hq k j h1 h2 (by omega) h4)
    exact ⟨by rw [z, sz], s2, (f1.mono (Nat.le_refl _) (by omega)).trans f2⟩
theorem ins_sort (d : Array El) (a b : Nat) (hab : a ≤ b) (hb : b ≤ d.size) (hq : ∀ k j, a ≤ k → k < j → j < b → (at' d k).1 < (at' d j).1) :
    (Sort.insertionSort lt d a b).size = d.size ∧ Srt a b (at' (Sort.insertionSort lt d a b)) ∧ Frm a b (at' d) (at' (Sort.insertionSort lt d a b)) := by
  unfold Sort.insertionSort
  by_cases h : a = b
  · subst h
    rw [Sort.insOuter, if_neg (by omega)]
    exact ⟨rfl, fun i j _ _ _ => by omega, Frm.refl _ _ _⟩
  · exact out a b (b - (a + 1)) (a + 1) d rfl (by omega) (by omega) hb (fun i j h1 h2 h3 => by omega) (fun k j h1 h2 _ h4 => hq k j h1 h2 h4)

/-- Where the first t of a row of elements stood. -/
def chosen (f : Nat → El) : Nat → Nat → Bool
  | 0 => fun _ => false
  | t + 1 => alc.more (chosen f t) (f t).1.toNat
theorem chosen_iff (f : Nat → El) (i : Nat) : ∀ t, chosen f t i = true ↔ ∃ k, k < t ∧ (f k).1.toNat = i
  | 0 => ⟨(fun h => by cases h), (fun ⟨k, h, _⟩ => by omega)⟩
  | t + 1 => by
    show (if i = (f t).1.toNat then true else chosen f t i) = true ↔ _
    by_cases c : i = (f t).1.toNat
    · rw [if_pos c]; exact ⟨fun _ => ⟨t, by omega, c.symm⟩, fun _ => rfl⟩
    · rw [if_neg c, chosen_iff f i t]
      refine ⟨fun ⟨k, h1, h2⟩ => ⟨k, by omega, h2⟩, fun ⟨k, h1, h2⟩ => ⟨k, ?_, h2⟩⟩
      by_cases e : k = t
      · subst e; exact (c h2.symm).elim
      · omega
/-- A row that holds each element of a list of remainders once, in order. -/
structure Row (r : Nat → Nat) (n : Nat) (f : Nat → El) : Prop where
  srt : Srt 0 n f
  el : ∀ k, k < n → ∃ i, i < n ∧ f k = ((i : Int), (r i : Int))
theorem Row.fresh {r : Nat → Nat} {n : Nat} {f : Nat → El} (R : Row r n f) {t : Nat} (ht : t < n) : chosen f t (f t).1.toNat = false := by
  cases e : chosen f t (f t).1.toNat with
  | false => rfl
  | true =>
    obtain ⟨k, h1, h2⟩ := (chosen_iff f _ t).1 e
    obtain ⟨i, i1, i2⟩ := R.el k (by omega)
    obtain ⟨j, j1, j2⟩ := R.el t ht
    have s := R.srt k t (by omega) h1 ht
    rw [i2, j2] at h2
    simp at h2
    subst h2
    rw [i2, j2, tl_irrefl] at s
    cases s
theorem Row.count {r : Nat → Nat} {n : Nat} {f : Nat → El} (R : Row r n f) : ∀ t, t ≤ n → alc.cnt (chosen f t) n = t
  | 0, _ => (alc.Dwn.none r n).num
  | t + 1, ht => by
    obtain ⟨i, i1, i2⟩ := R.el t (by omega)
    show alc.cnt (alc.more (chosen f t) (f t).1.toNat) n = t + 1
    rw [alc.cnt_more (R.fresh (by omega)), R.count t (by omega), if_pos (by rw [i2]; simpa using i1)]
theorem Row.all {r : Nat → Nat} {n : Nat} {f : Nat → El} (R : Row r n f) (j : Nat) (hj : j < n) : ∃ k, k < n ∧ (f k).1.toNat = j := by
  cases e : chosen f n j with
  | true => exact (chosen_iff f j n).1 e
  | false =>
    have c := R.count n (Nat.le_refl _)
    have l := alc.sm_lt (f := fun i => (chosen f n i).toNat) (g := fun _ => 1) j hj (fun i _ => Bool.toNat_le _) (by simp [e])
    rw [alc.sm_const] at l
    unfold alc.cnt at c
    omega
theorem Row.dwn {r : Nat → Nat} {n : Nat} {f : Nat → El} (R : Row r n f) (t : Nat) (ht : t ≤ n) : alc.Dwn r n (chosen f t) t := by
  refine ⟨R.count t ht, fun i j hi hj h1 h2 => ?_⟩
  obtain ⟨k, k1, k2⟩ := (chosen_iff f i t).1 h1
  obtain ⟨m, m1, m2⟩ := R.all j hj
  have mt : t ≤ m := by
    refine Nat.le_of_not_lt fun c => ?_
    rw [(chosen_iff f j t).2 ⟨m, c, m2⟩] at h2
    cases h2
  have s := R.srt k m (by omega) (by omega) m1
  obtain ⟨a, a1, a2⟩ := R.el k (by omega)
  obtain ⟨b, b1, b2⟩ := R.el m m1
  rw [a2] at k2; rw [b2] at m2
  simp at k2 m2
  subst k2 m2
  rw [a2, b2, tl_iff] at s
  simp at s
  omega

end Go.Proofs.YtchpjojndkkmeaaDoor.mrg
