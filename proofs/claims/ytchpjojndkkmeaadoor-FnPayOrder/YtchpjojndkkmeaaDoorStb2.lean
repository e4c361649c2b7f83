/-
  Plain helpers of this seat's proofs: the contract of slices.SortStableFunc at the program's own elements. Conditions: none.
-/
import Derived.Test.YtchpjojndkkmeaaDoorSymD
namespace Go.Proofs.YtchpjojndkkmeaaDoor.mrg
open Go
/-- A block is sorted, and its elements stood in it. -/
structure Ok (lo hi : Nat) (f : Nat → El) : Prop where
  srt : Srt lo hi f
  idx : ∀ k, lo ≤ k → k < hi → (lo : Int) ≤ (f k).1 ∧ (f k).1 < (hi : Int)
theorem Ok.same {lo hi : Nat} {f g : Nat → El} (h : Ok lo hi f) (e : ∀ k, lo ≤ k → k < hi → g k = f k) : Ok lo hi g :=
  ⟨h.srt.same e, fun k h1 h2 => by rw [e k h1 h2]; exact h.idx k h1 h2⟩
theorem Ok.crs {a m b : Nat} {f : Nat → El} (h1 : Ok a m f) (h2 : Ok m b f) : Crs a m b f := fun i j a1 a2 a3 a4 => by
  have := (h1.idx i a1 a2).2; have := (h2.idx j a3 a4).1; omega
theorem Ok.merge {a m b : Nat} {f g : Nat → El} (h1 : Ok a m f) (h2 : Ok m b f) (hm : a ≤ m) (hb : m ≤ b) (hs : Srt a b g) (hf : Frm a b f g) : Ok a b g :=
  ⟨hs, fun k k1 k2 => by
    obtain ⟨k', a1, a2, e⟩ := hf.2 k k1 k2
    rw [e]
    by_cases c : k' < m
    · have := h1.idx k' a1 c; omega
    · have := h2.idx k' (by omega) a2; omega⟩
theorem Ok.ins {a b : Nat} {f g : Nat → El} (hi : ∀ k, a ≤ k → k < b → (f k).1 = (k : Int)) (hs : Srt a b g) (hf : Frm a b f g) : Ok a b g :=
  ⟨hs, fun k k1 k2 => by
    obtain ⟨k', a1, a2, e⟩ := hf.2 k k1 k2
    rw [e, hi k' a1 a2]; omega⟩
/-- From lo on, block by block. -/
inductive Suf (B n : Nat) (f : Nat → El) : Nat → Prop
  | nil (lo : Nat) : n ≤ lo → Suf B n f lo
  | cons (lo : Nat) : lo < n → Ok lo (min (lo + B) n) f → Suf B n f (lo + B) → Suf B n f lo
theorem Suf.same {B n : Nat} {f g : Nat → El} {lo : Nat} (h : Suf B n f lo) (e : ∀ k, lo ≤ k → g k = f k) : Suf B n g lo := by
  induction h with
  | nil lo h => exact .nil lo h
  | cons lo h1 h2 _ ih => exact .cons lo h1 (h2.same fun k a _ => e k a) (ih fun k a => e k (by omega))
theorem Suf.head {B n : Nat} {f : Nat → El} {lo : Nat} (h : Suf B n f lo) (hl : lo < n) : Ok lo (min (lo + B) n) f ∧ Suf B n f (lo + B) := by
  cases h with
  | nil _ h => omega
  | cons _ _ h2 h3 => exact ⟨h2, h3⟩
/-- What lies below a is done. -/
def Pre (B n : Nat) (f : Nat → El) (a : Nat) : Prop := ∀ g : Nat → El, (∀ k, k < a → g k = f k) → Suf B n g a → Suf B n g 0
theorem Pre.zero (B n : Nat) (f : Nat → El) : Pre B n f 0 := fun _ _ h => h
theorem Pre.step {B n a : Nat} {f f' : Nat → El} (h : Pre B n f a) (hb : a + B ≤ n) (hB : 0 < B) (hf : Frm a (a + B) f f') (hk : Ok a (a + B) f') : Pre B n f' (a + B) := fun g e hs =>
  h g (fun k hk => by rw [e k (by omega)]; exact hf.1 k (by omega)) (.cons a (by omega) (by
    rw [Nat.min_eq_left hb]
    exact hk.same fun k _ h2 => e k h2) hs)
theorem Pre.last {B n a : Nat} {f f' : Nat → El} (h : Pre B n f a) (ha : a ≤ n) (hb : n ≤ a + B) (hf : Frm a n f f') (hk : Ok a n f') : Suf B n f' 0 := by
  refine h f' (fun k hk => hf.1 k (by omega)) ?_
  by_cases c : a < n
  · exact .cons a c (by rw [Nat.min_eq_right hb]; exact hk) (.nil _ hb)
  · exact .nil a (by omega)

end Go.Proofs.YtchpjojndkkmeaaDoor.mrg
namespace Go.Proofs.YtchpjojndkkmeaaDoor.srt
open Go.Shelf Go.RowKit Go.Lib Go.Sort
open mrg (El)

theorem Sym.mono {blk off cap N N' : Nat} (S : Sym blk off cap N) (h : N' ≤ N) : Sym blk off cap N' := fun a m b d W B hN => S a m b d W B (by omega)
theorem sym (blk off cap : Nat) : ∀ N, Sym blk off cap N
  | 0 => fun a m b d W B hN h1 h2 => by omega
  | N + 1 => fun a m b d W B hN h1 h2 h3 h4 h5 h6 => by
    by_cases c1 : m = a + 1
    · subst c1
      have h := symUp blk off cap a b d W B h2 h3 h5 h6
      rw [show ((a + 1 : Nat) : Int) = (a : Int) + 1 from by omega]
      exact h
    · by_cases c2 : b = m + 1
      · subst c2
        have h := symDn blk off cap a m d W B (by omega) h3 h4 h6
        rw [show ((m + 1 : Nat) : Int) = (m : Int) + 1 from by omega]
        exact h
      · have S := (sym blk off cap N).mono (show b - a - 1 ≤ N by omega)
        by_cases c3 : (a + b) / 2 < m
        · exact symMid1 blk off cap a m b ((a + b) / 2) ((a + b) / 2 + m - 1) ((a + b) / 2 + m - b) ((a + b) / 2) d W B S (by omega) (by omega) h3
            ⟨h1, h2, rfl, by omega, .inl ⟨c3, by omega, rfl⟩, h4, h5, h6⟩ c3 (by omega) rfl
        · exact symMid2 blk off cap a m b ((a + b) / 2) ((a + b) / 2 + m - 1) a m d W B S (by omega) (by omega) h3
            ⟨h1, h2, rfl, by omega, .inr ⟨by omega, rfl, rfl⟩, h4, h5, h6⟩ (by omega) rfl rfl
theorem insAt (blk off cap a b c : Nat) (d dk : Array El) (os : Array Obj) (W : World) (B : Base W blk off d) (hs : dk.size = d.size) (hab : a ≤ b) (hb : b ≤ d.size)
    (hq : ∀ k j, a ≤ k → k < j → j < b → (mrg.at' dk k).1 < (mrg.at' dk j).1) :
    Calls Tryd.prog 75 #[.slice (some ⟨blk, off, none⟩) d.size cap, .int .i64 a, .int .i64 b, .func (.func 48) #[] #[]] (sortWorldK enc 2 W blk off c dk os) (Post W blk off d fun d' => mrg.Srt a b (mrg.at' d') ∧ mrg.Frm a b (mrg.at' dk) (mrg.at' d')) := by
  have B' := B.on (n := c) (os := os) hs
  have h := ins blk off cap a b dk (sortWorldK enc 2 W blk off c dk os) B'.hold B'.blk hab (by omega) B'.small hq
  rw [hs] at h
  exact h.mono fun e w' k => Post.on B.blk hs k

/-- Where the sort stands. -/
structure In1 (f0 f : Nat → El) (n a : Nat) : Prop where
  frm : mrg.Frm 0 n f0 f
  pre : mrg.Pre 20 n f a
  raw : ∀ k, a ≤ k → f k = f0 k
structure In2 (f0 f : Nat → El) (n B : Nat) : Prop where
  frm : mrg.Frm 0 n f0 f
  suf : mrg.Suf B n f 0
structure In3 (f0 f : Nat → El) (n B a : Nat) : Prop where
  frm : mrg.Frm 0 n f0 f
  pre : mrg.Pre (2 * B) n f a
  suf : mrg.Suf B n f a

theorem In1.asc {f0 f : Nat → El} {n a b : Nat} (I : In1 f0 f n a) (h0 : ∀ k, k < n → (f0 k).1 = (k : Int)) (hb : b ≤ n) : ∀ k j, a ≤ k → k < j → j < b → (f k).1 < (f j).1 := fun k j h1 h2 h3 => by
  rw [I.raw k h1, I.raw j (by omega), h0 k (by omega), h0 j (by omega)]; omega
theorem In1.ok {f0 f g : Nat → El} {n a b : Nat} (I : In1 f0 f n a) (h0 : ∀ k, k < n → (f0 k).1 = (k : Int)) (hb : b ≤ n) (hs : mrg.Srt a b g) (hf : mrg.Frm a b f g) : mrg.Ok a b g :=
  .ins (f := f) (fun k h1 h2 => by rw [I.raw k h1]; exact h0 k (by omega)) hs hf
theorem In1.step {f0 f g : Nat → El} {n a : Nat} (I : In1 f0 f n a) (h0 : ∀ k, k < n → (f0 k).1 = (k : Int)) (hb : a + 20 ≤ n) (hs : mrg.Srt a (a + 20) g) (hf : mrg.Frm a (a + 20) f g) : In1 f0 g n (a + 20) :=
  ⟨I.frm.trans (hf.mono (by omega) hb), I.pre.step hb (by omega) hf (I.ok h0 hb hs hf), fun k hk => by rw [hf.1 k (by omega)]; exact I.raw k (by omega)⟩
theorem In1.last {f0 f g : Nat → El} {n a : Nat} (I : In1 f0 f n a) (h0 : ∀ k, k < n → (f0 k).1 = (k : Int)) (ha : a ≤ n) (hb : n ≤ a + 20) (hs : mrg.Srt a n g) (hf : mrg.Frm a n f g) : In2 f0 g n 20 :=
  ⟨I.frm.trans (hf.mono (by omega) (Nat.le_refl _)), I.pre.last ha hb hf (I.ok h0 (Nat.le_refl _) hs hf)⟩
theorem In2.start {f0 f : Nat → El} {n B : Nat} (I : In2 f0 f n B) : In3 f0 f n B 0 := ⟨I.frm, mrg.Pre.zero _ _ _, I.suf⟩
/-- Two blocks beside one another. -/
theorem In3.two {f0 f : Nat → El} {n B a : Nat} (I : In3 f0 f n B a) (hB : 0 < B) (hm : a + B < n) : mrg.Ok a (a + B) f ∧ mrg.Ok (a + B) (min (a + B + B) n) f ∧ mrg.Suf B n f (a + B + B) := by
  obtain ⟨h1, h2⟩ := I.suf.head (by omega)
  obtain ⟨h3, h4⟩ := h2.head hm
  rw [Nat.min_eq_left (by omega)] at h1
  exact ⟨h1, h3, h4⟩
theorem In3.step {f0 f g : Nat → El} {n B a : Nat} (I : In3 f0 f n B a) (hB : 0 < B) (hb : a + 2 * B ≤ n) (hs : mrg.Srt a (a + 2 * B) g) (hf : mrg.Frm a (a + 2 * B) f g) : In3 f0 g n B (a + 2 * B) := by
  obtain ⟨h1, h2, h3⟩ := I.two hB (by omega)
  rw [show a + B + B = a + 2 * B by omega, Nat.min_eq_left hb] at h2
  rw [show a + B + B = a + 2 * B by omega] at h3
  exact ⟨I.frm.trans (hf.mono (by omega) hb), I.pre.step hb (by omega) hf (h1.merge h2 (by omega) (by omega) hs hf), h3.same fun k hk => hf.1 k (by omega)⟩
theorem In3.last {f0 f g : Nat → El} {n B a : Nat} (I : In3 f0 f n B a) (hB : 0 < B) (hm : a + B < n) (hb : n ≤ a + 2 * B) (hs : mrg.Srt a n g) (hf : mrg.Frm a n f g) : In2 f0 g n (2 * B) := by
  obtain ⟨h1, h2, _⟩ := I.two hB hm
  rw [Nat.min_eq_right (by omega)] at h2
  exact ⟨I.frm.trans (hf.mono (by omega) (Nat.le_refl _)), I.pre.last (by omega) hb hf (h1.merge h2 (by omega) (by omega) hs hf)⟩
theorem In3.none {f0 f : Nat → El} {n B a : Nat} (I : In3 f0 f n B a) (ha : a ≤ n) (hm : n ≤ a + B) : In2 f0 f n (2 * B) := by
  refine ⟨I.frm, I.pre.last ha (by omega) (mrg.Frm.refl _ _ _) ?_⟩
  by_cases c : a < n
  · have := (I.suf.head c).1
    rwa [Nat.min_eq_right hm] at this
  · exact ⟨fun i j h1 h2 h3 => by omega, fun k h1 h2 => by omega⟩
theorem In2.done {f0 f : Nat → El} {n B : Nat} (I : In2 f0 f n B) (h0 : 0 < n) (hn : n ≤ B) : mrg.Srt 0 n f ∧ mrg.Frm 0 n f0 f := by
  have := (I.suf.head h0).1
  rw [Nat.zero_add, Nat.min_eq_right hn] at this
  exact ⟨this.srt, I.frm⟩
end Go.Proofs.YtchpjojndkkmeaaDoor.srt

namespace Go.Proofs.YtchpjojndkkmeaaDoor.srt
open Go.Shelf Go.RowKit Go.Lib Go.Sort
open mrg (El)

set_option maxRecDepth 100000 in
set_option maxHeartbeats 4000000 in
theorem stable (blk off cap n : Nat) (d : Array El) (W : World) (B : Base W blk off d) (hn : d.size = n) (hp : 0 < n) (h0 : ∀ k, k < n → (mrg.at' d k).1 = (k : Int)) :
    Calls Tryd.prog 68 #[.slice (some ⟨blk, off, none⟩) n cap, .int .i64 n, .func (.func 48) #[] #[]] W (Post W blk off d fun d' => mrg.Srt 0 n (mrg.at' d') ∧ mrg.Frm 0 n (mrg.at' d) (mrg.at' d')) := by
  have BB := Lib.hid B
  have ST := Lib.hid (sortWorldK_start enc 2 W blk off d B.hold)
  have hsz := B.small
  rw [hn] at hsz
  have SY := fun N => sym blk off cap N
  have SYM := Lib.hid SY
  have H0 := Lib.hid h0
  have HN := Lib.hid hn
  clear B h0 hn SY
  go_enter Tryd.func68, Tryd.ntmps68
  go_wp2
  go_loopw [7, 8] (fun va vb wr => ∃ (a c : Nat) (dk : Array El) (os : Array Obj), va = .int .i64 a ∧ vb = .int .i64 ((a : Int) + 20) ∧ a ≤ n ∧ Hid (dk.size = d.size) ∧ wr = sortWorldK enc 2 W blk off c dk os ∧ Hid (In1 (mrg.at' d) (mrg.at' dk) n a)) (fun va _ _ => n - (intOf va).toNat)
  case atStart => exact ⟨0, 0, d, #[], by go_num, by go_num, by omega, (show Hid _ from rfl), ST.out.symm, ⟨mrg.Frm.refl _ _ _, mrg.Pre.zero _ _ _, fun _ _ => rfl⟩⟩
  case round =>
    obtain ⟨a, c, dk, os, rfl, rfl, han, HS, rfl, I⟩ := hrel
    by_cases hlt : a + 20 ≤ n
    · have u1 : decide ((a : Int) + 20 ≤ (n : Int)) = true := by simp; omega
      have K := insAt blk off cap a (a + 20) c d dk os W BB.out HS.out (by omega) (by rw [HN.out]; exact hlt) (I.out.asc H0.out hlt)
      rw [HN.out, show ((a + 20 : Nat) : Int) = (a : Int) + 20 from by omega] at K
      have KK := Lib.hid K
      clear K
      go_wp2_with fail
      refine KK.out.mono ?_
      rintro e w' ⟨rfl, c2, d2, os2, rfl, hs2, hp2⟩
      have I2 := Lib.hid (I.out.step H0.out hlt hp2.1 hp2.2)
      have HS2 := Lib.hid hs2
      clear hp2 hs2 KK
      go_wp2
      go_roundw
      case rel => exact ⟨a + 20, c2, d2, os2, by go_num, by go_num, by omega, HS2, rfl, I2⟩
      case measure => simp [intOf]; omega
    · have u1 : decide ((a : Int) + 20 ≤ (n : Int)) = false := by simp; omega
      have K := insAt blk off cap a n c d dk os W BB.out HS.out han (by rw [HN.out]; exact Nat.le_refl _) (I.out.asc H0.out (Nat.le_refl _))
      rw [HN.out] at K
      have KK := Lib.hid K
      clear K
      go_wp2_with fail
      refine KK.out.mono ?_
      rintro e w' ⟨rfl, c2, d2, os2, rfl, hs2, hp2⟩
      have I2 := Lib.hid (I.out.last H0.out han (by omega) hp2.1 hp2.2)
      have HS2 := Lib.hid hs2
      clear hp2 hs2 KK I HS
      go_wp2
      go_loopw [6] (fun vb wr => ∃ (B c : Nat) (dk : Array El) (os : Array Obj), vb = .int .i64 B ∧ 0 < B ∧ B ≤ 2 * n + 20 ∧ Hid (dk.size = d.size) ∧ wr = sortWorldK enc 2 W blk off c dk os ∧ Hid (In2 (mrg.at' d) (mrg.at' dk) n B)) (fun vb _ => n - (intOf vb).toNat)
      case atStart => exact ⟨20, c2, d2, os2, by go_num, by omega, by omega, HS2, rfl, I2⟩
      case round =>
        obtain ⟨B, c, dk, os, rfl, hB, hBn, HS, rfl, I⟩ := hrel
        by_cases hlt : B < n
        · have u1 : decide (B < n) = true := by simp; omega
          go_wp2
          go_loopw [7, 8] (fun va vb wr => ∃ (a c : Nat) (dk : Array El) (os : Array Obj), va = .int .i64 a ∧ vb = .int .i64 ((a : Int) + 2 * (B : Int)) ∧ a ≤ n ∧ Hid (dk.size = d.size) ∧ wr = sortWorldK enc 2 W blk off c dk os ∧ Hid (In3 (mrg.at' d) (mrg.at' dk) n B a)) (fun va _ _ => n - (intOf va).toNat)
          case atStart => exact ⟨0, c, dk, os, by go_num, by go_num, by omega, HS, rfl, I.out.start⟩
          case round =>
            obtain ⟨a, c, dk, os, rfl, rfl, han, HS, rfl, I⟩ := hrel
            by_cases hlt2 : a + 2 * B ≤ n
            · have u2 : decide ((a : Int) + 2 * (B : Int) ≤ (n : Int)) = true := by simp; omega
              obtain ⟨k1, k2, k3⟩ := I.out.two hB (by omega)
              rw [show a + B + B = a + 2 * B by omega, Nat.min_eq_left hlt2] at k2
              have K := (SYM.out (2 * B)).at (c := c) (os := os) (a := a) (m := a + B) (b := a + 2 * B) BB.out HS.out (by omega) (by omega) (by omega) (by rw [HN.out]; exact hlt2) k1.srt k2.srt (k1.crs k2)
              rw [HN.out, show ((a + 2 * B : Nat) : Int) = (a : Int) + 2 * (B : Int) from by omega, show ((a + B : Nat) : Int) = (a : Int) + (B : Int) from by omega] at K
              have KK := Lib.hid K
              clear K k1 k2 k3
              go_wp2_with fail
              refine KK.out.mono ?_
              rintro e w' ⟨rfl, c3, d3, os3, rfl, hs3, hp3⟩
              have I3 := Lib.hid (I.out.step hB hlt2 hp3.1 hp3.2)
              have HS3 := Lib.hid hs3
              clear hp3 hs3 KK
              go_wp2
              go_roundw
              case rel => exact ⟨a + 2 * B, c3, d3, os3, by go_num, by go_num, by omega, HS3, rfl, I3⟩
              case measure => simp [intOf]; omega
            · have u2 : decide ((a : Int) + 2 * (B : Int) ≤ (n : Int)) = false := by simp; omega
              by_cases hm : a + B < n
              · have u3 : decide ((a : Int) + (B : Int) < (n : Int)) = true := by simp; omega
                obtain ⟨k1, k2, k3⟩ := I.out.two hB hm
                rw [Nat.min_eq_right (by omega)] at k2
                have K := (SYM.out n).at (c := c) (os := os) (a := a) (m := a + B) (b := n) BB.out HS.out (by omega) (by omega) hm (by rw [HN.out]; exact Nat.le_refl _) k1.srt k2.srt (k1.crs k2)
                rw [HN.out, show ((a + B : Nat) : Int) = (a : Int) + (B : Int) from by omega] at K
                have KK := Lib.hid K
                clear K k1 k2 k3
                go_wp2_with fail
                refine KK.out.mono ?_
                rintro e w' ⟨rfl, c3, d3, os3, rfl, hs3, hp3⟩
                have I3 := Lib.hid (I.out.last hB hm (by omega) hp3.1 hp3.2)
                have HS3 := Lib.hid hs3
                clear hp3 hs3 KK
                go_wp2
                go_roundw
                case rel => exact ⟨2 * B, c3, d3, os3, by first | go_num | (congr 1; omega), by omega, by omega, HS3, rfl, I3⟩
                case measure => simp [intOf]; omega
              · have u3 : decide ((a : Int) + (B : Int) < (n : Int)) = false := by simp; omega
                have I3 := Lib.hid (I.out.none han (by omega))
                go_wp2
                go_roundw
                case rel => exact ⟨2 * B, c, dk, os, by first | go_num | (congr 1; omega), by omega, by omega, HS, rfl, I3⟩
                case measure => simp [intOf]; omega
        · have u1 : decide (B < n) = false := by simp; omega
          have FIN := Lib.hid (I.out.done hp (by omega))
          go_wp2
          go_end0
          exact ⟨rfl, c, dk, os, rfl, HS.out, FIN.out⟩

theorem sortStable (blk off cap n : Nat) (d : Array El) (W : World) (B : Base W blk off d) (hn : d.size = n) (hp : 0 < n) (h0 : ∀ k, k < n → (mrg.at' d k).1 = (k : Int)) :
    Calls Tryd.prog 47 #[.slice (some ⟨blk, off, none⟩) n cap, .func (.func 48) #[] #[]] W (Post W blk off d fun d' => mrg.Srt 0 n (mrg.at' d') ∧ mrg.Frm 0 n (mrg.at' d) (mrg.at' d')) := by
  have K := Lib.hid (stable blk off cap n d W B hn hp h0)
  clear B hn h0
  go_enter Tryd.func47, Tryd.ntmps47
  go_wp2_with fail
  refine K.out.mono ?_
  rintro e w' ⟨rfl, h⟩
  have HH := Lib.hid h
  clear h
  go_wp2
  go_end0
  exact ⟨rfl, HH.out⟩
end Go.Proofs.YtchpjojndkkmeaaDoor.srt
