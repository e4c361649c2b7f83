/-
  Plain helpers of this seat's proofs: the contract of slices.Concat of a list of rates and one rate. Conditions: none.
-/
import Derived.Test.YtnkdjnfbllkgiabGrow
namespace Go.Proofs.Ytnkdjnfbllkgiab.draw
open Go.ChangeShapes Go.WideShapes Go.ChangeAt Go.RowKit
open led (F5 z5)
open five (Row At Blk)
theorem fl_len (l : List F5) : (fl l).length = l.length * 5 := by
  induction l with
  | nil => rfl
  | cons x l ih => show (fl l).length + 1 + 1 + 1 + 1 + 1 = _; rw [ih, List.length_cons]; omega
theorem fl_one : ∀ (l : List F5), ∀ u ∈ fl l, u.oneCell' = true
  | [], u, h => by simp [fl] at h
  | x :: l, u, h => by
    simp only [fl, List.mem_cons] at h
    rcases h with rfl | rfl | rfl | rfl | rfl | h
    all_goals first | rfl | exact fl_one l u h
theorem add0 (g j : Nat) : (⟨g, 0, none⟩ : Addr).add j = ⟨g, j, none⟩ := by
  unfold Addr.add
  by_cases h : j = 0 <;> simp [h]
theorem fl_news {w : World} {g : Nat} {l : List F5} (hc : ∀ i, i < l.length → At w g (i * 5) (l.getD i z5)) : ∀ j u, (fl l)[j]? = some u → w.cell? ((⟨g, 0, none⟩ : Addr).add j) = some u := by
  intro j u hj
  rw [add0]
  have hlt : j < l.length * 5 := by rw [← fl_len]; exact (List.getElem?_eq_some_iff.1 hj).1
  have e : j / 5 * 5 + j % 5 = j := by omega
  have m : j % 5 < 5 := Nat.mod_lt _ (by omega)
  have h1 := fl_get l (j / 5) (j % 5) (by omega) m
  have ha := hc (j / 5) (by omega)
  have key : w.cell? ⟨g, j / 5 * 5 + j % 5, none⟩ = some (cz (l.getD (j / 5) z5) (j % 5)) := by
    generalize j % 5 = k at m
    match k, m with
    | 0, _ => exact ha.c0
    | 1, _ => exact ha.c1
    | 2, _ => exact ha.c2
    | 3, _ => exact ha.c3
    | 4, _ => exact ha.c4
  rw [e] at h1 key
  rw [hj] at h1
  rw [key, ← h1]
theorem own_ge {w : World} {B e s n : Nat} {v : Value} {xs : List Value} (h : w.ownsRow B e s v n xs) : ∀ k, v.ownBlock = some k → B ≤ k := fun k hk => by
  rcases h.2 with ⟨rfl, _⟩ | ⟨g, cap, cur, rfl, hg, _⟩
  · cases hk
  · cases hk; exact hg
theorem own_some {w : World} {B e s n : Nat} {v : Value} {xs : List Value} (h : w.ownsRow B e s v n xs) (hn : v ≠ .slice none 0 0) : ∃ g cap, v = .slice (some ⟨g, 0, none⟩) n cap ∧ B ≤ g ∧ g < w.heap.size ∧ n ≤ cap := by
  rcases h.2 with ⟨rfl, _⟩ | ⟨g, cap, cur, rfl, hg, hh, hc, _⟩
  · exact absurd rfl hn
  · exact ⟨g, cap, rfl, hg, (Array.getElem?_eq_some_iff.1 hh).1, hc⟩
/-- A list of rates in a block of its own, never nil. -/
def Made (w : World) (l : List F5) (v : Value) (w' : World) : Prop := ∃ cap g, v = .slice (some ⟨g, 0, none⟩) l.length cap ∧ Row w' (some ⟨g, 0, none⟩) cap g l ∧ w.heap.size ≤ g ∧ g < w'.heap.size ∧ Below w.heap.size w w'
theorem made_of {w w' : World} {v : Value} {l : List F5} (h : w'.ownsRow w.heap.size 25 5 v l.length (fl l)) (hn : v ≠ .slice none 0 0) (hb : Below w.heap.size w w') : Made w l v w' := by
  obtain ⟨g, cap, rfl, hg, hlt, hc⟩ := own_some h hn
  obtain ⟨a, c, g', e, R, G⟩ := of_owns5 h
  injection e with e1 e2 e3
  subst e1 e3
  rcases Nat.eq_zero_or_pos l.length with h0 | h0
  · exact ⟨cap, g, rfl, ⟨fun h => by omega, hc, fun i hi => by omega, fun h => by omega⟩, hg, hlt, hb⟩
  · have := R.addr h0
    injection this with this
    injection this with this
    subst this
    exact ⟨cap, g, rfl, R, hg, hlt, hb⟩

set_option maxRecDepth 40000 in
set_option maxHeartbeats 4000000 in
theorem concat (w : World) (B gl cl gr cr : Nat) (l : List F5) (x : F5) (hn : l.length ≤ 1048576) (hl : Row w (some ⟨gl, 0, none⟩) cl gl l) (hx : At w gr 0 x) (lB : B < w.heap.size) (s0 : w.cell? ⟨B, 0, none⟩ = some (.slice (some ⟨gl, 0, none⟩) l.length cl)) (s1 : w.cell? ⟨B, 1, none⟩ = some (.slice (some ⟨gr, 0, none⟩) 1 cr)) :
    Calls Try.prog 41 #[.slice (some ⟨B, 0, none⟩) 2 2] w fun e w' => ∃ v, e = .returned v ∧ Made w (l ++ [x]) v w' := by
  have HLn := Lib.hid hn
  have HL := Lib.hid hl
  have HX := Lib.hid hx
  have S0 := Lib.hid s0
  have S1 := Lib.hid s1
  obtain ⟨n, hnz⟩ : ∃ n, n = l.length := ⟨_, rfl⟩
  have HNZ := Lib.hid hnz
  rw [← hnz] at s0 hn
  clear hl hx hnz
  obtain ⟨i5, hi2, hz20, hz21, hz22⟩ := info_parts five.infoE
  have INF := Lib.hid (And.intro hi2 (And.intro hz20 (And.intro hz21 hz22)))
  clear hi2 hz20 hz21 hz22
  go_enter Try.func41, Try.ntmps41
  go_wp2
  go_loop [3, 11] (fun sv iv => (iv = .int .i64 0 ∧ sv = .int .i64 0) ∨ (iv = .int .i64 1 ∧ sv = .int .i64 n) ∨ (iv = .int .i64 2 ∧ sv = .int .i64 ((n : Int) + 1))) (fun _ iv => 2 - (intOf iv).toNat)
  case atStart => exact .inl ⟨rfl, rfl⟩
  case round =>
    rcases hrel with ⟨rfl, rfl⟩ | ⟨rfl, rfl⟩ | ⟨rfl, rfl⟩
    · have t1 : decide ((n : Int) < 0) = false := by simp
      go_wp2
      go_round
      case rel => exact .inr (.inl ⟨by go_num, by go_num⟩)
      case measure => simp [intOf]
    · have t1 : decide ((n : Int) + 1 < 0) = false := by simp; omega
      go_wp2
      go_round
      case rel => exact .inr (.inr ⟨by go_num, by go_num⟩)
      case measure => simp [intOf]
    · obtain ⟨m, hm⟩ : ∃ m : Nat, m = n + 1 := ⟨_, rfl⟩
      have em : ((n : Int) + 1) = (m : Int) := by omega
      rw [em]
      have HG := Lib.hid (growN m w (by omega) (by omega))
      clear em hm s0 s1
      go_wp2_with fail
      refine HG.out.mono ?_
      rintro e w1 ⟨cap, rfl, own1, b1⟩
      have O1 := Lib.hid own1
      have B1 := Lib.hid b1
      clear own1 b1 HG
      go_wp2
      go_loopw [6, 27] (fun v iv wr => Below w.heap.size w wr ∧ v ≠ .slice none 0 0 ∧ ((iv = .int .i64 0 ∧ wr.ownsRow w.heap.size 25 5 v 0 (fl [])) ∨ (iv = .int .i64 1 ∧ wr.ownsRow w.heap.size 25 5 v l.length (fl l)) ∨ (iv = .int .i64 2 ∧ wr.ownsRow w.heap.size 25 5 v (l ++ [x]).length (fl (l ++ [x]))))) (fun _ iv _ => 2 - (intOf iv).toNat)
      case atStart => exact ⟨B1.out, by simp, .inl ⟨rfl, O1.out⟩⟩
      case round =>
        obtain ⟨hb, hnn, ⟨rfl, how⟩ | ⟨rfl, how⟩ | ⟨rfl, how⟩⟩ := hrel
        · have OB := Lib.hid hb
          have OW := Lib.hid how
          have NN := Lib.hid hnn
          have s0 := (hb.cell (p := ⟨B, 0, none⟩) lB).trans S0.out
          have NEWS := Lib.hid (fl_news (w := wr) (g := gl) (l := l) (fun i hi => (HL.out.cells i hi).keep (hb.block gl (HL.out.lt (by omega)))))
          have szW := hb.size
          have ln := HLn.out
          clear hb hnn how
          obtain ⟨hi2, hz20, hz21, hz22⟩ := INF.out
          go_wp2_with (at_builtin; refine wpList_append_own_at _ rfl _ _ 31 rfl w.heap.size 25 i5 (.agg #[.int .i64 0, .int .i64 0, .int .i64 0, .int .i64 0, .int .i64 0]) 5 40 Try.underlying31 hi2 hz20 hz21 hz22 rfl (by decide) _ _ _ rfl OW.out ⟨gl, 0, none⟩ l.length cl (fl l) rfl (fl_len l) NEWS.out (fl_one l) (by unfold maxLen; omega) (by omega) (by omega) ?_)
          intro v3 w3 hown3 hgrow3 hnil3 _
          have OB3 := Lib.hid (OB.out.grown hgrow3 OB.out.size (own_ge OW.out))
          have OW3 := Lib.hid (show w3.ownsRow w.heap.size 25 5 v3 l.length (fl l) from by first | exact hown3 | (rw [Nat.zero_add] at hown3; exact hown3))
          have NN3 := Lib.hid (show v3 ≠ .slice none 0 0 from fun h => by first | exact NN.out (hnil3.1 h).1 | exact hnil3 h)
          clear hown3 hgrow3 hnil3 hi2 hz20 hz21 hz22 szW s0 ln
          go_wp2
          go_roundw
          case rel => exact ⟨OB3.out, NN3.out, .inr (.inl ⟨by go_num, OW3.out⟩)⟩
          case measure => simp [intOf]
        · have OB := Lib.hid hb
          have OW := Lib.hid how
          have NN := Lib.hid hnn
          have s1 := (hb.cell (p := ⟨B, 1, none⟩) lB).trans S1.out
          have NEWS := Lib.hid (fl_news (w := wr) (g := gr) (l := [x]) (fun i hi => by
            obtain rfl : i = 0 := by simp at hi; omega
            exact HX.out.keep (hb.block gr HX.out.lt)))
          have szW := hb.size
          have ln := HLn.out
          clear hb hnn how
          obtain ⟨hi2, hz20, hz21, hz22⟩ := INF.out
          go_wp2_with (at_builtin; refine wpList_append_own_at _ rfl _ _ 31 rfl w.heap.size 25 i5 (.agg #[.int .i64 0, .int .i64 0, .int .i64 0, .int .i64 0, .int .i64 0]) 5 40 Try.underlying31 hi2 hz20 hz21 hz22 rfl (by decide) _ _ _ rfl OW.out ⟨gr, 0, none⟩ 1 cr (fl [x]) rfl rfl NEWS.out (fl_one [x]) (by unfold maxLen; omega) (by omega) (by omega) ?_)
          intro v3 w3 hown3 hgrow3 hnil3 _
          have OB3 := Lib.hid (OB.out.grown hgrow3 OB.out.size (own_ge OW.out))
          have OW3 := Lib.hid (show w3.ownsRow w.heap.size 25 5 v3 (l ++ [x]).length (fl (l ++ [x])) from by rw [List.length_append, fl_app]; exact hown3)
          have NN3 := Lib.hid (show v3 ≠ .slice none 0 0 from fun h => by first | exact NN.out (hnil3.1 h).1 | exact hnil3 h)
          clear hown3 hgrow3 hnil3 hi2 hz20 hz21 hz22 szW s1 ln
          go_wp2
          go_roundw
          case rel => exact ⟨OB3.out, NN3.out, .inr (.inr ⟨by go_num, OW3.out⟩)⟩
          case measure => simp [intOf]
        · have MD := Lib.hid (made_of how hnn hb)
          clear hb hnn how
          go_wp2
          go_ret
          exact ⟨_, rfl, MD.out⟩
end Go.Proofs.Ytnkdjnfbllkgiab.draw
