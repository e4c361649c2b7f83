/-
  Plain helpers of this seat's proofs: the landed iterator over Parts from the last one on. Conditions: none.
-/
import Derived.Test.YtmnmijiikjpdnaaBw
import Derived.RangeFuncNested
import Derived.RangeFuncBound
import Derived.RangeFuncCalls
import Derived.RangeFuncLeaves
import Derived.Shelf.Abstract
import Derived.Shelf.AbstractIn
import Derived.Shelf.RegionOpen
import Derived.OwnWalkIn
import Derived.TacticsInMore
import Derived.LoopNIn
import Derived.LoopIn
import Derived.Stop.RegionWithIn
namespace Go.Proofs.Ytmnmijiikjpdnaa.base
open Go.ChangeShapes Go.WideShapes Go.ChangeAt Go.RowKit
open seven (F7 zz Row At)
open pl (inR prOk pok)
open gen
open Go.Shelf
attribute [local go_sem] Oper.semAt_some
set_option maxRecDepth 100000 in
set_option maxHeartbeats 4000000 in
theorem bkIt (n : Nat) (hn : 6 ≤ n) (g Bs len cap : Nat) (hlen : len ≤ 24) :
    rf.IterK Fence.wide n Try.prog 66 #[.pointer (some ⟨Bs, 0, none⟩)] (encP g) (fun pre => Rb g Bs len cap pre.length) (fun pre j => j + 1 + pre.length = len) (fun xs => xs.length = len) := by
  intro l J Jx W hst hsx hQ hY h0
  have HST := Lib.hid hst
  have HSX := Lib.hid hsx
  have HQ := Lib.hid hQ
  have HY := Lib.hid hY
  have hh0 := (hQ _ _ h0).hd
  have J0 := Lib.hid h0
  clear hst hsx hQ hY h0
  have hro : Fence.wide.round = none := rfl
  have hw1 : Fence.wide.fn 67 := trivial
  refine callsIn_of_wp_marks Try.func66 rfl trivial ?_ hro
  simp only [Try.ntmps66, List.size_toArray, List.length_cons, List.length_nil, Nat.reduceAdd, Nat.reduceSub, Array.replicate_succ, Array.replicate_zero, List.push_toArray, List.append_toArray, List.nil_append, List.cons_append]
  have hh1 : (W.alloc (.cells #[.func (.yield l) #[] #[]] 75)).cell? ⟨Bs, 0, none⟩ = some (.slice (some ⟨g, 0, none⟩) len cap) := cell_kept hh0 (World.grownBy_alloc W _ none) (fun r e => by cases e)
  gi_wp2_with fail
  refine ⟨fun _ => (by omega), (callsIn_wide.2 (b7C _ _ _ _)).mono ?_⟩
  rintro e w3 ⟨rfl, rfl⟩
  gi_wp2_with fail
  obtain ⟨W1, hW1⟩ : ∃ W1, W1 = W.alloc (.cells #[.func (.yield l) #[] #[]] 75) := ⟨_, rfl⟩
  rw [← hW1] at hh1
  rw [← hW1]
  have s1 : W1.heap.size = W.heap.size + 1 := by rw [hW1]; simp
  have J1 := Lib.hid (show J [] W1 from by rw [hW1]; exact HST.out _ _ _ none J0.out (World.grownBy_alloc W _ none) (fun r e => by cases e))
  have Y1 : W1.cell? ⟨W.heap.size, 0, none⟩ = some (.func (.yield l) #[] #[]) := by rw [hW1]; exact box_cell (box_refl W _) 0 rfl
  clear hW1 hh0 J0
  obtain ⟨W2, hW2⟩ : ∃ W2, W2 = W1.alloc (.cells #[.slice (some ⟨g, 0, none⟩) len cap] 24) := ⟨_, rfl⟩
  rw [← hW2]
  have s2 : W2.heap.size = W1.heap.size + 1 := by rw [hW2]; simp
  have J2 := Lib.hid (show J [] W2 from by rw [hW2]; exact HST.out _ _ _ none J1.out (World.grownBy_alloc W1 _ none) (fun r e => by cases e))
  have Y2 : W2.cell? ⟨W.heap.size, 0, none⟩ = some (.func (.yield l) #[] #[]) := by rw [hW2]; exact cell_kept Y1 (World.grownBy_alloc W1 _ none) (fun r e => by cases e)
  have H2 : W2.cell? ⟨W1.heap.size, 0, none⟩ = some (.slice (some ⟨g, 0, none⟩) len cap) := by rw [hW2]; exact box_cell (box_refl W1 _) 0 rfl
  clear hW2 hh1 Y1 J1
  obtain ⟨N, hN⟩ : ∃ N, N = W.heap.size := ⟨_, rfl⟩
  obtain ⟨By, hBy⟩ : ∃ By, By = W.heap.size := ⟨_, rfl⟩
  obtain ⟨Bh, hBh⟩ : ∃ Bh, Bh = W1.heap.size := ⟨_, rfl⟩
  have e1 : W.heap.size + 1 = Bh := by omega
  rw [← hN] at HST HSX HY
  try rw [e1]
  try rw [← hBh]
  rw [← hBh] at H2 s2 s1
  clear e1
  rw [← hBy] at Y2 s1
  rw [← hBy]
  have nBy : N ≤ By := by omega
  have nBh : N ≤ Bh := by omega
  have hyh : By ≠ Bh := by omega
  have nW2 : N ≤ W2.heap.size := by omega
  have ly : By < W2.heap.size := by omega
  have lh : Bh < W2.heap.size := by omega
  clear hN hBy hBh s1 s2
  refine rf.rangeK hro (by omega) (gf := 72) (lb := #[.pointer (some ⟨Bh, 0, none⟩)]) rfl trivial (enters_of Try.func72 (by kernel_rfl) rfl)
    (bwIt (n - 1) (by omega) g Bh len cap hlen) (fun _ => rfl)
    (fun pre A => J (pre.map Prod.fst) A ∧ A.cell? ⟨By, 0, none⟩ = some (.func (.yield l) #[] #[]) ∧ A.cell? ⟨Bh, 0, none⟩ = some (.slice (some ⟨g, 0, none⟩) len cap) ∧ W2.heap.size ≤ A.heap.size)
    (fun c pre A => c = .ret ∧ Jx (pre.map Prod.fst) A)
    (fun x a' A => a' = { tmps := #[.func (.yield l) #[] #[], .pointer (some ⟨Bs, 0, none⟩), .pointer (some ⟨By, 0, none⟩), .int .i64 (x.1 : Int), .slice (some ⟨g, 0, none⟩) len cap, .func (.func 72) #[] #[.pointer (some ⟨Bh, 0, none⟩)], .int .i64 (x.1 : Int), .agg #[.int .i64 x.2.1, .int .i64 x.2.2.1, .int .i64 x.2.2.2.1, .int .i64 x.2.2.2.2.1, .int .i64 x.2.2.2.2.2.1, .int .i64 x.2.2.2.2.2.2.1, .int .i64 x.2.2.2.2.2.2.2], undef, undef, undef, undef, undef, undef], defers := [] })
    (fun s A B row hs hg hr => ⟨HST.out _ _ _ row hs.1 hg (fun r e => ⟨Nat.le_trans nW2 (hr r e).1, (hr r e).2⟩), cell_kept hs.2.1 hg (fun r e => (hr r e).2), cell_kept hs.2.2.1 hg (fun r e => (hr r e).2), Nat.le_trans hs.2.2.2 hg.size⟩)
    (fun c s A B row hs hg hr => ⟨hs.1, HSX.out _ _ _ row hs.2 hg (fun r e => ⟨Nat.le_trans nW2 (hr r e).1, (hr r e).2⟩)⟩)
    (fun x a' s A B row hs _ _ => hs)
    (fun pre A h => ⟨h.2.2.1, fun i hi => by have := (HQ.out _ _ h.1).pt i (by rw [List.length_map]; exact hi); exact this⟩)
    ⟨J2.out, Y2, H2, Nat.le_refl _⟩ ?assign ?body ?done ?stop
  case assign =>
    rintro lp pre x A K hI hV hK
    dsimp only [encB]
    gi_wp2
    exact hK _ _ (KeepsFrom.refl _ _) (rf.Kept.refl _ _) hI rfl
  case body =>
    rintro lp pre x a' A ⟨h1, h2, h3, h4⟩ hV rfl
    have hJd : J (pre.map Prod.fst) A.drew := HST.out _ _ _ none h1 (by_below (Below.refl _ A).drew) (fun r e => by cases e)
    obtain ⟨fn, tmps, assign, body, hy, hR⟩ := HY.out (pre.map Prod.fst) x.1 A.drew hJd (by rw [List.length_map]; exact hV)
    have hR' := Lib.hid (show RoundIn Fence.wide (n - 1) Try.prog l fn tmps assign body A.drew (fun e B => ∃ b : Bool, e = .returned (.bool b) ∧ (b = true → J (pre.map Prod.fst ++ [x.1]) B ∧ rf.Kept N A.drew B) ∧ (b = false → Jx (pre.map Prod.fst ++ [x.1]) B ∧ KeepsFrom N A.drew B)) from hR.mono fun e B h => by
      rcases h with ⟨rfl, h2, h3⟩ | ⟨rfl, h2, h3⟩
      · exact ⟨true, rfl, fun _ => ⟨h2, h3⟩, fun h => by cases h⟩
      · exact ⟨false, rfl, fun h => (by cases h), fun _ => ⟨h2, h3⟩⟩)
    dsimp only [encP] at hy
    have hd := (HQ.out _ _ h1).hd
    have mixed : Try.prog.follows .mixedOrders = true := Try.checked.mixed
    obtain ⟨j, hj⟩ : ∃ j, j = x.1 := ⟨_, rfl⟩
    have hjl : j < len := by rw [hj]; omega
    rw [← hj] at hy hR' ⊢
    have z0 : (0 : Int) ≤ (j : Int) := by omega
    have z1 : (j : Int) < (len : Int) := by omega
    have HJ := Lib.hid hj
    have EJ := Lib.hid (show (pre ++ [x]).map Prod.fst = pre.map Prod.fst ++ [j] from by rw [hj]; simp)
    have kd : rf.Kept N A A.drew := rf.Kept.drew _ _
    have FT := Lib.hid (show ∀ W3, (J (pre.map Prod.fst ++ [j]) W3 ∧ rf.Kept N A.drew W3) → KeepsFrom W2.heap.size A W3 ∧ rf.Kept (W2.heap.size + 2) A W3 ∧ J ((pre ++ [x]).map Prod.fst) W3 ∧ W3.cell? ⟨By, 0, none⟩ = some (.func (.yield l) #[] #[]) ∧ W3.cell? ⟨Bh, 0, none⟩ = some (.slice (some ⟨g, 0, none⟩) len cap) ∧ W2.heap.size ≤ W3.heap.size from fun W3 h => by
      have hk := kd.trans h.2
      refine ⟨(hk.mono nW2).from, hk.mono (by omega), by rw [EJ.out]; exact h.1, ?_, ?_, Nat.le_trans h4 hk.1⟩
      · rw [World.cell?_of_block (w := A) (a := ⟨By, 0, none⟩) (hk.2 By nBy (by omega))]; exact h2
      · rw [World.cell?_of_block (w := A) (a := ⟨Bh, 0, none⟩) (hk.2 Bh nBh (by omega))]; exact h3)
    have FF := Lib.hid (show ∀ W3, (Jx (pre.map Prod.fst ++ [j]) W3 ∧ KeepsFrom N A.drew W3) → KeepsFrom W2.heap.size A W3 ∧ Jx ((pre ++ [x]).map Prod.fst) W3 from fun W3 h => by
      have hk := kd.from.trans h.2
      exact ⟨⟨hk.size, fun k o hk2 h0 ho => hk.same k o (Nat.le_trans nW2 hk2) h0 ho⟩, by rw [EJ.out]; exact h.1⟩)
    clear hR hJd h1 hj hV kd EJ h3 h4
    gi_wp2_with fail
    gi_region_with (first | (refine (rf.roundIn_wide hR'.out).mono ?_; rintro e W3 ⟨b, rfl, hb1, hb2⟩) | (refine ⟨fun _ => (by omega), (rf.roundIn_wide hR'.out).mono ?_⟩; rintro e W3 ⟨b, rfl, hb1, hb2⟩))
    all_goals
      cases b
      · have FE := Lib.hid (FF.out W3 (hb2 rfl))
        clear hb1 hb2 FF FT
        gi_wp2
        exact ⟨FE.out.1, rfl, FE.out.2⟩
      · have FE := Lib.hid (FT.out W3 (hb1 rfl))
        clear hb1 hb2 FF FT
        gi_wp2
        exact FE.out
  case done =>
    rintro xs A D hD hK hS ⟨h1, h2, h3, h4⟩
    gi_wp2
    refine ⟨by simp, .inl ⟨_, _, rfl, run_takeDeferred hK, ?_⟩⟩
    refine ⟨_, results_none rfl _ _ _, ?_⟩
    exact ⟨⟨_, rfl⟩, .inl ⟨xs.map Prod.fst, by rw [List.length_map]; exact hS, HST.out.putObj _ h1 (Nat.le_trans nW2 hD) hK rfl⟩⟩
  case stop =>
    rintro c pre A D hD hK ⟨rfl, hx⟩
    gi_wp2
    refine ⟨by simp, .inl ⟨_, _, rfl, run_takeDeferred hK, ?_⟩⟩
    refine ⟨_, results_none rfl _ _ _, ?_⟩
    exact ⟨⟨_, rfl⟩, .inr ⟨pre.map Prod.fst, HSX.out.putObj _ hx (Nat.le_trans nW2 hD) hK rfl⟩⟩
end Go.Proofs.Ytmnmijiikjpdnaa.base
