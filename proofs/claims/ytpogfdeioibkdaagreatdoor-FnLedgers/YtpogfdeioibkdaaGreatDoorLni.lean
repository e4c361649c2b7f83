/-
  Plain helpers of this seat's proofs: what the iterator over the lines of a text hands on. Conditions: none.
-/
import Derived.Test.YtpogfdeioibkdaaGreatDoorRls
import Derived.Test.YtpogfdeioibkdaaGreatDoorRfb
import Derived.Test.YtpogfdeioibkdaaGreatDoorShelf
import Derived.Test.YtpogfdeioibkdaaGreatDoorSt
import Derived.Shelf.Abstract
import Derived.Shelf.AbstractIn
import Derived.Shelf.RegionOpen
import Derived.OwnWalkIn
import Derived.TacticsInMore
import Derived.LoopNIn
import Derived.LoopIn
namespace Go.Proofs.YtpogfdeioibkdaaGreatDoor.ptm
open Go.ChangeShapes Go.WideShapes Go.ChangeAt Go.RowKit
open Go.Shelf
attribute [local go_sem] Oper.semAt_some
/-- The pieces of a text, each with its line feed. -/
def pc : List UInt8 → List (List UInt8)
  | [] => []
  | b :: l => if b = 10 then [10] :: pc l else match pc l with
    | [] => [[b]]
    | w :: r => (b :: w) :: r
theorem pc_none : ∀ {l : List UInt8}, (10 : UInt8) ∉ l → l ≠ [] → pc l = [l]
  | [], _, h => absurd rfl h
  | b :: l, h, _ => by
    have h1 : ¬ b = 10 := fun q => h (by rw [q]; simp)
    by_cases e : l = []
    · subst e; simp [pc, h1]
    · have h2 := pc_none (l := l) (fun q => h (List.mem_cons_of_mem _ q)) e
      simp [pc, h1, h2]
theorem pc_at : ∀ {x : List UInt8} (y : List UInt8), (10 : UInt8) ∉ x → pc (x ++ 10 :: y) = (x ++ [10]) :: pc y
  | [], y, _ => by simp [pc]
  | b :: x, y, h => by
    have h1 : ¬ b = 10 := fun q => h (by rw [q]; simp)
    have h2 := pc_at (x := x) y (fun q => h (List.mem_cons_of_mem _ q))
    simp [pc, h1, h2]
def encL (x : List UInt8) : Array Value := #[.string ⟨x.toArray⟩]
/-- What may come next. -/
def Nxl (L : List UInt8) (pre : List (List UInt8)) (x : List UInt8) : Prop := ∃ post, pc L = pre ++ x :: post
theorem by_below {A B : World} (h : Below A.heap.size A B) : A.grownBy B none := ⟨h.os, h.tape, h.output, h.size, fun k hk _ => h.block k hk⟩
theorem ix_no {l : List UInt8} (h : (10 : UInt8) ∉ l) : Lib.indexByte l (10 : Int).toNat.toUInt8 = -1 := ix_none h
theorem ix_yes {x : List UInt8} (y : List UInt8) (h : (10 : UInt8) ∉ x) : Lib.indexByte (x ++ 10 :: y) (10 : Int).toNat.toUInt8 = x.length := ix_at y h
theorem cell_back {A B : World} {b : Nat} {v : Value} (h : rf.Sm b A B) (hc : A.cell? ⟨b, 0, none⟩ = some v) : B.cell? ⟨b, 0, none⟩ = some v := (World.cell?_of_block (w := A) (a := ⟨b, 0, none⟩) h).trans hc
theorem frozen_back {A B : World} {b : Nat} (h : rf.Sm b A B) (hc : A.frozen? ⟨b, 0, none⟩ = false) : B.frozen? ⟨b, 0, none⟩ = false := (World.frozen?_of_block (w := A) (a := ⟨b, 0, none⟩) h).trans hc
set_option maxRecDepth 100000 in
set_option maxHeartbeats 4000000 in
theorem lnIt (n : Nat) (hn : 2 ≤ n) (Bs : Nat) (L : List UInt8) (hlen : L.length ≤ 1048576) :
    rf.IterB Fence.wide n Tryz.prog 48 #[.pointer (some ⟨Bs, 0, none⟩)] encL Bs (.string ⟨L.toArray⟩) (Nxl L) (fun xs => xs = pc L) := by
  intro l J Jx W hst hset hY h0 hc0 hf0
  have HST := Lib.hid hst
  have HSE := Lib.hid hset
  have HY := Lib.hid hY
  clear hst hset hY
  have hro : Fence.wide.round = none := rfl
  refine callsIn_of_wp Tryz.func48 rfl trivial ?_ hro
  simp only [Tryz.ntmps48, List.size_toArray, List.length_cons, List.length_nil, Nat.reduceAdd, Nat.reduceSub, Array.replicate_succ, Array.replicate_zero, List.push_toArray, List.append_toArray, List.nil_append, List.cons_append]
  gi_wp2
  gi_loopw [3] (fun _ wr => ∃ (pre : List (List UInt8)) (rest : List UInt8), pc L = pre ++ pc rest ∧ rest.length ≤ L.length ∧ wr.cell? ⟨Bs, 0, none⟩ = some (.string ⟨rest.toArray⟩) ∧ wr.frozen? ⟨Bs, 0, none⟩ = false ∧ J pre wr) (fun _ wr => match wr.cell? ⟨Bs, 0, none⟩ with | some (.string a) => a.size | _ => 0)
  case atStart => exact ⟨[], L, rfl, Nat.le_refl _, hc0, hf0, h0⟩
  case round =>
    obtain ⟨pre, rest, hp, hl, hc, hf, hJ⟩ := hrel
    have JJ := Lib.hid hJ
    have HP := Lib.hid hp
    have HL := Lib.hid hl
    obtain ⟨m, hm⟩ : ∃ m, m = rest.length := ⟨_, rfl⟩
    have el : (⟨rest.toArray⟩ : ByteArray).size = m := hm.symm
    have HM := Lib.hid hm
    have ml : m ≤ 1048576 := by omega
    clear hJ hp hl hc0 hf0 h0 hm
    by_cases he : rest = []
    · subst he
      have e0 : m = 0 := HM.out
      subst e0
      have E := Lib.hid (show pre = pc L from by rw [HP.out]; simp [pc])
      clear hlen
      gi_wp2
      go_end0
      exact ⟨⟨_, rfl⟩, .inl ⟨_, E.out, JJ.out⟩⟩
    · have mp : 0 < m := by rw [HM.out]; cases rest with | nil => exact absurd rfl he | cons b r => simp
      have t0 : decide ((0 : Int) < (m : Int)) = true := by simp; omega
      have t0' : decide (0 < m) = true := by simp; omega
      have IX := Lib.hid (fun W => (Tryz.strings_IndexByte ⟨rest.toArray⟩ 10 W).mono (fun _ _ q => (⟨q.1, q.2.symm⟩ : _ ∧ W = _)))
      have hw : Fence.wide.fn 49 := trivial
      rcases cut_cases 10 rest with q | ⟨x, y, q, e⟩
      · have IN := Lib.hid (ix_no q)
        have PN := Lib.hid (pc_none q he)
        have hy0 := HY.out pre rest (wr.setCell ⟨Bs, 0, none⟩ (.string ⟨#[]⟩)) (HSE.out _ _ _ JJ.out) ⟨[], by rw [HP.out, PN.out]⟩
        obtain ⟨fn, tmps, assign, body, hy, hR⟩ := hy0
        dsimp only [encL] at hy
        have SB := Lib.hid (show (wr.setCell ⟨Bs, 0, none⟩ (.string ⟨#[]⟩)).cell? ⟨Bs, 0, none⟩ = some (.string ⟨#[]⟩) from World.cell?_setCell_same' _ _ _ (by rw [hc]; rfl))
        have SF := Lib.hid (show (wr.setCell ⟨Bs, 0, none⟩ (.string ⟨#[]⟩)).frozen? ⟨Bs, 0, none⟩ = false from by rw [World.frozen?_setCell]; exact hf)
        have NP := Lib.hid (show pc L = (pre ++ [rest]) ++ pc [] from by rw [HP.out, PN.out]; simp [pc])
        clear q he
        gi_wp2_with fail
        refine ⟨fun _ => (by omega), (callsIn_wide.2 (IX.out _)).mono ?_⟩
        rintro e w1 ⟨rfl, rfl⟩
        rw [IN.out]
        gi_wp2
        refine ⟨fun _ => (by omega), hR.mono ?_⟩
        rintro e W3 (⟨rfl, hJ3, hk3⟩ | ⟨rfl, hJx3⟩)
        · gi_wp2
          go_roundw
          case rel => exact ⟨pre ++ [rest], [], NP.out, by simp, cell_back hk3 SB.out, frozen_back hk3 SF.out, hJ3⟩
          case measure =>
            rw [cell_back hk3 SB.out, hc]
            show (0 : Nat) < (⟨rest.toArray⟩ : ByteArray).size
            rw [el]; exact mp
        · gi_wp2
          refine bodyPost_ret (results_none rfl _ _ _) rfl ?_
          exact ⟨⟨_, rfl⟩, .inr ⟨_, hJx3⟩⟩
      · have IN := Lib.hid (show Lib.indexByte rest (10 : Int).toNat.toUInt8 = (x.length : Int) from by rw [e]; exact ix_yes y q)
        have PN := Lib.hid (show pc rest = (x ++ [10]) :: pc y from by rw [e]; exact pc_at y q)
        have LE := Lib.hid (show m = x.length + 1 + y.length from by rw [HM.out, e]; simp; omega)
        obtain ⟨k, hk⟩ : ∃ k, k = x.length := ⟨_, rfl⟩
        obtain ⟨k', hk'⟩ : ∃ k', k' = k + 1 := ⟨_, rfl⟩
        have E0 : (⟨rest.toArray⟩ : ByteArray).extract 0 k' = ⟨(x ++ [10]).toArray⟩ := by
          rw [ext0, hk', hk, e, show x ++ 10 :: y = (x ++ [10]) ++ y by simp, List.take_left' (by simp)]
        have E1 : (⟨rest.toArray⟩ : ByteArray).extract k' m = ⟨y.toArray⟩ := by
          rw [HM.out, ext1, hk', hk, e, show x ++ 10 :: y = (x ++ [10]) ++ y by simp, List.drop_left' (by simp)]
        rw [← hk] at IN LE
        have k1 : k' ≤ m := by rw [LE.out, hk']; omega
        have k2 : (k' : Int) ≤ (m : Int) := by omega
        have q1 : (k : Int) + 1 = (k' : Int) := by omega
        have v1 : IntKind.i64.wrap (k' : Int) = (k' : Int) := by rw [IntKind.wrap_i64]; omega
        have v2 : IntKind.i64.wrap ((k : Int) + 1) = (k' : Int) := by rw [q1]; exact v1
        have hy0 := HY.out pre (x ++ [10]) ((wr.setCell ⟨Bs, 0, none⟩ (.string ⟨y.toArray⟩)).drew) (HST.out _ _ _ (HSE.out _ _ (.string ⟨y.toArray⟩) JJ.out) (by_below (Below.refl _ _).drew)) ⟨pc y, by rw [HP.out, PN.out]⟩
        obtain ⟨fn, tmps, assign, body, hy, hR⟩ := hy0
        dsimp only [encL] at hy
        have SB := Lib.hid (show ((wr.setCell ⟨Bs, 0, none⟩ (.string ⟨y.toArray⟩)).drew).cell? ⟨Bs, 0, none⟩ = some (.string ⟨y.toArray⟩) from World.cell?_setCell_same' wr _ _ (by rw [hc]; rfl))
        have SF := Lib.hid (show ((wr.setCell ⟨Bs, 0, none⟩ (.string ⟨y.toArray⟩)).drew).frozen? ⟨Bs, 0, none⟩ = false from by show (wr.setCell ⟨Bs, 0, none⟩ (.string ⟨y.toArray⟩)).frozen? _ = false; rw [World.frozen?_setCell]; exact hf)
        have NP := Lib.hid (show pc L = (pre ++ [x ++ [10]]) ++ pc y from by rw [HP.out, PN.out]; simp)
        have YL := Lib.hid (show y.length < m from by rw [LE.out]; omega)
        have hcD : wr.drew.cell? ⟨Bs, 0, none⟩ = some (.string ⟨rest.toArray⟩) := hc
        have hfD : wr.drew.frozen? ⟨Bs, 0, none⟩ = false := hf
        have tk : decide ((0 : Int) ≤ (k : Int)) = true := by simp
        clear q he e hk hk'
        gi_wp2_with fail
        refine ⟨fun _ => (by omega), (callsIn_wide.2 (IX.out _)).mono ?_⟩
        rintro e w1 ⟨rfl, rfl⟩
        rw [IN.out]
        gi_wp2
        gi_region
        all_goals
          gi_wp2
          refine ⟨fun _ => (by omega), hR.mono ?_⟩
          rintro e W3 (⟨rfl, hJ3, hk3⟩ | ⟨rfl, hJx3⟩)
          · gi_wp2
            go_roundw
            case rel => exact ⟨pre ++ [x ++ [10]], y, NP.out, by have := YL.out; have := HM.out; have := HL.out; omega, cell_back hk3 SB.out, frozen_back hk3 SF.out, hJ3⟩
            case measure =>
              rw [cell_back hk3 SB.out, hc]
              show (⟨y.toArray⟩ : ByteArray).size < (⟨rest.toArray⟩ : ByteArray).size
              rw [el]; exact YL.out
          · gi_wp2
            refine bodyPost_ret (results_none rfl _ _ _) rfl ?_
            exact ⟨⟨_, rfl⟩, .inr ⟨_, hJx3⟩⟩
end Go.Proofs.YtpogfdeioibkdaaGreatDoor.ptm
