/-
  Plain helpers of this seat's proofs: what the iterator over frames hands on. Conditions: none.
-/
import Derived.Test.YtibkoacphfdlkaaFfr
import Derived.Test.YtibkoacphfdlkaaRf
import Derived.Shelf.Abstract
import Derived.Shelf.AbstractIn
import Derived.Shelf.RegionOpen
import Derived.OwnWalkIn
import Derived.TacticsInMore
import Derived.LoopNIn
import Derived.LoopIn
namespace Go.Proofs.Ytibkoacphfdlkaa.frm
open Go.ChangeShapes Go.WideShapes Go.ChangeAt Go.RowKit
open crc (le4 be4 sum)
open Go.Shelf
attribute [local go_sem] Oper.semAt_some
theorem bt_drop (l : List UInt8) (p i : Nat) : bt (l.drop p) i = bt l (p + i) := by
  unfold bt; rw [List.getD_eq_getElem?_getD, List.getElem?_drop, ← List.getD_eq_getElem?_getD]
theorem sz_drop (l : List UInt8) (p : Nat) : sz (l.drop p) 0 = sz l p := by
  unfold sz; rw [bt_drop, bt_drop, bt_drop, bt_drop]; simp
theorem dat_drop (l : List UInt8) (p : Nat) : dat (l.drop p) 0 = dat l p := by
  unfold dat; rw [sz_drop, List.drop_drop]
theorem good_drop {l : List UInt8} {p : Nat} (h : p ≤ l.length) : Good (l.drop p) 0 ↔ Good l p := by
  unfold Good
  rw [sz_drop, dat_drop, List.drop_drop, List.length_drop, Nat.zero_add, Nat.zero_add]
  constructor
  · rintro ⟨a, b, c, d⟩; exact ⟨by omega, b, by omega, d⟩
  · rintro ⟨a, b, c, d⟩; exact ⟨by omega, b, by omega, d⟩
def enc (x : List UInt8 × Nat) : Array Value := #[.string ⟨x.1.toArray⟩, .int .i64 (x.2 : Int)]
def ev (l : List UInt8) (k : Nat) : List UInt8 × Nat := (dat l (pos l k), pos l (k + 1))
def evs (l : List UInt8) (k : Nat) : List (List UInt8 × Nat) := (List.range k).map (ev l)
theorem evs_succ (l : List UInt8) (k : Nat) : evs l (k + 1) = evs l k ++ [ev l k] := by unfold evs; rw [List.range_succ, List.map_append]; rfl
theorem evs_len (l : List UInt8) (k : Nat) : (evs l k).length = k := by simp [evs]
/-- What the iterator reads. -/
def Rd (Bs : Nat) (l : List UInt8) (_pre : List (List UInt8 × Nat)) (W : World) : Prop := W.cell? ⟨Bs, 0, none⟩ = some (.string ⟨l.toArray⟩)
/-- What may come next. -/
def Nx (l : List UInt8) (pre : List (List UInt8 × Nat)) (x : List UInt8 × Nat) : Prop := ∃ k, Run l k ∧ Good l (pos l k) ∧ pre = evs l k ∧ x = ev l k
theorem by_below {A B : World} (h : Below A.heap.size A B) : A.grownBy B none := ⟨h.os, h.tape, h.output, h.size, fun k hk _ => h.block k hk⟩
set_option maxRecDepth 100000 in
set_option maxHeartbeats 4000000 in
theorem frIt (n : Nat) (hn : 2 ≤ n) (Bs : Nat) (L : List UInt8) (hlen : L.length ≤ 1048576) :
    rf.Iter Fence.wide n Try.prog 28 #[.pointer (some ⟨Bs, 0, none⟩)] enc (Rd Bs L) (Nx L) (fun xs => ∃ k, Fr L k ∧ xs = evs L k) := by
  intro l J Jx W hst hQ hY h0
  have HST := Lib.hid hst
  have HQ := Lib.hid hQ
  have HY := Lib.hid hY
  clear hst hQ hY
  obtain ⟨len, hl⟩ : ∃ len, len = L.length := ⟨_, rfl⟩
  rw [← hl] at hlen
  have el : (⟨L.toArray⟩ : ByteArray).size = len := hl.symm
  have HL := Lib.hid hl
  clear hl
  have hro : Fence.wide.round = none := rfl
  refine callsIn_of_wp Try.func28 rfl trivial ?_ hro
  simp only [Try.ntmps28, List.size_toArray, List.length_cons, List.length_nil, Nat.reduceAdd, Nat.reduceSub, Array.replicate_succ, Array.replicate_zero, List.push_toArray, List.append_toArray, List.nil_append, List.cons_append]
  gi_wp2
  gi_loopw [3] (fun o wr => ∃ k : Nat, Run L k ∧ o = .int .i64 (pos L k : Int) ∧ J (evs L k) wr) (fun o _ => len + 1 - (intOf o).toNat)
  case atStart => exact ⟨0, fun i hi => by omega, rfl, h0⟩
  case round =>
    obtain ⟨k, hr, rfl, hJ⟩ := hrel
    have JJ := Lib.hid hJ
    have RR := Lib.hid hr
    have rp := run_pos hr
    rw [← HL.out] at rp
    have hd := HQ.out _ _ hJ
    unfold Rd at hd
    have GD := Lib.hid (good_drop (l := L) (p := pos L k) (by rw [← HL.out]; exact rp.2))
    have DD := Lib.hid (dat_drop L (pos L k))
    have SG := Lib.hid (fun g : Good L (pos L k) => g.2.2.1)
    have PS := Lib.hid (show pos L (k + 1) = pos L k + 8 + sz L (pos L k) from rfl)
    have DLN := Lib.hid (fun g : Good L (pos L k) => dat_len g.2.2.1)
    have EV := Lib.hid (show ev L k = (dat L (pos L k), pos L (k + 1)) from rfl)
    obtain ⟨p, hp⟩ : ∃ p, p = pos L k := ⟨_, rfl⟩
    rw [← hp] at rp GD DD SG PS DLN EV ⊢
    have HP := Lib.hid hp
    obtain ⟨_, p1⟩ := rp
    have p1' : (p : Int) ≤ (len : Int) := by omega
    have hE : (⟨L.toArray⟩ : ByteArray).extract p len = ⟨(L.drop p).toArray⟩ := by rw [ext, HL.out, List.take_of_length_le (Nat.le_refl _)]
    have CF := Lib.hid (fun w0 => firstI (L.drop p) w0 (by rw [List.length_drop]; have := HL.out; omega))
    have hw : Fence.wide.fn 29 := trivial
    clear hr hJ hp
    gi_wp2_with fail
    refine ⟨fun _ => (by omega), (callsIn_wide.2 (CF.out _)).mono ?_⟩
    rintro e w1 ⟨d, b, rfl, hb, hdd, b1⟩
    have J1 := Lib.hid (HST.out _ _ _ JJ.out (by_below b1))
    clear b1 hd hE
    cases b with
    | false =>
      have NG : ¬ Good L p := fun g => by have := GD.out.2 g; simp [this] at hb
      have NGh := Lib.hid NG
      clear hb hdd NG
      gi_wp2
      refine bodyPost_ret (results_none rfl _ _ _) rfl ?_
      exact ⟨⟨_, rfl⟩, .inl ⟨_, ⟨k, ⟨RR.out, by rw [← HP.out]; exact NGh.out⟩, rfl⟩, J1.out⟩⟩
    | true =>
      have G : Good L p := GD.out.1 (by simpa using hb.symm)
      have GH := Lib.hid G
      have e1 := hdd rfl
      rw [DD.out] at e1
      subst e1
      have ld := DLN.out G
      have sg := SG.out G
      rw [← HL.out] at sg
      have R2 := Lib.hid (run_succ RR.out (by rw [← HP.out]; exact G))
      obtain ⟨D, hD⟩ : ∃ D, D = dat L p := ⟨_, rfl⟩
      obtain ⟨z, hz⟩ : ∃ z, z = sz L p := ⟨_, rfl⟩
      rw [← hz] at ld sg PS
      rw [← hD] at ld EV ⊢
      have sd : (⟨D.toArray⟩ : ByteArray).size = z := ld
      obtain ⟨q, hq⟩ : ∃ q, q = pos L (k + 1) := ⟨_, rfl⟩
      rw [← hq] at PS EV
      have qv := PS.out
      have HQQ := Lib.hid hq
      obtain ⟨y, hy8⟩ : ∃ y : Nat, y = 8 + z := ⟨_, rfl⟩
      have q1 : (8 : Int) + (z : Int) = (y : Int) := by omega
      have q2 : (p : Int) + (y : Int) = (q : Int) := by omega
      have qp : p + 8 ≤ q := by omega
      obtain ⟨fn, tmps, assign, body, hy, hR⟩ := HY.out _ (D, q) _ J1.out ⟨k, RR.out, by rw [← HP.out]; exact G, rfl, EV.out.symm⟩
      dsimp only [enc] at hy
      clear hb hdd G hD hz hq ld hy8 qv
      gi_wp2
      refine ⟨fun _ => (by omega), hR.mono ?_⟩
      rintro e W3 (⟨rfl, hJ3⟩ | ⟨rfl, hJx3⟩)
      · gi_wp2
        go_roundw
        case rel => exact ⟨k + 1, R2.out, by rw [← HQQ.out], by rw [evs_succ, EV.out]; exact hJ3⟩
        case measure => simp [intOf]; omega
      · gi_wp2
        refine bodyPost_ret (results_none rfl _ _ _) rfl ?_
        exact ⟨⟨_, rfl⟩, .inr ⟨_, hJx3⟩⟩
end Go.Proofs.Ytibkoacphfdlkaa.frm
