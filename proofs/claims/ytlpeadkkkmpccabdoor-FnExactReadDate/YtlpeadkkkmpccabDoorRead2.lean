/-
  Plain helpers: the contract of the model's function that reads a date. Conditions: none.
-/
import Derived.Test.YtlpeadkkkmpccabDoorRead
import Derived.Deep.RegionHeld3
import Derived.Deep.QuietTactic
import Derived.BigQuiet
namespace Go.Proofs.YtlpeadkkkmpccabDoor.read
open Go.ChangeShapes Go.WideShapes Go.ChangeAt Go.RowKit

/-- One more byte: a digit is written on, another one is passed over. -/
def dig (b : UInt8) (n : Int) : Int := if digs.isD b then 10 * n + ((b.toNat : Int) - 48) else n
theorem dig_yes {b : UInt8} (n : Int) (h : digs.isD b) : dig b n = 10 * n + ((b.toNat : Int) - 48) := if_pos h
theorem dig_no {b : UInt8} (n : Int) (h : ¬ digs.isD b) : dig b n = n := if_neg h

/-- Three numbers in a block of their own. -/
structure N3 (w wr : World) (b : Nat) (x y z : Int) : Prop where
  below : Below b w wr
  lt : b < wr.heap.size
  c0 : wr.cell? ⟨b, 0, none⟩ = some (.int .i64 x)
  c1 : wr.cell? ⟨b, 1, none⟩ = some (.int .i64 y)
  c2 : wr.cell? ⟨b, 2, none⟩ = some (.int .i64 z)
  free : ∀ i, wr.frozen? ⟨b, i, none⟩ = false
theorem N3.alloc {w wr : World} {b : Nat} {x y z : Int} (h : N3 w wr b x y z) (o : Obj) : N3 w (wr.alloc o) b x y z :=
  ⟨h.below.alloc (Nat.le_of_lt h.lt) o, Nat.lt_of_lt_of_le h.lt (by show _ ≤ (wr.heap.push _).size; simp), (World.cell?_alloc_lt _ _ _ h.lt).trans h.c0, (World.cell?_alloc_lt _ _ _ h.lt).trans h.c1, (World.cell?_alloc_lt _ _ _ h.lt).trans h.c2, fun i => (World.frozen?_alloc_past _ _ _ h.lt).trans (h.free i)⟩
theorem size_set (w : World) (a : Addr) (v : Value) : (w.setCell a v).heap.size = w.heap.size := by simp [World.setCell]
theorem N3.set0 {w wr : World} {b : Nat} {x y z : Int} (h : N3 w wr b x y z) (v : Int) : N3 w (wr.setCell ⟨b, 0, none⟩ (.int .i64 v)) b v y z :=
  ⟨h.below.setCell (Nat.le_refl _) _, by rw [size_set]; exact h.lt, World.cell?_setCell_same' _ _ _ (by rw [h.c0]; rfl), (World.cell?_setCell_other _ _ _ _ (fun q => by injection q with q1 q2; omega)).trans h.c1, (World.cell?_setCell_other _ _ _ _ (fun q => by injection q with q1 q2; omega)).trans h.c2, fun i => by rw [World.frozen?_setCell]; exact h.free i⟩
theorem N3.set1 {w wr : World} {b : Nat} {x y z : Int} (h : N3 w wr b x y z) (v : Int) : N3 w (wr.setCell ⟨b, 1, none⟩ (.int .i64 v)) b x v z :=
  ⟨h.below.setCell (Nat.le_refl _) _, by rw [size_set]; exact h.lt, (World.cell?_setCell_other _ _ _ _ (fun q => by injection q with q1 q2; omega)).trans h.c0, World.cell?_setCell_same' _ _ _ (by rw [h.c1]; rfl), (World.cell?_setCell_other _ _ _ _ (fun q => by injection q with q1 q2; omega)).trans h.c2, fun i => by rw [World.frozen?_setCell]; exact h.free i⟩
theorem N3.set2 {w wr : World} {b : Nat} {x y z : Int} (h : N3 w wr b x y z) (v : Int) : N3 w (wr.setCell ⟨b, 2, none⟩ (.int .i64 v)) b x y v :=
  ⟨h.below.setCell (Nat.le_refl _) _, by rw [size_set]; exact h.lt, (World.cell?_setCell_other _ _ _ _ (fun q => by injection q with q1 q2; omega)).trans h.c0, (World.cell?_setCell_other _ _ _ _ (fun q => by injection q with q1 q2; omega)).trans h.c1, World.cell?_setCell_same' _ _ _ (by rw [h.c2]; rfl), fun i => by rw [World.frozen?_setCell]; exact h.free i⟩
theorem N3.start (w : World) : N3 w (w.alloc (.cells #[.int .i64 0, .int .i64 0, .int .i64 0] 2)) w.heap.size 0 0 0 :=
  ⟨(Below.refl _ w).alloc (Nat.le_refl _) _, by show _ < (w.heap.push _).size; simp, World.cell?_alloc_new w _ _ 0, World.cell?_alloc_new w _ _ 1, World.cell?_alloc_new w _ _ 2, fun i => World.frozen?_alloc_new w _ _ i⟩

theorem N3.drew {w wr : World} {b : Nat} {x y z : Int} (h : N3 w wr b x y z) : N3 w wr.drew b x y z := ⟨h.below.drew, h.lt, h.c0, h.c1, h.c2, h.free⟩

/-- The three numbers after so many bytes. -/
def st (b0 b1 b2 b3 b4 b5 b6 b7 b8 b9 : UInt8) : Nat → Int × Int × Int
  | 0 => (0, 0, 0)
  | 1 => (dig b0 (0), 0, 0)
  | 2 => (dig b1 (dig b0 (0)), 0, 0)
  | 3 => (dig b2 (dig b1 (dig b0 (0))), 0, 0)
  | 4 => (dig b3 (dig b2 (dig b1 (dig b0 (0)))), 0, 0)
  | 5 => (dig b4 (dig b3 (dig b2 (dig b1 (dig b0 (0))))), 0, 0)
  | 6 => (dig b4 (dig b3 (dig b2 (dig b1 (dig b0 (0))))), dig b5 (0), 0)
  | 7 => (dig b4 (dig b3 (dig b2 (dig b1 (dig b0 (0))))), dig b6 (dig b5 (0)), 0)
  | 8 => (dig b4 (dig b3 (dig b2 (dig b1 (dig b0 (0))))), dig b7 (dig b6 (dig b5 (0))), 0)
  | 9 => (dig b4 (dig b3 (dig b2 (dig b1 (dig b0 (0))))), dig b7 (dig b6 (dig b5 (0))), dig b8 (0))
  | _ => (dig b4 (dig b3 (dig b2 (dig b1 (dig b0 (0))))), dig b7 (dig b6 (dig b5 (0))), dig b9 (dig b8 (0)))

/-- What the function answers. -/
def ans (X Y Z : Int) (l : List UInt8) : Value := if dayOf.ok X Y Z = true ∧ dec.dateL X Y Z = l then .tuple #[.int .i64 (dayOf.val X Y Z), .bool true] else .tuple #[.int .i64 0, .bool false]
theorem ans_no {X Y Z : Int} {l : List UInt8} (h : dayOf.ok X Y Z = false) : .tuple #[.int .i64 0, .bool false] = ans X Y Z l := by unfold ans; rw [if_neg (by simp [h])]
theorem ans_ne {X Y Z : Int} {l : List UInt8} (h : (dec.dateL X Y Z == l) = false) : .tuple #[.int .i64 0, .bool false] = ans X Y Z l := by unfold ans; rw [if_neg (fun e => by simp [e.2] at h)]
theorem ans_yes {X Y Z : Int} {l : List UInt8} (h0 : dayOf.ok X Y Z = true) (h : (dec.dateL X Y Z == l) = true) : .tuple #[.int .i64 (dayOf.val X Y Z), .bool true] = ans X Y Z l := by unfold ans; rw [if_pos ⟨h0, by simpa using h⟩]
theorem ret_v {a b : Value} (h : a = b) : Ending.returned a = .returned b := by rw [h]
theorem is_date {X Y Z : Int} (h : dayOf.ok X Y Z = true) : cal.isDate (dayOf.val X Y Z) X Y Z := by
  have h' := of_decide_eq_true h
  exact ⟨h', by unfold dayOf.val; rw [if_pos h']⟩

/-- What the loop keeps. -/
structure Rel (b0 b1 b2 b3 b4 b5 b6 b7 b8 b9 : UInt8) (w wr : World) (i : Nat) (x y z : Int) : Prop where
  n3 : N3 w wr w.heap.size x y z
  st : st b0 b1 b2 b3 b4 b5 b6 b7 b8 b9 i = (x, y, z)
  x0 : 0 ≤ x
  x1 : x < 10 ^ i
  y0 : 0 ≤ y
  y1 : y < 10 ^ i
  z0 : 0 ≤ z
  z1 : z < 10 ^ i

set_option maxHeartbeats 4000000 in
theorem spec_ten (b0 b1 b2 b3 b4 b5 b6 b7 b8 b9 : UInt8) (X Y Z : Int) (w : World) (c : base.Mon w) (hst : st b0 b1 b2 b3 b4 b5 b6 b7 b8 b9 10 = (X, Y, Z)) : Calls Tryd.prog 35 #[.string ⟨#[b0, b1, b2, b3, b4, b5, b6, b7, b8, b9]⟩] w fun e w' => e = .returned (ans X Y Z [b0, b1, b2, b3, b4, b5, b6, b7, b8, b9]) ∧ Below w.heap.size w w' := by
  have C := Lib.hid c
  have HST := Lib.hid hst
  have lt0 := c.lt
  clear c hst
  go_enter Tryd.func35, Tryd.ntmps35
  go_wp2_with fail
  go_loopw [5] (fun v wr => ∃ (i : Nat) (x y z : Int), i ≤ 10 ∧ v = .int .i64 i ∧ Rel b0 b1 b2 b3 b4 b5 b6 b7 b8 b9 w wr i x y z) (fun v _ => 20 - (intOf v).toNat)
  case atStart => exact ⟨0, 0, 0, 0, by omega, rfl, N3.start w, rfl, by omega, by omega, by omega, by omega, by omega, by omega⟩
  case round =>
    obtain ⟨i, x, y, z, hi, rfl, rel⟩ := hrel
    have REL := Lib.hid rel
    clear rel
    rcases (show i = 0 ∨ i = 1 ∨ i = 2 ∨ i = 3 ∨ i = 4 ∨ i = 5 ∨ i = 6 ∨ i = 7 ∨ i = 8 ∨ i = 9 ∨ i = 10 by omega) with rfl | rfl | rfl | rfl | rfl | rfl | rfl | rfl | rfl | rfl | rfl
    · have bx : ((⟨#[b0, b1, b2, b3, b4, b5, b6, b7, b8, b9]⟩ : ByteArray)[0]'(by show 0 < 10; omega)) = b0 := rfl
      have ix := Lib.hid REL.out
      have x0 := REL.out.x0
      have x1 := REL.out.x1
      have y0 := REL.out.y0
      have y1 := REL.out.y1
      have z0 := REL.out.z0
      have z1 := REL.out.z1
      have N := Lib.hid REL.out.n3
      have A := Lib.hid (N.out.alloc (.cells #[.int .i64 0, .int .i64 0, .int .i64 0, .int .i64 0, .int .i64 0, .int .i64 1, .int .i64 1, .int .i64 1, .int .i64 2, .int .i64 2] 3))
      have s0 := A.out.c0
      have f0 := A.out.free 0
      have lt := N.out.lt
      by_cases c1 : b0.toNat < 48
      · have d1 : decide ((48 : Int) ≤ (b0.toNat : Int)) = false := by simp; omega
        have DG := Lib.hid (dig_no x (show ¬ digs.isD b0 from fun h => by have := h.1; omega))
        go_wp2
        go_roundw
        case rel => exact ⟨1, x, y, z, by omega, by go_num, A.out, by rw [show st b0 b1 b2 b3 b4 b5 b6 b7 b8 b9 1 = (dig b0 ((st b0 b1 b2 b3 b4 b5 b6 b7 b8 b9 0).1), (st b0 b1 b2 b3 b4 b5 b6 b7 b8 b9 0).2.1, (st b0 b1 b2 b3 b4 b5 b6 b7 b8 b9 0).2.2) from rfl, ix.out.st]; simp only []; rw [DG.out], by omega, by omega, by omega, by omega, by omega, by omega⟩
        case measure => simp [intOf]
      · have d1 : decide ((48 : Int) ≤ (b0.toNat : Int)) = true := by simp; omega
        by_cases c2 : 57 < b0.toNat
        · have d2 : decide ((b0.toNat : Int) ≤ 57) = false := by simp; omega
          have DG := Lib.hid (dig_no x (show ¬ digs.isD b0 from fun h => by have := h.2; omega))
          go_wp2
          go_roundw
          case rel => exact ⟨1, x, y, z, by omega, by go_num, A.out, by rw [show st b0 b1 b2 b3 b4 b5 b6 b7 b8 b9 1 = (dig b0 ((st b0 b1 b2 b3 b4 b5 b6 b7 b8 b9 0).1), (st b0 b1 b2 b3 b4 b5 b6 b7 b8 b9 0).2.1, (st b0 b1 b2 b3 b4 b5 b6 b7 b8 b9 0).2.2) from rfl, ix.out.st]; simp only []; rw [DG.out], by omega, by omega, by omega, by omega, by omega, by omega⟩
          case measure => simp [intOf]
        · have d2 : decide ((b0.toNat : Int) ≤ 57) = true := by simp; omega
          have DG := Lib.hid (dig_yes x (show digs.isD b0 from ⟨by omega, by omega⟩))
          go_wp2
          go_region_with (fail)
          all_goals go_wp2
          all_goals (refine ⟨?_, by simp [intOf]⟩)
          all_goals exact ⟨1, (10 * x + ((b0.toNat : Int) - 48)), y, z, by omega, by go_num, ((N.out.set0 _).alloc _).drew, by rw [show st b0 b1 b2 b3 b4 b5 b6 b7 b8 b9 1 = (dig b0 ((st b0 b1 b2 b3 b4 b5 b6 b7 b8 b9 0).1), (st b0 b1 b2 b3 b4 b5 b6 b7 b8 b9 0).2.1, (st b0 b1 b2 b3 b4 b5 b6 b7 b8 b9 0).2.2) from rfl, ix.out.st]; simp only []; rw [DG.out], by omega, by omega, by omega, by omega, by omega, by omega⟩
    · have bx : ((⟨#[b0, b1, b2, b3, b4, b5, b6, b7, b8, b9]⟩ : ByteArray)[1]'(by show 1 < 10; omega)) = b1 := rfl
      have ix := Lib.hid REL.out
      have x0 := REL.out.x0
      have x1 := REL.out.x1
      have y0 := REL.out.y0
      have y1 := REL.out.y1
      have z0 := REL.out.z0
      have z1 := REL.out.z1
      have N := Lib.hid REL.out.n3
      have A := Lib.hid (N.out.alloc (.cells #[.int .i64 0, .int .i64 0, .int .i64 0, .int .i64 0, .int .i64 0, .int .i64 1, .int .i64 1, .int .i64 1, .int .i64 2, .int .i64 2] 3))
      have s0 := A.out.c0
      have f0 := A.out.free 0
      have lt := N.out.lt
      by_cases c1 : b1.toNat < 48
      · have d1 : decide ((48 : Int) ≤ (b1.toNat : Int)) = false := by simp; omega
        have DG := Lib.hid (dig_no x (show ¬ digs.isD b1 from fun h => by have := h.1; omega))
        go_wp2
        go_roundw
        case rel => exact ⟨2, x, y, z, by omega, by go_num, A.out, by rw [show st b0 b1 b2 b3 b4 b5 b6 b7 b8 b9 2 = (dig b1 ((st b0 b1 b2 b3 b4 b5 b6 b7 b8 b9 1).1), (st b0 b1 b2 b3 b4 b5 b6 b7 b8 b9 1).2.1, (st b0 b1 b2 b3 b4 b5 b6 b7 b8 b9 1).2.2) from rfl, ix.out.st]; simp only []; rw [DG.out], by omega, by omega, by omega, by omega, by omega, by omega⟩
        case measure => simp [intOf]
      · have d1 : decide ((48 : Int) ≤ (b1.toNat : Int)) = true := by simp; omega
        by_cases c2 : 57 < b1.toNat
        · have d2 : decide ((b1.toNat : Int) ≤ 57) = false := by simp; omega
          have DG := Lib.hid (dig_no x (show ¬ digs.isD b1 from fun h => by have := h.2; omega))
          go_wp2
          go_roundw
          case rel => exact ⟨2, x, y, z, by omega, by go_num, A.out, by rw [show st b0 b1 b2 b3 b4 b5 b6 b7 b8 b9 2 = (dig b1 ((st b0 b1 b2 b3 b4 b5 b6 b7 b8 b9 1).1), (st b0 b1 b2 b3 b4 b5 b6 b7 b8 b9 1).2.1, (st b0 b1 b2 b3 b4 b5 b6 b7 b8 b9 1).2.2) from rfl, ix.out.st]; simp only []; rw [DG.out], by omega, by omega, by omega, by omega, by omega, by omega⟩
          case measure => simp [intOf]
        · have d2 : decide ((b1.toNat : Int) ≤ 57) = true := by simp; omega
          have DG := Lib.hid (dig_yes x (show digs.isD b1 from ⟨by omega, by omega⟩))
          go_wp2
          go_region_with (fail)
          all_goals go_wp2
          all_goals (refine ⟨?_, by simp [intOf]⟩)
          all_goals exact ⟨2, (10 * x + ((b1.toNat : Int) - 48)), y, z, by omega, by go_num, ((N.out.set0 _).alloc _).drew, by rw [show st b0 b1 b2 b3 b4 b5 b6 b7 b8 b9 2 = (dig b1 ((st b0 b1 b2 b3 b4 b5 b6 b7 b8 b9 1).1), (st b0 b1 b2 b3 b4 b5 b6 b7 b8 b9 1).2.1, (st b0 b1 b2 b3 b4 b5 b6 b7 b8 b9 1).2.2) from rfl, ix.out.st]; simp only []; rw [DG.out], by omega, by omega, by omega, by omega, by omega, by omega⟩
    · have bx : ((⟨#[b0, b1, b2, b3, b4, b5, b6, b7, b8, b9]⟩ : ByteArray)[2]'(by show 2 < 10; omega)) = b2 := rfl
      have ix := Lib.hid REL.out
      have x0 := REL.out.x0
      have x1 := REL.out.x1
      have y0 := REL.out.y0
      have y1 := REL.out.y1
      have z0 := REL.out.z0
      have z1 := REL.out.z1
      have N := Lib.hid REL.out.n3
      have A := Lib.hid (N.out.alloc (.cells #[.int .i64 0, .int .i64 0, .int .i64 0, .int .i64 0, .int .i64 0, .int .i64 1, .int .i64 1, .int .i64 1, .int .i64 2, .int .i64 2] 3))
      have s0 := A.out.c0
      have f0 := A.out.free 0
      have lt := N.out.lt
      by_cases c1 : b2.toNat < 48
      · have d1 : decide ((48 : Int) ≤ (b2.toNat : Int)) = false := by simp; omega
        have DG := Lib.hid (dig_no x (show ¬ digs.isD b2 from fun h => by have := h.1; omega))
        go_wp2
        go_roundw
        case rel => exact ⟨3, x, y, z, by omega, by go_num, A.out, by rw [show st b0 b1 b2 b3 b4 b5 b6 b7 b8 b9 3 = (dig b2 ((st b0 b1 b2 b3 b4 b5 b6 b7 b8 b9 2).1), (st b0 b1 b2 b3 b4 b5 b6 b7 b8 b9 2).2.1, (st b0 b1 b2 b3 b4 b5 b6 b7 b8 b9 2).2.2) from rfl, ix.out.st]; simp only []; rw [DG.out], by omega, by omega, by omega, by omega, by omega, by omega⟩
        case measure => simp [intOf]
      · have d1 : decide ((48 : Int) ≤ (b2.toNat : Int)) = true := by simp; omega
        by_cases c2 : 57 < b2.toNat
        · have d2 : decide ((b2.toNat : Int) ≤ 57) = false := by simp; omega
          have DG := Lib.hid (dig_no x (show ¬ digs.isD b2 from fun h => by have := h.2; omega))
          go_wp2
          go_roundw
          case rel => exact ⟨3, x, y, z, by omega, by go_num, A.out, by rw [show st b0 b1 b2 b3 b4 b5 b6 b7 b8 b9 3 = (dig b2 ((st b0 b1 b2 b3 b4 b5 b6 b7 b8 b9 2).1), (st b0 b1 b2 b3 b4 b5 b6 b7 b8 b9 2).2.1, (st b0 b1 b2 b3 b4 b5 b6 b7 b8 b9 2).2.2) from rfl, ix.out.st]; simp only []; rw [DG.out], by omega, by omega, by omega, by omega, by omega, by omega⟩
          case measure => simp [intOf]
        · have d2 : decide ((b2.toNat : Int) ≤ 57) = true := by simp; omega
          have DG := Lib.hid (dig_yes x (show digs.isD b2 from ⟨by omega, by omega⟩))
          go_wp2
          go_region_with (fail)
          all_goals go_wp2
          all_goals (refine ⟨?_, by simp [intOf]⟩)
          all_goals exact ⟨3, (10 * x + ((b2.toNat : Int) - 48)), y, z, by omega, by go_num, ((N.out.set0 _).alloc _).drew, by rw [show st b0 b1 b2 b3 b4 b5 b6 b7 b8 b9 3 = (dig b2 ((st b0 b1 b2 b3 b4 b5 b6 b7 b8 b9 2).1), (st b0 b1 b2 b3 b4 b5 b6 b7 b8 b9 2).2.1, (st b0 b1 b2 b3 b4 b5 b6 b7 b8 b9 2).2.2) from rfl, ix.out.st]; simp only []; rw [DG.out], by omega, by omega, by omega, by omega, by omega, by omega⟩
    · have bx : ((⟨#[b0, b1, b2, b3, b4, b5, b6, b7, b8, b9]⟩ : ByteArray)[3]'(by show 3 < 10; omega)) = b3 := rfl
      have ix := Lib.hid REL.out
      have x0 := REL.out.x0
      have x1 := REL.out.x1
      have y0 := REL.out.y0
      have y1 := REL.out.y1
      have z0 := REL.out.z0
      have z1 := REL.out.z1
      have N := Lib.hid REL.out.n3
      have A := Lib.hid (N.out.alloc (.cells #[.int .i64 0, .int .i64 0, .int .i64 0, .int .i64 0, .int .i64 0, .int .i64 1, .int .i64 1, .int .i64 1, .int .i64 2, .int .i64 2] 3))
      have s0 := A.out.c0
      have f0 := A.out.free 0
      have lt := N.out.lt
      by_cases c1 : b3.toNat < 48
      · have d1 : decide ((48 : Int) ≤ (b3.toNat : Int)) = false := by simp; omega
        have DG := Lib.hid (dig_no x (show ¬ digs.isD b3 from fun h => by have := h.1; omega))
        go_wp2
        go_roundw
        case rel => exact ⟨4, x, y, z, by omega, by go_num, A.out, by rw [show st b0 b1 b2 b3 b4 b5 b6 b7 b8 b9 4 = (dig b3 ((st b0 b1 b2 b3 b4 b5 b6 b7 b8 b9 3).1), (st b0 b1 b2 b3 b4 b5 b6 b7 b8 b9 3).2.1, (st b0 b1 b2 b3 b4 b5 b6 b7 b8 b9 3).2.2) from rfl, ix.out.st]; simp only []; rw [DG.out], by omega, by omega, by omega, by omega, by omega, by omega⟩
        case measure => simp [intOf]
      · have d1 : decide ((48 : Int) ≤ (b3.toNat : Int)) = true := by simp; omega
        by_cases c2 : 57 < b3.toNat
        · have d2 : decide ((b3.toNat : Int) ≤ 57) = false := by simp; omega
          have DG := Lib.hid (dig_no x (show ¬ digs.isD b3 from fun h => by have := h.2; omega))
          go_wp2
          go_roundw
          case rel => exact ⟨4, x, y, z, by omega, by go_num, A.out, by rw [show st b0 b1 b2 b3 b4 b5 b6 b7 b8 b9 4 = (dig b3 ((st b0 b1 b2 b3 b4 b5 b6 b7 b8 b9 3).1), (st b0 b1 b2 b3 b4 b5 b6 b7 b8 b9 3).2.1, (st b0 b1 b2 b3 b4 b5 b6 b7 b8 b9 3).2.2) from rfl, ix.out.st]; simp only []; rw [DG.out], by omega, by omega, by omega, by omega, by omega, by omega⟩
          case measure => simp [intOf]
        · have d2 : decide ((b3.toNat : Int) ≤ 57) = true := by simp; omega
          have DG := Lib.hid (dig_yes x (show digs.isD b3 from ⟨by omega, by omega⟩))
          go_wp2
          go_region_with (fail)
          all_goals go_wp2
          all_goals (refine ⟨?_, by simp [intOf]⟩)
          all_goals exact ⟨4, (10 * x + ((b3.toNat : Int) - 48)), y, z, by omega, by go_num, ((N.out.set0 _).alloc _).drew, by rw [show st b0 b1 b2 b3 b4 b5 b6 b7 b8 b9 4 = (dig b3 ((st b0 b1 b2 b3 b4 b5 b6 b7 b8 b9 3).1), (st b0 b1 b2 b3 b4 b5 b6 b7 b8 b9 3).2.1, (st b0 b1 b2 b3 b4 b5 b6 b7 b8 b9 3).2.2) from rfl, ix.out.st]; simp only []; rw [DG.out], by omega, by omega, by omega, by omega, by omega, by omega⟩
    · have bx : ((⟨#[b0, b1, b2, b3, b4, b5, b6, b7, b8, b9]⟩ : ByteArray)[4]'(by show 4 < 10; omega)) = b4 := rfl
      have ix := Lib.hid REL.out
      have x0 := REL.out.x0
      have x1 := REL.out.x1
      have y0 := REL.out.y0
      have y1 := REL.out.y1
      have z0 := REL.out.z0
      have z1 := REL.out.z1
      have N := Lib.hid REL.out.n3
      have A := Lib.hid (N.out.alloc (.cells #[.int .i64 0, .int .i64 0, .int .i64 0, .int .i64 0, .int .i64 0, .int .i64 1, .int .i64 1, .int .i64 1, .int .i64 2, .int .i64 2] 3))
      have s0 := A.out.c0
      have f0 := A.out.free 0
      have lt := N.out.lt
      by_cases c1 : b4.toNat < 48
      · have d1 : decide ((48 : Int) ≤ (b4.toNat : Int)) = false := by simp; omega
        have DG := Lib.hid (dig_no x (show ¬ digs.isD b4 from fun h => by have := h.1; omega))
        go_wp2
        go_roundw
        case rel => exact ⟨5, x, y, z, by omega, by go_num, A.out, by rw [show st b0 b1 b2 b3 b4 b5 b6 b7 b8 b9 5 = (dig b4 ((st b0 b1 b2 b3 b4 b5 b6 b7 b8 b9 4).1), (st b0 b1 b2 b3 b4 b5 b6 b7 b8 b9 4).2.1, (st b0 b1 b2 b3 b4 b5 b6 b7 b8 b9 4).2.2) from rfl, ix.out.st]; simp only []; rw [DG.out], by omega, by omega, by omega, by omega, by omega, by omega⟩
        case measure => simp [intOf]
      · have d1 : decide ((48 : Int) ≤ (b4.toNat : Int)) = true := by simp; omega
        by_cases c2 : 57 < b4.toNat
        · have d2 : decide ((b4.toNat : Int) ≤ 57) = false := by simp; omega
          have DG := Lib.hid (dig_no x (show ¬ digs.isD b4 from fun h => by have := h.2; omega))
          go_wp2
          go_roundw
          case rel => exact ⟨5, x, y, z, by omega, by go_num, A.out, by rw [show st b0 b1 b2 b3 b4 b5 b6 b7 b8 b9 5 = (dig b4 ((st b0 b1 b2 b3 b4 b5 b6 b7 b8 b9 4).1), (st b0 b1 b2 b3 b4 b5 b6 b7 b8 b9 4).2.1, (st b0 b1 b2 b3 b4 b5 b6 b7 b8 b9 4).2.2) from rfl, ix.out.st]; simp only []; rw [DG.out], by omega, by omega, by omega, by omega, by omega, by omega⟩
          case measure => simp [intOf]
        · have d2 : decide ((b4.toNat : Int) ≤ 57) = true := by simp; omega
          have DG := Lib.hid (dig_yes x (show digs.isD b4 from ⟨by omega, by omega⟩))
          go_wp2
          go_region_with (fail)
          all_goals go_wp2
          all_goals (refine ⟨?_, by simp [intOf]⟩)
          all_goals exact ⟨5, (10 * x + ((b4.toNat : Int) - 48)), y, z, by omega, by go_num, ((N.out.set0 _).alloc _).drew, by rw [show st b0 b1 b2 b3 b4 b5 b6 b7 b8 b9 5 = (dig b4 ((st b0 b1 b2 b3 b4 b5 b6 b7 b8 b9 4).1), (st b0 b1 b2 b3 b4 b5 b6 b7 b8 b9 4).2.1, (st b0 b1 b2 b3 b4 b5 b6 b7 b8 b9 4).2.2) from rfl, ix.out.st]; simp only []; rw [DG.out], by omega, by omega, by omega, by omega, by omega, by omega⟩
    · have bx : ((⟨#[b0, b1, b2, b3, b4, b5, b6, b7, b8, b9]⟩ : ByteArray)[5]'(by show 5 < 10; omega)) = b5 := rfl
      have ix := Lib.hid REL.out
      have x0 := REL.out.x0
      have x1 := REL.out.x1
      have y0 := REL.out.y0
      have y1 := REL.out.y1
      have z0 := REL.out.z0
      have z1 := REL.out.z1
      have N := Lib.hid REL.out.n3
      have A := Lib.hid (N.out.alloc (.cells #[.int .i64 0, .int .i64 0, .int .i64 0, .int .i64 0, .int .i64 0, .int .i64 1, .int .i64 1, .int .i64 1, .int .i64 2, .int .i64 2] 3))
      have s1 := A.out.c1
      have f1 := A.out.free 1
      have lt := N.out.lt
      by_cases c1 : b5.toNat < 48
      · have d1 : decide ((48 : Int) ≤ (b5.toNat : Int)) = false := by simp; omega
        have DG := Lib.hid (dig_no y (show ¬ digs.isD b5 from fun h => by have := h.1; omega))
        go_wp2
        go_roundw
        case rel => exact ⟨6, x, y, z, by omega, by go_num, A.out, by rw [show st b0 b1 b2 b3 b4 b5 b6 b7 b8 b9 6 = ((st b0 b1 b2 b3 b4 b5 b6 b7 b8 b9 5).1, dig b5 ((st b0 b1 b2 b3 b4 b5 b6 b7 b8 b9 5).2.1), (st b0 b1 b2 b3 b4 b5 b6 b7 b8 b9 5).2.2) from rfl, ix.out.st]; simp only []; rw [DG.out], by omega, by omega, by omega, by omega, by omega, by omega⟩
        case measure => simp [intOf]
      · have d1 : decide ((48 : Int) ≤ (b5.toNat : Int)) = true := by simp; omega
        by_cases c2 : 57 < b5.toNat
        · have d2 : decide ((b5.toNat : Int) ≤ 57) = false := by simp; omega
          have DG := Lib.hid (dig_no y (show ¬ digs.isD b5 from fun h => by have := h.2; omega))
          go_wp2
          go_roundw
          case rel => exact ⟨6, x, y, z, by omega, by go_num, A.out, by rw [show st b0 b1 b2 b3 b4 b5 b6 b7 b8 b9 6 = ((st b0 b1 b2 b3 b4 b5 b6 b7 b8 b9 5).1, dig b5 ((st b0 b1 b2 b3 b4 b5 b6 b7 b8 b9 5).2.1), (st b0 b1 b2 b3 b4 b5 b6 b7 b8 b9 5).2.2) from rfl, ix.out.st]; simp only []; rw [DG.out], by omega, by omega, by omega, by omega, by omega, by omega⟩
          case measure => simp [intOf]
        · have d2 : decide ((b5.toNat : Int) ≤ 57) = true := by simp; omega
          have DG := Lib.hid (dig_yes y (show digs.isD b5 from ⟨by omega, by omega⟩))
          go_wp2
          go_region_with (fail)
          all_goals go_wp2
          all_goals (refine ⟨?_, by simp [intOf]⟩)
          all_goals exact ⟨6, x, (10 * y + ((b5.toNat : Int) - 48)), z, by omega, by go_num, ((N.out.set1 _).alloc _).drew, by rw [show st b0 b1 b2 b3 b4 b5 b6 b7 b8 b9 6 = ((st b0 b1 b2 b3 b4 b5 b6 b7 b8 b9 5).1, dig b5 ((st b0 b1 b2 b3 b4 b5 b6 b7 b8 b9 5).2.1), (st b0 b1 b2 b3 b4 b5 b6 b7 b8 b9 5).2.2) from rfl, ix.out.st]; simp only []; rw [DG.out], by omega, by omega, by omega, by omega, by omega, by omega⟩
    · have bx : ((⟨#[b0, b1, b2, b3, b4, b5, b6, b7, b8, b9]⟩ : ByteArray)[6]'(by show 6 < 10; omega)) = b6 := rfl
      have ix := Lib.hid REL.out
      have x0 := REL.out.x0
      have x1 := REL.out.x1
      have y0 := REL.out.y0
      have y1 := REL.out.y1
      have z0 := REL.out.z0
      have z1 := REL.out.z1
      have N := Lib.hid REL.out.n3
      have A := Lib.hid (N.out.alloc (.cells #[.int .i64 0, .int .i64 0, .int .i64 0, .int .i64 0, .int .i64 0, .int .i64 1, .int .i64 1, .int .i64 1, .int .i64 2, .int .i64 2] 3))
      have s1 := A.out.c1
      have f1 := A.out.free 1
      have lt := N.out.lt
      by_cases c1 : b6.toNat < 48
      · have d1 : decide ((48 : Int) ≤ (b6.toNat : Int)) = false := by simp; omega
        have DG := Lib.hid (dig_no y (show ¬ digs.isD b6 from fun h => by have := h.1; omega))
        go_wp2
        go_roundw
        case rel => exact ⟨7, x, y, z, by omega, by go_num, A.out, by rw [show st b0 b1 b2 b3 b4 b5 b6 b7 b8 b9 7 = ((st b0 b1 b2 b3 b4 b5 b6 b7 b8 b9 6).1, dig b6 ((st b0 b1 b2 b3 b4 b5 b6 b7 b8 b9 6).2.1), (st b0 b1 b2 b3 b4 b5 b6 b7 b8 b9 6).2.2) from rfl, ix.out.st]; simp only []; rw [DG.out], by omega, by omega, by omega, by omega, by omega, by omega⟩
        case measure => simp [intOf]
      · have d1 : decide ((48 : Int) ≤ (b6.toNat : Int)) = true := by simp; omega
        by_cases c2 : 57 < b6.toNat
        · have d2 : decide ((b6.toNat : Int) ≤ 57) = false := by simp; omega
          have DG := Lib.hid (dig_no y (show ¬ digs.isD b6 from fun h => by have := h.2; omega))
          go_wp2
          go_roundw
          case rel => exact ⟨7, x, y, z, by omega, by go_num, A.out, by rw [show st b0 b1 b2 b3 b4 b5 b6 b7 b8 b9 7 = ((st b0 b1 b2 b3 b4 b5 b6 b7 b8 b9 6).1, dig b6 ((st b0 b1 b2 b3 b4 b5 b6 b7 b8 b9 6).2.1), (st b0 b1 b2 b3 b4 b5 b6 b7 b8 b9 6).2.2) from rfl, ix.out.st]; simp only []; rw [DG.out], by omega, by omega, by omega, by omega, by omega, by omega⟩
          case measure => simp [intOf]
        · have d2 : decide ((b6.toNat : Int) ≤ 57) = true := by simp; omega
          have DG := Lib.hid (dig_yes y (show digs.isD b6 from ⟨by omega, by omega⟩))
          go_wp2
          go_region_with (fail)
          all_goals go_wp2
          all_goals (refine ⟨?_, by simp [intOf]⟩)
          all_goals exact ⟨7, x, (10 * y + ((b6.toNat : Int) - 48)), z, by omega, by go_num, ((N.out.set1 _).alloc _).drew, by rw [show st b0 b1 b2 b3 b4 b5 b6 b7 b8 b9 7 = ((st b0 b1 b2 b3 b4 b5 b6 b7 b8 b9 6).1, dig b6 ((st b0 b1 b2 b3 b4 b5 b6 b7 b8 b9 6).2.1), (st b0 b1 b2 b3 b4 b5 b6 b7 b8 b9 6).2.2) from rfl, ix.out.st]; simp only []; rw [DG.out], by omega, by omega, by omega, by omega, by omega, by omega⟩
    · have bx : ((⟨#[b0, b1, b2, b3, b4, b5, b6, b7, b8, b9]⟩ : ByteArray)[7]'(by show 7 < 10; omega)) = b7 := rfl
      have ix := Lib.hid REL.out
      have x0 := REL.out.x0
      have x1 := REL.out.x1
      have y0 := REL.out.y0
      have y1 := REL.out.y1
      have z0 := REL.out.z0
      have z1 := REL.out.z1
      have N := Lib.hid REL.out.n3
      have A := Lib.hid (N.out.alloc (.cells #[.int .i64 0, .int .i64 0, .int .i64 0, .int .i64 0, .int .i64 0, .int .i64 1, .int .i64 1, .int .i64 1, .int .i64 2, .int .i64 2] 3))
      have s1 := A.out.c1
      have f1 := A.out.free 1
      have lt := N.out.lt
      by_cases c1 : b7.toNat < 48
      · have d1 : decide ((48 : Int) ≤ (b7.toNat : Int)) = false := by simp; omega
        have DG := Lib.hid (dig_no y (show ¬ digs.isD b7 from fun h => by have := h.1; omega))
        go_wp2
        go_roundw
        case rel => exact ⟨8, x, y, z, by omega, by go_num, A.out, by rw [show st b0 b1 b2 b3 b4 b5 b6 b7 b8 b9 8 = ((st b0 b1 b2 b3 b4 b5 b6 b7 b8 b9 7).1, dig b7 ((st b0 b1 b2 b3 b4 b5 b6 b7 b8 b9 7).2.1), (st b0 b1 b2 b3 b4 b5 b6 b7 b8 b9 7).2.2) from rfl, ix.out.st]; simp only []; rw [DG.out], by omega, by omega, by omega, by omega, by omega, by omega⟩
        case measure => simp [intOf]
      · have d1 : decide ((48 : Int) ≤ (b7.toNat : Int)) = true := by simp; omega
        by_cases c2 : 57 < b7.toNat
        · have d2 : decide ((b7.toNat : Int) ≤ 57) = false := by simp; omega
          have DG := Lib.hid (dig_no y (show ¬ digs.isD b7 from fun h => by have := h.2; omega))
          go_wp2
          go_roundw
          case rel => exact ⟨8, x, y, z, by omega, by go_num, A.out, by rw [show st b0 b1 b2 b3 b4 b5 b6 b7 b8 b9 8 = ((st b0 b1 b2 b3 b4 b5 b6 b7 b8 b9 7).1, dig b7 ((st b0 b1 b2 b3 b4 b5 b6 b7 b8 b9 7).2.1), (st b0 b1 b2 b3 b4 b5 b6 b7 b8 b9 7).2.2) from rfl, ix.out.st]; simp only []; rw [DG.out], by omega, by omega, by omega, by omega, by omega, by omega⟩
          case measure => simp [intOf]
        · have d2 : decide ((b7.toNat : Int) ≤ 57) = true := by simp; omega
          have DG := Lib.hid (dig_yes y (show digs.isD b7 from ⟨by omega, by omega⟩))
          go_wp2
          go_region_with (fail)
          all_goals go_wp2
          all_goals (refine ⟨?_, by simp [intOf]⟩)
          all_goals exact ⟨8, x, (10 * y + ((b7.toNat : Int) - 48)), z, by omega, by go_num, ((N.out.set1 _).alloc _).drew, by rw [show st b0 b1 b2 b3 b4 b5 b6 b7 b8 b9 8 = ((st b0 b1 b2 b3 b4 b5 b6 b7 b8 b9 7).1, dig b7 ((st b0 b1 b2 b3 b4 b5 b6 b7 b8 b9 7).2.1), (st b0 b1 b2 b3 b4 b5 b6 b7 b8 b9 7).2.2) from rfl, ix.out.st]; simp only []; rw [DG.out], by omega, by omega, by omega, by omega, by omega, by omega⟩
    · have bx : ((⟨#[b0, b1, b2, b3, b4, b5, b6, b7, b8, b9]⟩ : ByteArray)[8]'(by show 8 < 10; omega)) = b8 := rfl
      have ix := Lib.hid REL.out
      have x0 := REL.out.x0
      have x1 := REL.out.x1
      have y0 := REL.out.y0
      have y1 := REL.out.y1
      have z0 := REL.out.z0
      have z1 := REL.out.z1
      have N := Lib.hid REL.out.n3
      have A := Lib.hid (N.out.alloc (.cells #[.int .i64 0, .int .i64 0, .int .i64 0, .int .i64 0, .int .i64 0, .int .i64 1, .int .i64 1, .int .i64 1, .int .i64 2, .int .i64 2] 3))
      have s2 := A.out.c2
      have f2 := A.out.free 2
      have lt := N.out.lt
      by_cases c1 : b8.toNat < 48
      · have d1 : decide ((48 : Int) ≤ (b8.toNat : Int)) = false := by simp; omega
        have DG := Lib.hid (dig_no z (show ¬ digs.isD b8 from fun h => by have := h.1; omega))
        go_wp2
        go_roundw
        case rel => exact ⟨9, x, y, z, by omega, by go_num, A.out, by rw [show st b0 b1 b2 b3 b4 b5 b6 b7 b8 b9 9 = ((st b0 b1 b2 b3 b4 b5 b6 b7 b8 b9 8).1, (st b0 b1 b2 b3 b4 b5 b6 b7 b8 b9 8).2.1, dig b8 ((st b0 b1 b2 b3 b4 b5 b6 b7 b8 b9 8).2.2)) from rfl, ix.out.st]; simp only []; rw [DG.out], by omega, by omega, by omega, by omega, by omega, by omega⟩
        case measure => simp [intOf]
      · have d1 : decide ((48 : Int) ≤ (b8.toNat : Int)) = true := by simp; omega
        by_cases c2 : 57 < b8.toNat
        · have d2 : decide ((b8.toNat : Int) ≤ 57) = false := by simp; omega
          have DG := Lib.hid (dig_no z (show ¬ digs.isD b8 from fun h => by have := h.2; omega))
          go_wp2
          go_roundw
          case rel => exact ⟨9, x, y, z, by omega, by go_num, A.out, by rw [show st b0 b1 b2 b3 b4 b5 b6 b7 b8 b9 9 = ((st b0 b1 b2 b3 b4 b5 b6 b7 b8 b9 8).1, (st b0 b1 b2 b3 b4 b5 b6 b7 b8 b9 8).2.1, dig b8 ((st b0 b1 b2 b3 b4 b5 b6 b7 b8 b9 8).2.2)) from rfl, ix.out.st]; simp only []; rw [DG.out], by omega, by omega, by omega, by omega, by omega, by omega⟩
          case measure => simp [intOf]
        · have d2 : decide ((b8.toNat : Int) ≤ 57) = true := by simp; omega
          have DG := Lib.hid (dig_yes z (show digs.isD b8 from ⟨by omega, by omega⟩))
          go_wp2
          go_region_with (fail)
          all_goals go_wp2
          all_goals (refine ⟨?_, by simp [intOf]⟩)
          all_goals exact ⟨9, x, y, (10 * z + ((b8.toNat : Int) - 48)), by omega, by go_num, ((N.out.set2 _).alloc _).drew, by rw [show st b0 b1 b2 b3 b4 b5 b6 b7 b8 b9 9 = ((st b0 b1 b2 b3 b4 b5 b6 b7 b8 b9 8).1, (st b0 b1 b2 b3 b4 b5 b6 b7 b8 b9 8).2.1, dig b8 ((st b0 b1 b2 b3 b4 b5 b6 b7 b8 b9 8).2.2)) from rfl, ix.out.st]; simp only []; rw [DG.out], by omega, by omega, by omega, by omega, by omega, by omega⟩
    · have bx : ((⟨#[b0, b1, b2, b3, b4, b5, b6, b7, b8, b9]⟩ : ByteArray)[9]'(by show 9 < 10; omega)) = b9 := rfl
      have ix := Lib.hid REL.out
      have x0 := REL.out.x0
      have x1 := REL.out.x1
      have y0 := REL.out.y0
      have y1 := REL.out.y1
      have z0 := REL.out.z0
      have z1 := REL.out.z1
      have N := Lib.hid REL.out.n3
      have A := Lib.hid (N.out.alloc (.cells #[.int .i64 0, .int .i64 0, .int .i64 0, .int .i64 0, .int .i64 0, .int .i64 1, .int .i64 1, .int .i64 1, .int .i64 2, .int .i64 2] 3))
      have s2 := A.out.c2
      have f2 := A.out.free 2
      have lt := N.out.lt
      by_cases c1 : b9.toNat < 48
      · have d1 : decide ((48 : Int) ≤ (b9.toNat : Int)) = false := by simp; omega
        have DG := Lib.hid (dig_no z (show ¬ digs.isD b9 from fun h => by have := h.1; omega))
        go_wp2
        go_roundw
        case rel => exact ⟨10, x, y, z, by omega, by go_num, A.out, by rw [show st b0 b1 b2 b3 b4 b5 b6 b7 b8 b9 10 = ((st b0 b1 b2 b3 b4 b5 b6 b7 b8 b9 9).1, (st b0 b1 b2 b3 b4 b5 b6 b7 b8 b9 9).2.1, dig b9 ((st b0 b1 b2 b3 b4 b5 b6 b7 b8 b9 9).2.2)) from rfl, ix.out.st]; simp only []; rw [DG.out], by omega, by omega, by omega, by omega, by omega, by omega⟩
        case measure => simp [intOf]
      · have d1 : decide ((48 : Int) ≤ (b9.toNat : Int)) = true := by simp; omega
        by_cases c2 : 57 < b9.toNat
        · have d2 : decide ((b9.toNat : Int) ≤ 57) = false := by simp; omega
          have DG := Lib.hid (dig_no z (show ¬ digs.isD b9 from fun h => by have := h.2; omega))
          go_wp2
          go_roundw
          case rel => exact ⟨10, x, y, z, by omega, by go_num, A.out, by rw [show st b0 b1 b2 b3 b4 b5 b6 b7 b8 b9 10 = ((st b0 b1 b2 b3 b4 b5 b6 b7 b8 b9 9).1, (st b0 b1 b2 b3 b4 b5 b6 b7 b8 b9 9).2.1, dig b9 ((st b0 b1 b2 b3 b4 b5 b6 b7 b8 b9 9).2.2)) from rfl, ix.out.st]; simp only []; rw [DG.out], by omega, by omega, by omega, by omega, by omega, by omega⟩
          case measure => simp [intOf]
        · have d2 : decide ((b9.toNat : Int) ≤ 57) = true := by simp; omega
          have DG := Lib.hid (dig_yes z (show digs.isD b9 from ⟨by omega, by omega⟩))
          go_wp2
          go_region_with (fail)
          all_goals go_wp2
          all_goals (refine ⟨?_, by simp [intOf]⟩)
          all_goals exact ⟨10, x, y, (10 * z + ((b9.toNat : Int) - 48)), by omega, by go_num, ((N.out.set2 _).alloc _).drew, by rw [show st b0 b1 b2 b3 b4 b5 b6 b7 b8 b9 10 = ((st b0 b1 b2 b3 b4 b5 b6 b7 b8 b9 9).1, (st b0 b1 b2 b3 b4 b5 b6 b7 b8 b9 9).2.1, dig b9 ((st b0 b1 b2 b3 b4 b5 b6 b7 b8 b9 9).2.2)) from rfl, ix.out.st]; simp only []; rw [DG.out], by omega, by omega, by omega, by omega, by omega, by omega⟩
    · have N := Lib.hid REL.out.n3
      have hst := REL.out.st
      rw [HST.out] at hst
      obtain ⟨rfl, rfl, rfl⟩ := (Prod.mk.injEq .. ▸ hst : X = x ∧ (Y, Z) = (y, z)) |>.imp_right (fun h => Prod.mk.injEq .. ▸ h)
      clear hst
      have lt := N.out.lt
      have s0 := N.out.c0
      have s1 := N.out.c1
      have s2 := N.out.c2
      have CW := Lib.hid (C.out.below N.out.below.drew lt0)
      have NB := Lib.hid N.out.below.drew
      have DS := Lib.hid (dayOf.spec X Y Z wr.drew CW.out)
      generalize hq : dayOf.ok X Y Z = q at DS
      have HQ := Lib.hid hq
      clear hq
      cases q with
      | false =>
        go_wp2_with fail
        go_region_held3 (fun w' => w'.cell? ⟨w.heap.size, 0, none⟩ = some (.int .i64 X) ∧ w'.cell? ⟨w.heap.size, 1, none⟩ = some (.int .i64 Y) ∧ w'.cell? ⟨w.heap.size, 2, none⟩ = some (.int .i64 Z)) (first | go_keep | (exact ⟨(b1.cell lt).trans s0, (b1.cell lt).trans s1, (b1.cell lt).trans s2⟩)) ((go_at_call 17; refine DS.out.mono ?_; rintro e w1 ⟨rfl, b1⟩))
        have B1 := Lib.hid (NB.out.trans (b1.mono (Nat.le_of_lt lt)))
        clear b1
        go_wp2
        go_ret2
        exact ⟨ret_v (ans_no HQ.out), B1.out⟩
      | true =>
        have ISD := Lib.hid (is_date HQ.out)
        go_wp2_with fail
        go_region_held3 (fun w' => w'.cell? ⟨w.heap.size, 0, none⟩ = some (.int .i64 X) ∧ w'.cell? ⟨w.heap.size, 1, none⟩ = some (.int .i64 Y) ∧ w'.cell? ⟨w.heap.size, 2, none⟩ = some (.int .i64 Z)) (first | go_keep | (exact ⟨(b1.cell lt).trans s0, (b1.cell lt).trans s1, (b1.cell lt).trans s2⟩)) ((go_at_call 17; refine DS.out.mono ?_; rintro e w1 ⟨rfl, b1⟩))
        have B1 := Lib.hid (NB.out.trans (b1.mono (Nat.le_of_lt lt)))
        clear b1
        go_wp2_with fail
        refine (dec.text_spec (dayOf.val X Y Z) X Y Z w1 (C.out.below B1.out lt0) ISD.out).mono ?_
        rintro e w2 ⟨rfl, b2⟩
        have B2 := Lib.hid (B1.out.trans (b2.mono B1.out.size))
        clear b2
        cases hb : (dec.dateL X Y Z == [b0, b1, b2, b3, b4, b5, b6, b7, b8, b9]) with
        | false =>
          go_wp2
          go_ret2
          exact ⟨ret_v (ans_ne hb), B2.out⟩
        | true =>
          go_wp2
          go_ret2
          exact ⟨ret_v (ans_yes HQ.out hb), B2.out⟩
end Go.Proofs.YtlpeadkkkmpccabDoor.read
