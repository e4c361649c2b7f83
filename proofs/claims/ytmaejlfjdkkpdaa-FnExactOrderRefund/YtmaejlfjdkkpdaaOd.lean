/-
  Plain helpers of this seat's proofs: what the landed iterator over open debts hands on. Conditions: none.
-/
import Derived.Test.YtmaejlfjdkkpdaaDb
import Derived.Shelf.Abstract
import Derived.Shelf.AbstractIn
import Derived.Shelf.RegionOpen
import Derived.OwnWalkIn
import Derived.TacticsInMore
import Derived.LoopNIn
import Derived.LoopIn
namespace Go.Proofs.Ytmaejlfjdkkpdaa.base
open Go.ChangeShapes Go.WideShapes Go.ChangeAt Go.RowKit
open seven (F7 zz Row At)
open pl (inR prOk pok)
open gen
open Go.Shelf
attribute [local go_sem] Oper.semAt_some
/-- The j-th debt of a Part: the place where its payment is recorded, and what is open. -/
def el (i : Nat) (x : F7) (j : Nat) : Nat × Int := if j = 0 then (i * 7 + 6, x.2.2.2.1 - x.2.2.2.2.2.2) else if j = 1 then (i * 7 + 5, x.2.2.1 - x.2.2.2.2.2.1) else (i * 7 + 4, x.2.1 - x.2.2.2.2.1)
/-- The open ones of the first j debts of a Part. -/
def dsTo (i : Nat) (x : F7) : Nat → List (Nat × Int)
  | 0 => []
  | j + 1 => dsTo i x j ++ (if 0 < (el i x j).2 then [el i x j] else [])
/-- The open debts of the first k Parts. -/
def DS (L : List F7) : Nat → List (Nat × Int)
  | 0 => []
  | k + 1 => DS L k ++ dsTo k (L.getD k zz) 3
def encD (g : Nat) (x : Nat × Int) : Array Value := #[.agg #[.pointer (some ⟨g, x.1, none⟩), .int .i64 x.2]]
/-- What the iterator reads, when some debts have been handed on. -/
structure Rd (g Bs cap : Nat) (L : List F7) (pre : List (Nat × Int)) (W : World) : Prop where
  hd : W.cell? ⟨Bs, 0, none⟩ = some (.slice (some ⟨g, 0, none⟩) L.length cap)
  pt : ∀ i, i < L.length → pre = DS L i → At W g (i * 7) (L.getD i zz)
/-- What may come next. -/
def Nx (L : List F7) (pre : List (Nat × Int)) (x : Nat × Int) : Prop := ∃ k j, k < L.length ∧ j < 3 ∧ pre = DS L k ++ dsTo k (L.getD k zz) j ∧ x = el k (L.getD k zz) j ∧ 0 < x.2
theorem by_below {A B : World} (h : Below A.heap.size A B) : A.grownBy B none := ⟨h.os, h.tape, h.output, h.size, fun k hk _ => h.block k hk⟩
theorem dsTo_t {i j : Nat} {x : F7} (h : 0 < (el i x j).2) : dsTo i x (j + 1) = dsTo i x j ++ [el i x j] := by rw [dsTo, if_pos h]
theorem dsTo_f {i j : Nat} {x : F7} (h : ¬ 0 < (el i x j).2) : dsTo i x (j + 1) = dsTo i x j := by rw [dsTo, if_neg h, List.append_nil]
set_option maxRecDepth 100000 in
theorem ixD (a b c d e f : Value) (w : World) : (Instr.index 137 (.agg #[a, b, c, d, e, f]) (.int .i64 0)).run Try.prog w = .ok (.agg #[a, b]) w ∧ (Instr.index 137 (.agg #[a, b, c, d, e, f]) (.int .i64 1)).run Try.prog w = .ok (.agg #[c, d]) w ∧ (Instr.index 137 (.agg #[a, b, c, d, e, f]) (.int .i64 2)).run Try.prog w = .ok (.agg #[e, f]) w := by
  refine ⟨?_, ?_, ?_⟩
  all_goals
    simp only [Instr.index, asIntOf, Sem.run_bind, Sem.run_pure, Result.andThen_ok, run_underlying Try.underlying137, part]
    rfl
set_option maxRecDepth 100000 in
set_option maxHeartbeats 4000000 in
theorem odIt (n : Nat) (hn : 2 ≤ n) (g Bs cap : Nat) (L : List F7) (hlen : L.length ≤ 24) (hcap : L.length ≤ cap) (hp : ∀ i, i < L.length → pl.Pin (L.getD i zz)) :
    rf.Iter Fence.wide n Try.prog 123 #[.pointer (some ⟨Bs, 0, none⟩)] (encD g) (Rd g Bs cap L) (Nx L) (fun xs => xs = DS L L.length) := by
  intro l J Jx W hst hQ hY h0
  have HST := Lib.hid hst
  have HQ := Lib.hid hQ
  have HY := Lib.hid hY
  have HP := Lib.hid hp
  have hh0 := (hQ _ _ h0).hd
  clear hst hQ hY hp
  obtain ⟨len, hl⟩ : ∃ len, len = L.length := ⟨_, rfl⟩
  rw [← hl] at hlen hcap hh0
  have HL := Lib.hid hl
  clear hl
  have hro : Fence.wide.round = none := rfl
  refine callsIn_of_wp Try.func123 rfl trivial ?_ hro
  simp only [Try.ntmps123, List.size_toArray, List.length_cons, List.length_nil, Nat.reduceAdd, Nat.reduceSub, Array.replicate_succ, Array.replicate_zero, List.push_toArray, List.append_toArray, List.nil_append, List.cons_append]
  gi_wp2
  gi_loopw [8] (fun i wr => ∃ k : Nat, k ≤ len ∧ i = .int .i64 k ∧ J (DS L k) wr) (fun i _ => len - (intOf i).toNat)
  case atStart => exact ⟨0, by omega, rfl, h0⟩
  case round =>
    obtain ⟨k, hk, rfl, hJ⟩ := hrel
    have JJ := Lib.hid hJ
    by_cases hlt : k < len
    · have HLT := Lib.hid (show k < L.length from by rw [← HL.out]; exact hlt)
      have hd := (HQ.out _ _ hJ).hd
      rw [← HL.out] at hd
      have q := (HQ.out _ _ hJ).pt k HLT.out rfl
      have PX := HP.out k HLT.out
      obtain ⟨x, hx⟩ : ∃ x, x = L.getD k zz := ⟨_, rfl⟩
      rw [← hx] at q PX
      have HX := Lib.hid hx
      have DB := Lib.hid (dbC wr g (k * 7) x q PX)
      have z1 : (k : Int) < (len : Int) := by omega
      have u1 : decide (k < len) = true := by simp; omega
      clear hx q hJ
      have hw : Fence.wide.fn 124 := trivial
      gi_wp2_with fail
      refine ⟨fun _ => (by omega), (callsIn_wide.2 DB.out).mono ?_⟩
      rintro e w1 ⟨rfl, b1⟩
      have J1 := Lib.hid (show J (DS L k ++ dsTo k x 0) w1 from by rw [dsTo, List.append_nil]; exact HST.out _ _ _ JJ.out (by_below b1))
      clear b1 DB hd
      obtain ⟨D0, hD0⟩ : ∃ D, D = x.2.2.2.1 - x.2.2.2.2.2.2 := ⟨_, rfl⟩
      obtain ⟨D1, hD1⟩ : ∃ D, D = x.2.2.1 - x.2.2.2.2.2.1 := ⟨_, rfl⟩
      obtain ⟨D2, hD2⟩ : ∃ D, D = x.2.1 - x.2.2.2.2.1 := ⟨_, rfl⟩
      rw [← hD0, ← hD1, ← hD2]
      have HD0 := Lib.hid hD0
      have HD1 := Lib.hid hD1
      have HD2 := Lib.hid hD2
      clear hD0 hD1 hD2
      gi_wp2
      obtain ⟨_, _, v1, v2, v3, v4, v5, v6, v7, v8, v9, v10, v11, v12⟩ := PX
      gi_loopw [15] (fun jv wr => (jv = .int .i64 0 ∧ J (DS L k ++ dsTo k x 0) wr) ∨ (jv = .int .i64 1 ∧ J (DS L k ++ dsTo k x 1) wr) ∨ (jv = .int .i64 2 ∧ J (DS L k ++ dsTo k x 2) wr) ∨ (jv = .int .i64 3 ∧ J (DS L k ++ dsTo k x 3) wr)) (fun jv _ => 3 - (intOf jv).toNat)
      case atStart => exact .inl ⟨rfl, J1.out⟩
      case round =>
        clear J1 JJ
        rcases hrel with ⟨rfl, hJ⟩ | ⟨rfl, hJ⟩ | ⟨rfl, hJ⟩ | ⟨rfl, hJ⟩
        · have hix := fun w => (ixD (.pointer (some ⟨g, k * 7 + 6, none⟩)) (.int .i64 D0) (.pointer (some ⟨g, k * 7 + 5, none⟩)) (.int .i64 D1) (.pointer (some ⟨g, k * 7 + 4, none⟩)) (.int .i64 D2) w).1
          cases t1 : decide (0 < D0) with
          | false =>
            have E := Lib.hid (show dsTo k x 1 = dsTo k x 0 from dsTo_f (by show ¬ 0 < x.2.2.2.1 - x.2.2.2.2.2.2; rw [← HD0.out]; simpa using t1))
            have J2 := Lib.hid (HST.out _ _ _ hJ (World.grownBy_alloc wr (.cells #[.pointer (some ⟨g, k * 7 + 6, none⟩), .int .i64 D0] 127) none))
            clear hJ
            gi_wp2
            refine ⟨fun f h => (by cases h), ?_⟩
            gi_wp2
            go_roundw
            case rel => exact .inr (.inl ⟨by go_num, by rw [E.out]; exact J2.out⟩)
            case measure => simp [intOf]
          | true =>
            have hpos : 0 < D0 := by simpa using t1
            have E := Lib.hid (show dsTo k x 1 = dsTo k x 0 ++ [(k * 7 + 6, D0)] from by rw [HD0.out]; exact dsTo_t (i := k) (x := x) (j := 0) (by show 0 < x.2.2.2.1 - x.2.2.2.2.2.2; rw [← HD0.out]; exact hpos))
            have J2 := HST.out _ _ _ hJ (World.grownBy_alloc wr (.cells #[.pointer (some ⟨g, k * 7 + 6, none⟩), .int .i64 D0] 127) none)
            obtain ⟨fn, tmps, assign, body, hy, hR⟩ := HY.out _ (k * 7 + 6, D0) _ J2 ⟨k, 0, HLT.out, by omega, by rw [← HX.out], by rw [← HX.out, HD0.out]; rfl, hpos⟩
            dsimp only [encD] at hy
            have d0 : (wr.alloc (.cells #[.pointer (some ⟨g, k * 7 + 6, none⟩), .int .i64 D0] 127)).cell? ⟨wr.heap.size, 0, none⟩ = some (.pointer (some ⟨g, k * 7 + 6, none⟩)) := box_cell (box_refl wr _) 0 rfl
            have d1 : (wr.alloc (.cells #[.pointer (some ⟨g, k * 7 + 6, none⟩), .int .i64 D0] 127)).cell? ⟨wr.heap.size, 1, none⟩ = some (.int .i64 D0) := box_cell (box_refl wr _) 1 rfl
            clear hJ J2 hpos
            gi_wp2
            refine ⟨fun _ => (by omega), hR.mono ?_⟩
            rintro e W3 (⟨rfl, hJ3⟩ | ⟨rfl, hJx3⟩)
            · gi_wp2
              go_roundw
              case rel => exact .inr (.inl ⟨by go_num, by rw [E.out, ← List.append_assoc]; exact hJ3⟩)
              case measure => simp [intOf]
            · gi_wp2
              refine bodyPost_ret (results_none rfl _ _ _) rfl ?_
              exact ⟨⟨_, rfl⟩, .inr ⟨_, hJx3⟩⟩
        · have hix := fun w => (ixD (.pointer (some ⟨g, k * 7 + 6, none⟩)) (.int .i64 D0) (.pointer (some ⟨g, k * 7 + 5, none⟩)) (.int .i64 D1) (.pointer (some ⟨g, k * 7 + 4, none⟩)) (.int .i64 D2) w).2.1
          cases t1 : decide (0 < D1) with
          | false =>
            have E := Lib.hid (show dsTo k x 2 = dsTo k x 1 from dsTo_f (by show ¬ 0 < x.2.2.1 - x.2.2.2.2.2.1; rw [← HD1.out]; simpa using t1))
            have J2 := Lib.hid (HST.out _ _ _ hJ (World.grownBy_alloc wr (.cells #[.pointer (some ⟨g, k * 7 + 5, none⟩), .int .i64 D1] 127) none))
            clear hJ
            gi_wp2
            refine ⟨fun f h => (by cases h), ?_⟩
            gi_wp2
            go_roundw
            case rel => exact .inr (.inr (.inl ⟨by go_num, by rw [E.out]; exact J2.out⟩))
            case measure => simp [intOf]
          | true =>
            have hpos : 0 < D1 := by simpa using t1
            have E := Lib.hid (show dsTo k x 2 = dsTo k x 1 ++ [(k * 7 + 5, D1)] from by rw [HD1.out]; exact dsTo_t (i := k) (x := x) (j := 1) (by show 0 < x.2.2.1 - x.2.2.2.2.2.1; rw [← HD1.out]; exact hpos))
            have J2 := HST.out _ _ _ hJ (World.grownBy_alloc wr (.cells #[.pointer (some ⟨g, k * 7 + 5, none⟩), .int .i64 D1] 127) none)
            obtain ⟨fn, tmps, assign, body, hy, hR⟩ := HY.out _ (k * 7 + 5, D1) _ J2 ⟨k, 1, HLT.out, by omega, by rw [← HX.out], by rw [← HX.out, HD1.out]; rfl, hpos⟩
            dsimp only [encD] at hy
            have d0 : (wr.alloc (.cells #[.pointer (some ⟨g, k * 7 + 5, none⟩), .int .i64 D1] 127)).cell? ⟨wr.heap.size, 0, none⟩ = some (.pointer (some ⟨g, k * 7 + 5, none⟩)) := box_cell (box_refl wr _) 0 rfl
            have d1 : (wr.alloc (.cells #[.pointer (some ⟨g, k * 7 + 5, none⟩), .int .i64 D1] 127)).cell? ⟨wr.heap.size, 1, none⟩ = some (.int .i64 D1) := box_cell (box_refl wr _) 1 rfl
            clear hJ J2 hpos
            gi_wp2
            refine ⟨fun _ => (by omega), hR.mono ?_⟩
            rintro e W3 (⟨rfl, hJ3⟩ | ⟨rfl, hJx3⟩)
            · gi_wp2
              go_roundw
              case rel => exact .inr (.inr (.inl ⟨by go_num, by rw [E.out, ← List.append_assoc]; exact hJ3⟩))
              case measure => simp [intOf]
            · gi_wp2
              refine bodyPost_ret (results_none rfl _ _ _) rfl ?_
              exact ⟨⟨_, rfl⟩, .inr ⟨_, hJx3⟩⟩
        · have hix := fun w => (ixD (.pointer (some ⟨g, k * 7 + 6, none⟩)) (.int .i64 D0) (.pointer (some ⟨g, k * 7 + 5, none⟩)) (.int .i64 D1) (.pointer (some ⟨g, k * 7 + 4, none⟩)) (.int .i64 D2) w).2.2
          cases t1 : decide (0 < D2) with
          | false =>
            have E := Lib.hid (show dsTo k x 3 = dsTo k x 2 from dsTo_f (by show ¬ 0 < x.2.1 - x.2.2.2.2.1; rw [← HD2.out]; simpa using t1))
            have J2 := Lib.hid (HST.out _ _ _ hJ (World.grownBy_alloc wr (.cells #[.pointer (some ⟨g, k * 7 + 4, none⟩), .int .i64 D2] 127) none))
            clear hJ
            gi_wp2
            refine ⟨fun f h => (by cases h), ?_⟩
            gi_wp2
            go_roundw
            case rel => exact .inr (.inr (.inr ⟨by go_num, by rw [E.out]; exact J2.out⟩))
            case measure => simp [intOf]
          | true =>
            have hpos : 0 < D2 := by simpa using t1
            have E := Lib.hid (show dsTo k x 3 = dsTo k x 2 ++ [(k * 7 + 4, D2)] from by rw [HD2.out]; exact dsTo_t (i := k) (x := x) (j := 2) (by show 0 < x.2.1 - x.2.2.2.2.1; rw [← HD2.out]; exact hpos))
            have J2 := HST.out _ _ _ hJ (World.grownBy_alloc wr (.cells #[.pointer (some ⟨g, k * 7 + 4, none⟩), .int .i64 D2] 127) none)
            obtain ⟨fn, tmps, assign, body, hy, hR⟩ := HY.out _ (k * 7 + 4, D2) _ J2 ⟨k, 2, HLT.out, by omega, by rw [← HX.out], by rw [← HX.out, HD2.out]; rfl, hpos⟩
            dsimp only [encD] at hy
            have d0 : (wr.alloc (.cells #[.pointer (some ⟨g, k * 7 + 4, none⟩), .int .i64 D2] 127)).cell? ⟨wr.heap.size, 0, none⟩ = some (.pointer (some ⟨g, k * 7 + 4, none⟩)) := box_cell (box_refl wr _) 0 rfl
            have d1 : (wr.alloc (.cells #[.pointer (some ⟨g, k * 7 + 4, none⟩), .int .i64 D2] 127)).cell? ⟨wr.heap.size, 1, none⟩ = some (.int .i64 D2) := box_cell (box_refl wr _) 1 rfl
            clear hJ J2 hpos
            gi_wp2
            refine ⟨fun _ => (by omega), hR.mono ?_⟩
            rintro e W3 (⟨rfl, hJ3⟩ | ⟨rfl, hJx3⟩)
            · gi_wp2
              go_roundw
              case rel => exact .inr (.inr (.inr ⟨by go_num, by rw [E.out, ← List.append_assoc]; exact hJ3⟩))
              case measure => simp [intOf]
            · gi_wp2
              refine bodyPost_ret (results_none rfl _ _ _) rfl ?_
              exact ⟨⟨_, rfl⟩, .inr ⟨_, hJx3⟩⟩
        · gi_wp2
          go_roundw
          case rel => exact ⟨k + 1, by omega, by go_num, by rw [DS, ← HX.out]; exact hJ⟩
          case measure => simp [intOf]; omega
    · have u1 : decide (k < len) = false := by simp; omega
      obtain rfl : k = len := by omega
      clear hJ
      gi_wp2
      go_end0
      exact ⟨⟨_, rfl⟩, .inl ⟨_, by rw [HL.out], JJ.out⟩⟩
end Go.Proofs.Ytmaejlfjdkkpdaa.base
