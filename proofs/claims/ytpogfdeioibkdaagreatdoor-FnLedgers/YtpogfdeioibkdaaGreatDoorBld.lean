/-
  Plain helpers of this seat's proofs: the methods of strings.Builder that write, at this program (the shelf's layings of them fall here: the refused statement of copyCheck names no string). Conditions: none.
-/
import Derived.Test.YtpogfdeioibkdaaGreatDoorShelf
import Derived.Test.YtpogfdeioibkdaaGreatDoorFive
import Derived.Lib.FrozenHead2
import Derived.OwnWalk
namespace Go.Proofs.YtpogfdeioibkdaaGreatDoor.bld
open Go.ChangeShapes Go.WideShapes Go.ChangeAt Go.RowKit
/-- A builder in block b, its bytes at B or later. -/
abbrev Is (B b : Nat) (bs : List Value) (w : World) : Prop := Lib.IsBuilderF 59 5 B b bs w
abbrev Used (B b : Nat) (bs : List Value) (w : World) : Prop := Lib.BuilderAtF 59 5 B b (.pointer (some ⟨b, 0, none⟩)) bs w
set_option maxHeartbeats 2000000 in
set_option maxRecDepth 100000 in
theorem check (B b : Nat) (bs : List Value) (w : World) (h : Is B b bs w) : Calls Tryz.prog 67 #[.pointer (some ⟨b, 0, none⟩)] w fun e w' => e = .returned (.tuple #[]) ∧ Used B b bs w' ∧ Below B w w' := by
  obtain ⟨j, hj, hjs⟩ := Option.map_eq_some_iff.1 (Tryz.Builder_Extra_156).sizeBuilder
  rcases h with h | h
  · have y0 := h.cell0
    have sh := h.shape
    have f0 := h.frozen0
    have HB := Lib.hid h
    clear h
    go_enter Tryz.func67, Tryz.ntmps67
    go_wp2
    rw [Lib.run_to_unsafe w ⟨b, 0, none⟩ Tryz.underlying57 Tryz.underlying106 hj (by rw [hjs]; decide) sh (Nat.zero_lt_succ 1)]
    simp only [Result.andThen]
    rw [Oper.upon_value]
    go_wp2
    rw [run_callFunc_extern Tryz.func83 (by kernel_rfl) (by kernel_rfl) (by kernel_rfl) (e := Extern.AbiNoEscape.same) (by kernel_rfl)]
    rw [Lib.run_noEscape]
    simp only [Result.andThen]
    rw [Oper.upon_value]
    go_wp2
    rw [Lib.run_from_unsafe w ⟨b, 0, none⟩ Tryz.underlying106 Tryz.underlying57 hj sh (Tryz.Builder_Extra_156).liesBuilder]
    simp only [Result.andThen]
    rw [Oper.upon_value]
    go_wp2
    go_end0
    exact ⟨rfl, HB.out.used _, (Below.refl B w).setCell (p := ⟨b, 0, none⟩) HB.out.1 _⟩
  · have y0 := h.cell0
    have HB := Lib.hid h
    clear h
    go_enter Tryz.func67, Tryz.ntmps67
    go_wp2
    rw [Lib.run_neq_ptr_same w _ Tryz.underlying57 hj]
    go_wp2
    go_end0
    exact ⟨rfl, HB.out, Below.refl B _⟩
theorem lt_heap {w : World} {b : Nat} {o : Obj} (h : w.heap[b]? = some o) : b < w.heap.size := (Array.getElem?_eq_some_iff.1 h).1
set_option maxHeartbeats 2000000 in
set_option maxRecDepth 100000 in
/-- One byte more. -/
theorem byte (B b : Nat) (bs : List Value) (c : Int) (w : World) (h : Is B b bs w) (hlen : bs.length ≤ 1000000000) (hB : B ≤ w.heap.size) :
    Calls Tryz.prog 35 #[.pointer (some ⟨b, 0, none⟩), .int .u8 c] w fun e w' => (∃ v, e = .returned v) ∧ Used B b (bs ++ [.int .u8 c]) w' ∧ Below B w w' := by
  obtain ⟨i0, hi, hz0, hz1, hz2⟩ := info_parts (Tryz.Builder_Extra_156).infoByte
  have CK := Lib.hid (check B b bs w h)
  clear h
  go_enter Tryz.func35, Tryz.ntmps35
  go_wp2_with fail
  refine CK.out.mono ?_
  rintro e w1 ⟨rfl, hu, b1⟩
  obtain ⟨hBb, v, hbk, hown, hne⟩ := hu
  have OW := Lib.hid hown
  have NE := Lib.hid hne
  have HK := Lib.hid hbk
  have B1 := Lib.hid b1
  have s1 := b1.size
  have y0 : w1.cell? ⟨b, 0, none⟩ = some (.pointer (some ⟨b, 0, none⟩)) := by rw [Lib.cell_of_heap hbk]; rfl
  have y1 : w1.cell? ⟨b, 1, none⟩ = some v := by rw [Lib.cell_of_heap hbk]; rfl
  clear hown hne hbk b1
  go_wp2_with (at_builtin; refine wpList_append_ownF _ rfl _ _ 22 rfl B 5 i0 (.int .u8 0) 1 1 Tryz.underlying22 hi hz0 hz1 hz2 rfl (by decide) _ _ _ rfl (OW.out.alloc _) ⟨w1.heap.size, 0, none⟩ 1 1 [.int .u8 c] rfl rfl ?c1 ?c2 ?c3 ?c4 ?c5 ?_)
  case c1 =>
    intro j u hj
    match j, hj with
    | 0, hj => simp at hj; subst hj; simp [Addr.add]
  case c2 => intro u hu; simp at hu; subst hu; rfl
  case c3 => unfold maxLen; omega
  case c4 => omega
  case c5 => simp; omega
  intro v' w2 hown' hgrow _
  have lb := lt_heap HK.out
  have hb2 : w2.heap[b]? = some (.cells #[.pointer (some ⟨b, 0, none⟩), v] 59 (0, 0)) := by
    rw [hgrow.block b (by simp; omega) (fun e => NE.out e.symm), Lib.alloc_old w1 _ b lb]
    exact HK.out
  have HP := Lib.hid (Lib.BuilderAtF.put (T := 59) (e := 5) hBb hb2 (bs' := bs ++ [.int .u8 c]) (by simpa using hown') (by decide))
  have HW := Lib.hid (((B1.out.alloc (by omega) _).grown hgrow (by simp; omega) (fun k hk => (OW.out.lt k hk).1)).setCell (p := ⟨b, 1, none⟩) hBb v')
  have d0 : w2.cell? ⟨b, 0, none⟩ = some (.pointer (some ⟨b, 0, none⟩)) := by rw [Lib.cell_of_heap hb2]; rfl
  have d1 : w2.cell? ⟨b, 1, none⟩ = some v := by rw [Lib.cell_of_heap hb2]; rfl
  have f1 : w2.frozen? ⟨b, 1, none⟩ = false := Lib.frozen_of_heap hb2 1
  obtain ⟨ao, n', cap, rfl⟩ : ∃ ao n' cap, v' = .slice ao n' cap := by
    rcases hown'.2 with ⟨hv, _⟩ | ⟨g, cap, cur, fz, hv, _⟩
    · exact ⟨_, _, _, hv⟩
    · exact ⟨_, _, _, hv⟩
  clear hown' hgrow hb2 y0 y1
  go_wp2
  go_ret
  exact ⟨⟨_, rfl⟩, HP.out, HW.out⟩
set_option maxHeartbeats 2000000 in
set_option maxRecDepth 100000 in
/-- A text more. -/
theorem text (B b : Nat) (bs : List Value) (s : List UInt8) (w : World) (h : Is B b bs w) (hlen : bs.length + s.length ≤ 1000000000) (hB : B ≤ w.heap.size) :
    Calls Tryz.prog 34 #[.pointer (some ⟨b, 0, none⟩), .string ⟨s.toArray⟩] w fun e w' => (∃ v, e = .returned v) ∧ Used B b (bs ++ Lib.byteCells s) w' ∧ Below B w w' := by
  obtain ⟨i0, hi, hz0, hz1, hz2⟩ := info_parts (Tryz.Builder_Extra_156).infoByte
  have CK := Lib.hid (check B b bs w h)
  have sz : (⟨s.toArray⟩ : ByteArray).size = s.length := rfl
  clear h
  go_enter Tryz.func34, Tryz.ntmps34
  go_wp2_with fail
  refine CK.out.mono ?_
  rintro e w1 ⟨rfl, hu, b1⟩
  obtain ⟨hBb, v, hbk, hown, hne⟩ := hu
  have OW := Lib.hid hown
  have NE := Lib.hid hne
  have HK := Lib.hid hbk
  have B1 := Lib.hid b1
  have s1 := b1.size
  have y0 : w1.cell? ⟨b, 0, none⟩ = some (.pointer (some ⟨b, 0, none⟩)) := by rw [Lib.cell_of_heap hbk]; rfl
  have y1 : w1.cell? ⟨b, 1, none⟩ = some v := by rw [Lib.cell_of_heap hbk]; rfl
  clear hown hne hbk b1
  go_wp2_with (at_builtin; refine Lib.wpList_append_own_stringF _ rfl _ _ 22 9 rfl B 5 i0 Tryz.underlying22 Tryz.underlying9 hi hz0 hz1 hz2 _ _ _ rfl OW.out ⟨s.toArray⟩ rfl ?c3 ?c4 ?c5 ?_)
  case c3 => unfold maxLen; omega
  case c4 => omega
  case c5 => omega
  intro v' w2 hown' hgrow _
  have lb := lt_heap HK.out
  have hb2 : w2.heap[b]? = some (.cells #[.pointer (some ⟨b, 0, none⟩), v] 59 (0, 0)) := by
    rw [hgrow.block b lb (fun e => NE.out e.symm)]
    exact HK.out
  have HP := Lib.hid (Lib.BuilderAtF.put (T := 59) (e := 5) hBb hb2 (bs' := bs ++ Lib.byteCells s) (by simpa [Lib.byteCells, Lib.strCells] using hown') (by decide))
  have HW := Lib.hid ((B1.out.grown hgrow (by omega) (fun k hk => (OW.out.lt k hk).1)).setCell (p := ⟨b, 1, none⟩) hBb v')
  have d0 : w2.cell? ⟨b, 0, none⟩ = some (.pointer (some ⟨b, 0, none⟩)) := by rw [Lib.cell_of_heap hb2]; rfl
  have d1 : w2.cell? ⟨b, 1, none⟩ = some v := by rw [Lib.cell_of_heap hb2]; rfl
  have f1 : w2.frozen? ⟨b, 1, none⟩ = false := Lib.frozen_of_heap hb2 1
  obtain ⟨ao, n', cap, rfl⟩ : ∃ ao n' cap, v' = .slice ao n' cap := by
    rcases hown'.2 with ⟨hv, _⟩ | ⟨g, cap, cur, fz, hv, _⟩
    · exact ⟨_, _, _, hv⟩
    · exact ⟨_, _, _, hv⟩
  clear hown' hgrow hb2 y0 y1
  go_wp2
  go_ret2
  exact ⟨⟨_, rfl⟩, HP.out, HW.out⟩
/-- A builder that has just been laid. -/
theorem fresh (w : World) : Is w.heap.size w.heap.size [] (w.alloc (.cells #[.pointer none, .slice none 0 0] 59)) := by
  refine .inl ⟨Nat.le_refl _, .slice none 0 0, ?_, ?_, ?_⟩
  · show (w.heap.push _)[w.heap.size]? = _
    simp
  · exact ⟨rfl, .inl ⟨rfl, rfl⟩⟩
  · intro h; cases h
end Go.Proofs.YtpogfdeioibkdaaGreatDoor.bld
