/-
  Plain helpers of this seat's proofs: the contract of the landed RateAdded. Conditions: none.
-/
import Derived.Test.YtnkdjnfbllkgiabCat
import Derived.Test.YtnkdjnfbllkgiabRsI
namespace Go.Proofs.Ytnkdjnfbllkgiab.base
open Go.ChangeShapes Go.WideShapes Go.ChangeAt Go.RowKit
open led (F5 z5)
open five (Row At Blk)
noncomputable def adl (l : List F5) (x : F5) : List F5 := if led.lv (l ++ [x]) = true then l ++ [x] else []
theorem adl_t {l : List F5} {x : F5} (h : led.lv (l ++ [x]) = true) : adl l x = l ++ [x] := if_pos h
theorem adl_f {l : List F5} {x : F5} (h : led.lv (l ++ [x]) = false) : adl l x = [] := if_neg (by rw [h]; decide)
/-- What RateAdded answers: a list in memory of its own, and whether it is valid. -/
def Added (w : World) (l : List F5) (x : F5) (e : Ending) (w' : World) : Prop := ∃ a cap g, e = .returned (.tuple #[.slice a (adl l x).length cap, .bool (led.lv (l ++ [x]))]) ∧ Row w' a cap g (adl l x) ∧ (0 < (adl l x).length → w.heap.size ≤ g ∧ g < w'.heap.size) ∧ Below w.heap.size w w'
theorem added_no {w w' : World} {l : List F5} {x : F5} (h : led.lv (l ++ [x]) = false) (hb : Below w.heap.size w w') : Added w l x (.returned (.tuple #[.slice none 0 0, .bool false])) w' :=
  ⟨none, 0, 0, by rw [adl_f h, h]; rfl, by rw [adl_f h]; exact Row.nil w', fun hp => absurd hp (by rw [adl_f h]; simp), hb⟩
theorem added_yes {w w' : World} {l : List F5} {x : F5} {cap g : Nat} (h : led.lv (l ++ [x]) = true) (r : Row w' (some ⟨g, 0, none⟩) cap g (l ++ [x])) (h1 : w.heap.size ≤ g) (h2 : g < w'.heap.size) (hb : Below w.heap.size w w') : Added w l x (.returned (.tuple #[.slice (some ⟨g, 0, none⟩) (l ++ [x]).length cap, .bool true])) w' :=
  ⟨_, cap, g, by rw [adl_t h, h], by rw [adl_t h]; exact r, fun _ => ⟨h1, h2⟩, hb⟩
theorem added_yes2 {w w' : World} {l L : List F5} {x : F5} {cap g : Nat} (e : L = l ++ [x]) (h : led.lv L = true) (r : Row w' (some ⟨g, 0, none⟩) cap g L) (h1 : w.heap.size ≤ g) (h2 : g < w'.heap.size) (hb : Below w.heap.size w w') : Added w l x (.returned (.tuple #[.slice (some ⟨g, 0, none⟩) L.length cap, .bool true])) w' := by
  subst e; exact added_yes h r h1 h2 hb
set_option maxRecDepth 40000 in
set_option maxHeartbeats 400000 in
theorem addI (w : World) (gl cl : Nat) (l : List F5) (x : F5) (hn : l.length ≤ 1048576) (hl : Row w (some ⟨gl, 0, none⟩) cl gl l) : Calls Try.prog 23 #[.slice (some ⟨gl, 0, none⟩) l.length cl, .agg #[.int .i64 x.1, .int .i64 x.2.1, .int .i64 x.2.2.1, .int .i64 x.2.2.2.1, .int .i64 x.2.2.2.2]] w (Added w l x) := by
  have HL := Lib.hid hl
  clear hl
  obtain ⟨W3, hW3⟩ : ∃ W3, W3 = ((w.alloc (.cells #[.int .i64 x.1, .int .i64 x.2.1, .int .i64 x.2.2.1, .int .i64 x.2.2.2.1, .int .i64 x.2.2.2.2] 25)).alloc (.cells #[.int .i64 x.1, .int .i64 x.2.1, .int .i64 x.2.2.1, .int .i64 x.2.2.2.1, .int .i64 x.2.2.2.2] 25)).alloc (.cells #[.slice (some ⟨gl, 0, none⟩) l.length cl, .slice (some ⟨w.heap.size + 1, 0, none⟩) 1 1] 31) := ⟨_, rfl⟩
  have GW := Lib.hid (show five.Grew w W3 from by rw [hW3]; exact ((five.Grew.alloc _ _).trans (five.Grew.alloc _ _)).trans (five.Grew.alloc _ _))
  have sz : W3.heap.size = w.heap.size + 3 := by rw [hW3]; simp
  have C0 := Lib.hid (show W3.cell? ⟨w.heap.size + 1 + 1, 0, none⟩ = some (.slice (some ⟨gl, 0, none⟩) l.length cl) from by
    have h := five.box_cell (five.box_refl ((w.alloc (.cells #[.int .i64 x.1, .int .i64 x.2.1, .int .i64 x.2.2.1, .int .i64 x.2.2.2.1, .int .i64 x.2.2.2.2] 25)).alloc (.cells #[.int .i64 x.1, .int .i64 x.2.1, .int .i64 x.2.2.1, .int .i64 x.2.2.2.1, .int .i64 x.2.2.2.2] 25)) (.cells #[.slice (some ⟨gl, 0, none⟩) l.length cl, .slice (some ⟨w.heap.size + 1, 0, none⟩) 1 1] 31)) 0 rfl
    rw [← hW3] at h
    simpa using h)
  have C1 := Lib.hid (show W3.cell? ⟨w.heap.size + 1 + 1, 1, none⟩ = some (.slice (some ⟨w.heap.size + 1, 0, none⟩) 1 1) from by
    have h := five.box_cell (five.box_refl ((w.alloc (.cells #[.int .i64 x.1, .int .i64 x.2.1, .int .i64 x.2.2.1, .int .i64 x.2.2.2.1, .int .i64 x.2.2.2.2] 25)).alloc (.cells #[.int .i64 x.1, .int .i64 x.2.1, .int .i64 x.2.2.1, .int .i64 x.2.2.2.1, .int .i64 x.2.2.2.2] 25)) (.cells #[.slice (some ⟨gl, 0, none⟩) l.length cl, .slice (some ⟨w.heap.size + 1, 0, none⟩) 1 1] 31)) 1 rfl
    rw [← hW3] at h
    simpa using h)
  have AX := Lib.hid (show At W3 (w.heap.size + 1) 0 x from by
    have h := (five.At.boxed (w.alloc (.cells #[.int .i64 x.1, .int .i64 x.2.1, .int .i64 x.2.2.1, .int .i64 x.2.2.2.1, .int .i64 x.2.2.2.2] 25)) x 25).keep (w' := W3) (by rw [hW3]; exact Below.heap_alloc _ _ _ (by simp))
    simpa using h)
  have R3 := Lib.hid (HL.out.keep (w' := W3) fun h => GW.out.below.block gl (HL.out.lt h))
  have CC := Lib.hid (draw.concat W3 (w.heap.size + 1 + 1) gl cl (w.heap.size + 1) 1 l x hn R3.out AX.out (by omega) C0.out C1.out)
  obtain ⟨L, hL⟩ : ∃ L, L = l ++ [x] := ⟨_, rfl⟩
  rw [← hL] at CC
  have HLL := Lib.hid hL
  clear hL
  go_enter Try.func23, Try.ntmps23
  go_wp2_with fail
  rw [← hW3]
  clear hW3
  refine CC.out.mono ?_
  rintro e w4 ⟨v, rfl, cap, g, rfl, r4, g1, g2, b4⟩
  clear CC C0 C1 AX
  have R4 := Lib.hid r4
  have B4 := Lib.hid (GW.out.below.trans (b4.mono GW.out.below.size))
  have g3 : w.heap.size ≤ g := by omega
  have G2 := Lib.hid g2
  have G3 := Lib.hid g3
  have CR := Lib.hid (rsI w4 _ cap g L r4 (by rw [HLL.out, List.length_append]; simp; omega))
  clear r4 b4 sz g1 g2 g3 GW
  cases hv : led.lv L with
  | false =>
    have NO := Lib.hid hv
    rw [hv] at CR
    clear hv
    go_wp2_with fail
    refine CR.out.mono ?_
    rintro e w5 ⟨rfl, b5⟩
    have B5 := Lib.hid (B4.out.trans (b5.mono B4.out.size))
    clear b5
    go_wp2
    go_ret2
    exact added_no (by rw [← HLL.out]; exact NO.out) B5.out
  | true =>
    have YES := Lib.hid hv
    rw [hv] at CR
    clear hv
    go_wp2_with fail
    refine CR.out.mono ?_
    rintro e w5 ⟨rfl, b5⟩
    have B5 := Lib.hid (B4.out.trans (b5.mono B4.out.size))
    have R5 := Lib.hid (R4.out.keep (w' := w5) fun _ => b5.block g G2.out)
    have Z5 := Lib.hid b5.size
    clear b5
    go_wp2
    go_ret2
    exact added_yes2 HLL.out YES.out R5.out G3.out (Nat.lt_of_lt_of_le G2.out Z5.out) B5.out
end Go.Proofs.Ytnkdjnfbllkgiab.base
