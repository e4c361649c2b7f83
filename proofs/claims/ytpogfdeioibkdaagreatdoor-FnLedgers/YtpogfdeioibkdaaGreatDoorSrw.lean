/-
  Plain helpers of this seat's proofs: slices of strings in memory, and the words of a text. Conditions: none.
-/
import Derived.Test.YtpogfdeioibkdaaGreatDoorSpn
namespace Go.Proofs.YtpogfdeioibkdaaGreatDoor.ptm
open Go.ChangeShapes Go.WideShapes Go.ChangeAt Go.RowKit
/-- A slice of strings in block g of memory: nil, or the cells from the block's head on. -/
structure SRow (w : World) (a : Option Addr) (cap g n : Nat) (A : Nat → List UInt8) : Prop where
  addr : 0 < n → a = some ⟨g, 0, none⟩
  room : n ≤ cap
  cells : ∀ i, i < n → w.cell? ⟨g, i, none⟩ = some (.string ⟨(A i).toArray⟩)
def sts (ls : List (List UInt8)) : List Value := ls.map (fun d => .string ⟨d.toArray⟩)
theorem sts_snoc (ls : List (List UInt8)) (x : List UInt8) : sts (ls ++ [x]) = sts ls ++ [.string ⟨x.toArray⟩] := by simp [sts]
theorem of_owns {w : World} {B : Nat} {v : Value} {zs : List (List UInt8)} (h : w.ownsRow B 9 1 v zs.length (sts zs)) :
    ∃ a cap g, v = .slice a zs.length cap ∧ SRow w a cap g zs.length (fun i => zs.getD i []) ∧ (0 < zs.length → B ≤ g ∧ g < w.heap.size) := by
  obtain ⟨h1, h2⟩ := h
  rcases h2 with ⟨rfl, h2⟩ | ⟨g, cap, cur, rfl, hg, hh, hn, hm, hs, ht⟩
  · refine ⟨none, 0, 0, by rw [h2], ⟨fun h => by omega, by omega, fun i hi => by omega⟩, fun h => by omega⟩
  · refine ⟨_, cap, g, rfl, ⟨fun _ => rfl, hn, fun i hi => ?_⟩, fun _ => ⟨hg, (Array.getElem?_eq_some_iff.1 hh).1⟩⟩
    have e : cur[i]? = some (.string ⟨(zs.getD i []).toArray⟩) := by
      have q : (cur.toList.take (zs.length * 1))[i]? = (sts zs)[i]? := by rw [ht]
      rw [Nat.mul_one, List.getElem?_take, if_pos hi] at q
      rw [← Array.getElem?_toList, q]
      simp [sts, List.getElem?_map, List.getElem?_eq_getElem hi]
    unfold World.cell?
    simp [hh, e]
theorem SRow.keep {w w' : World} {a : Option Addr} {cap g n : Nat} {A : Nat → List UInt8} (r : SRow w a cap g n A) (hb : 0 < n → w'.heap[g]? = w.heap[g]?) : SRow w' a cap g n A := by
  refine ⟨r.addr, r.room, fun i hi => ?_⟩
  rw [World.cell?_of_block (w := w) (a := ⟨g, i, none⟩) (hb (by omega))]; exact r.cells i hi
theorem infoS : (Tryz.prog.info? 9).map (fun i => (i.zero, i.size, i.bytes)) = some (some (.string ⟨#[]⟩), 1, 16) := by kernel_rfl
theorem own_new (w : World) : (w.alloc (.cells #[] 9)).ownsRow w.heap.size 9 1 (.slice (some ⟨w.heap.size, 0, none⟩) 0 0) 0 [] := by
  refine ⟨rfl, .inr ⟨w.heap.size, 0, #[], rfl, Nat.le_refl _, ?_, Nat.le_refl _, Nat.zero_le _, rfl, rfl⟩⟩
  show (w.heap.push _)[w.heap.size]? = _
  simp
theorem own_bel {w w' : World} {B : Nat} {e : TypeId} {size : Nat} {v : Value} {n : Nat} {xs : List Value} (h : w.ownsRow B e size v n xs) (hb : Below w.heap.size w w') : w'.ownsRow B e size v n xs := by
  obtain ⟨h1, h2⟩ := h
  refine ⟨h1, ?_⟩
  rcases h2 with h2 | ⟨g, cap, cur, hv, hg, hh, r⟩
  · exact Or.inl h2
  · exact Or.inr ⟨g, cap, cur, hv, hg, by rw [hb.block g (Array.getElem?_eq_some_iff.1 hh).1]; exact hh, r⟩
/-- What a function that returns words answers. -/
def GotW (zs : List (List UInt8)) (w : World) (e : Ending) (w' : World) : Prop := ∃ v, e = .returned v ∧ w'.ownsRow w.heap.size 9 1 v zs.length (sts zs) ∧ Below w.heap.size w w'
set_option maxRecDepth 20000 in
set_option maxHeartbeats 4000000 in
theorem splitS (l : List UInt8) (w : World) (hz : l.length ≤ 1048576) : Calls Tryz.prog 56 #[.string ⟨l.toArray⟩] w (GotW (sp l) w) := by
  have ON := Lib.hid (own_new w)
  have B0 := Lib.hid ((Below.refl w.heap.size w).alloc (Nat.le_refl _) (.cells #[] 9))
  obtain ⟨i0, hi, hz0, hz1, hz2⟩ := info_parts infoS
  have SL := Lib.hid (sp_len l).2
  go_enter Tryz.func56, Tryz.ntmps56
  go_wp2
  go_loopw [0, 3, 4, 5] (fun s o m _ wr => Below w.heap.size w wr ∧ ∃ (rest : List UInt8) (dn : List (List UInt8)) (b : Bool), s = .string ⟨rest.toArray⟩ ∧ m = .bool b ∧ wr.ownsRow w.heap.size 9 1 o dn.length (sts dn) ∧ rest.length ≤ l.length ∧ sp l = dn ++ (if b = true then sp rest else [])) (fun s _ m _ _ => (match s with | .string a => a.size | _ => 0) + (match m with | .bool true => 1 | _ => 0))
  case atStart => exact ⟨B0.out, l, [], true, rfl, rfl, ON.out, Nat.le_refl _, by simp⟩
  case round =>
    obtain ⟨hB, rest, dn, b, rfl, rfl, hown, hr, hs⟩ := hrel
    have BB := Lib.hid hB
    have OWN := Lib.hid hown
    have HS := Lib.hid hs
    have hsz := hB.size
    cases b with
    | true =>
      have hdn : dn.length ≤ 1048577 := by
        have := congrArg List.length hs
        rw [List.length_append] at this
        have := SL.out
        omega
      have CC := Lib.hid (cutS 32 rest wr (by omega))
      have NX := Lib.hid (show ∃ x y t, Lib.cut rest [32] = (x, y, t) ∧ y.length + (if t = true then 1 else 0) < rest.length + 1 ∧ y.length ≤ rest.length ∧ sp rest = x :: (if t = true then sp y else []) from by
        rcases cut_cases 32 rest with q | ⟨x, y, q, e⟩
        · exact ⟨rest, [], false, cut_none q, by simp, by simp, by rw [sp_none q]; simp⟩
        · exact ⟨x, y, true, by rw [e]; exact cut_at y q, by rw [e]; simp; omega, by rw [e]; simp; omega, by rw [e, sp_at y q]; simp⟩)
      obtain ⟨x, y, t, hc, hm, hy, hsp⟩ := NX.out
      have HM := Lib.hid hm
      have HY := Lib.hid hy
      have HSP := Lib.hid hsp
      have CV : ctV rest 32 = #[.string ⟨x.toArray⟩, .string ⟨y.toArray⟩, .bool t] := by unfold ctV; rw [hc]
      rw [CV] at CC
      clear hB hown hs NX hc hm hy hsp CV B0 ON
      go_wp2_with fail
      refine CC.out.mono ?_
      rintro e w1 ⟨rfl, b1⟩
      have OW := Lib.hid (own_bel OWN.out b1)
      have B1 := Lib.hid (BB.out.trans (b1.mono hsz))
      have z1 := B1.out.size
      have mm : dn.length + 1 ≤ maxLen := by unfold maxLen; omega
      clear b1 CC
      go_wp2_with (at_builtin; refine wpList_append_own _ rfl _ _ 49 rfl w.heap.size 9 i0 (.string ⟨#[]⟩) 1 16 Tryz.underlying49 hi hz0 hz1 hz2 rfl (by decide) _ _ _ rfl (OW.out.alloc _) ⟨w1.heap.size, 0, none⟩ 1 1 [.string ⟨x.toArray⟩] rfl rfl ?c1 ?c2 ?c3 ?c4 ?c5 ?_)
      case c1 =>
        intro j u hj
        match j, hj with
        | 0, hj => simp at hj; subst hj; simp [Addr.add]
      case c2 => intro u hu; simp at hu; subst hu; rfl
      case c3 => exact mm
      case c4 => omega
      case c5 => simp; omega
      intro v' w5 hown' hgrow _
      have OWN2 := Lib.hid (show w5.ownsRow w.heap.size 9 1 v' (dn ++ [x]).length (sts (dn ++ [x])) from by rw [sts_snoc, List.length_append]; exact hown')
      have B5 := Lib.hid ((B1.out.alloc B1.out.size _).grown hgrow (by simp; omega) (fun j hj => by
        rcases OW.out.2 with ⟨rfl, _⟩ | ⟨g, cap, cur, rfl, hg, _⟩
        · cases hj
        · cases hj; exact hg))
      clear hown' hgrow
      go_wp2
      go_roundw
      case rel => exact ⟨B5.out, y, dn ++ [x], t, rfl, rfl, OWN2.out, by have := HY.out; omega, by rw [HS.out]; simp [HSP.out]⟩
      case measure =>
        have := HM.out
        show y.length + _ < rest.length + 1
        cases t
        · simpa using this
        · simpa using this
    | false =>
      have E := Lib.hid (show sp l = dn from by rw [hs]; simp)
      clear hB hown hs
      go_wp2
      go_ret
      exact ⟨_, rfl, by rw [E.out]; exact OWN.out, BB.out⟩
end Go.Proofs.YtpogfdeioibkdaaGreatDoor.ptm
