/-
  Plain helpers of this seat's proofs: the model's function that takes a text apart into lines. Conditions: none.
-/
import Derived.Test.YtpogfdeioibkdaaGreatDoorSrw
namespace Go.Proofs.YtpogfdeioibkdaaGreatDoor.ptm
open Go.ChangeShapes Go.WideShapes Go.ChangeAt Go.RowKit
theorem ln_len : ∀ l : List UInt8, (ln l).1.length ≤ l.length
  | [] => Nat.le_refl _
  | b :: l => by
    have ih := ln_len l
    simp only [ln, List.length_cons]
    split
    · simp; omega
    · cases q : (ln l).1 with
      | nil => simp
      | cons w r => rw [q] at ih; simp at ih ⊢; omega
def GotL (l : List UInt8) (w : World) (e : Ending) (w' : World) : Prop := ∃ v, e = .returned (.tuple #[v, .bool (ln l).2]) ∧ w'.ownsRow w.heap.size 9 1 v (ln l).1.length (sts (ln l).1) ∧ Below w.heap.size w w'
set_option maxRecDepth 20000 in
set_option maxHeartbeats 4000000 in
theorem linesS (l : List UInt8) (w : World) (hz : l.length ≤ 1048576) : Calls Tryz.prog 24 #[.string ⟨l.toArray⟩] w (GotL l w) := by
  have ON := Lib.hid (own_new w)
  have B0 := Lib.hid ((Below.refl w.heap.size w).alloc (Nat.le_refl _) (.cells #[] 9))
  obtain ⟨i0, hi, hz0, hz1, hz2⟩ := info_parts infoS
  have SL := Lib.hid (ln_len l)
  go_enter Tryz.func24, Tryz.ntmps24
  go_wp2
  go_loopw [0, 4, 5, 6, 7] (fun s o _ _ _ wr => Below w.heap.size w wr ∧ ∃ (rest : List UInt8) (dn : List (List UInt8)), s = .string ⟨rest.toArray⟩ ∧ wr.ownsRow w.heap.size 9 1 o dn.length (sts dn) ∧ rest.length ≤ l.length ∧ ln l = (dn ++ (ln rest).1, (ln rest).2)) (fun s _ _ _ _ _ => match s with | .string a => a.size | _ => 0)
  case atStart => exact ⟨B0.out, l, [], rfl, ON.out, Nat.le_refl _, by simp⟩
  case round =>
    obtain ⟨hB, rest, dn, rfl, hown, hr, hs⟩ := hrel
    have BB := Lib.hid hB
    have OWN := Lib.hid hown
    have HS := Lib.hid hs
    have hsz := hB.size
    by_cases he : rest = []
    · subst he
      have tn : ((⟨([] : List UInt8).toArray⟩ : ByteArray) != ⟨#[]⟩) = false := by rfl
      have tn' : ((⟨([] : List UInt8).toArray⟩ : ByteArray) == ⟨#[]⟩) = true := by rfl
      have E := Lib.hid (show ln l = (dn, true) from by rw [hs]; simp [ln])
      clear hB hown hs
      go_wp2
      go_ret2
      exact ⟨_, by rw [E.out]; rfl, by rw [E.out]; exact OWN.out, BB.out⟩
    · have hdn : dn.length ≤ 1048576 := by
        have := congrArg (fun p => p.1.length) hs
        simp only [List.length_append] at this
        have := SL.out
        omega
      have tn : (rest == ([] : List UInt8)) = false := by simp [he]
      have CC := Lib.hid (cutS 10 rest wr (by omega))
      have NX := Lib.hid (show ∃ x y t, Lib.cut rest [10] = (x, y, t) ∧ y.length < rest.length ∧ (t = true → ln rest = (x :: (ln y).1, (ln y).2)) ∧ (t = false → ln rest = ([x], false)) from by
        rcases cut_cases 10 rest with q | ⟨x, y, q, e⟩
        · exact ⟨rest, [], false, cut_none q, by cases rest with | nil => exact absurd rfl he | cons b r => simp, (fun h => by cases h), fun _ => ln_none q he⟩
        · exact ⟨x, y, true, by rw [e]; exact cut_at y q, by rw [e]; simp; omega, (fun _ => by rw [e]; exact ln_at y q), (fun h => by cases h)⟩)
      obtain ⟨x, y, t, hc, hy, ht1, ht2⟩ := NX.out
      have HY := Lib.hid hy
      have HT1 := Lib.hid ht1
      have HT2 := Lib.hid ht2
      have CV : ctV rest 10 = #[.string ⟨x.toArray⟩, .string ⟨y.toArray⟩, .bool t] := by unfold ctV; rw [hc]
      rw [CV] at CC
      clear hB hown hs NX hc hy ht1 ht2 CV B0 ON he
      go_wp2_with fail
      refine CC.out.mono ?_
      rintro e w1 ⟨rfl, b1⟩
      have OW := Lib.hid (own_bel OWN.out b1)
      have B1 := Lib.hid (BB.out.trans (b1.mono hsz))
      have z1 := B1.out.size
      have mm : dn.length + 1 ≤ maxLen := by unfold maxLen; omega
      clear b1 CC
      go_wp2_with (at_builtin; refine wpList_append_own _ rfl _ _ 49 rfl w.heap.size 9 i0 (.string ⟨#[]⟩) 1 16 Tryz.underlying49 hi hz0 hz1 hz2 rfl (by decide) _ _ _ rfl (OW.out.alloc _) ⟨w1.heap.size, 0, none⟩ 1 1 [.string ⟨x.toArray⟩] rfl rfl ?c1 ?c2 ?c3 ?c4 ?c5 ?_)
      case c1 =>
        intro j u hj
        match j, hj with
        | 0, hj => simp at hj; subst hj; simp [Addr.add]
      case c2 => intro u hu; simp at hu; subst hu; rfl
      case c3 => exact mm
      case c4 => omega
      case c5 => simp; omega
      intro v' w5 hown' hgrow _
      have OWN2 := Lib.hid (show w5.ownsRow w.heap.size 9 1 v' (dn ++ [x]).length (sts (dn ++ [x])) from by rw [sts_snoc, List.length_append]; exact hown')
      have B5 := Lib.hid ((B1.out.alloc B1.out.size _).grown hgrow (by simp; omega) (fun j hj => by
        rcases OW.out.2 with ⟨rfl, _⟩ | ⟨g, cap, cur, rfl, hg, _⟩
        · cases hj
        · cases hj; exact hg))
      clear hown' hgrow
      cases t with
      | true =>
        go_wp2
        go_roundw
        case rel => exact ⟨B5.out, y, dn ++ [x], rfl, OWN2.out, by have := HY.out; omega, by rw [HS.out, HT1.out rfl]; simp⟩
        case measure => exact HY.out
      | false =>
        have E := Lib.hid (show ln l = (dn ++ [x], false) from by rw [HS.out, HT2.out rfl])
        go_wp2
        go_ret2
        exact ⟨_, by rw [E.out]; rfl, by rw [E.out]; exact OWN2.out, B5.out⟩
end Go.Proofs.YtpogfdeioibkdaaGreatDoor.ptm
