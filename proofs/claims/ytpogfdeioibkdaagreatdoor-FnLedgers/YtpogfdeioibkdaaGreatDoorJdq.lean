/-
  Plain helpers of this seat's proofs: drawn ledgers and drawn texts of ledgers. Conditions: none.
-/
import Derived.Test.YtpogfdeioibkdaaGreatDoorDrawL
import Derived.Test.YtpogfdeioibkdaaGreatDoorJdh
import Derived.Test.YtpogfdeioibkdaaGreatDoorLtt
namespace Go.Proofs.YtpogfdeioibkdaaGreatDoor.draw
open Go.ChangeShapes Go.WideShapes Go.ChangeAt Go.RowKit
open led (F5 z5)
open five (Row At Blk)
theorem ltxt_len (l : List F5) : (ptm.ltxt l).length ≤ 24400 := by
  unfold ptm.ltxt
  split
  · rename_i h
    have a := ptm.lv_len h
    have b := ptm.ltx_len (fun k hk => ptm.fine_pok h hk) l.length (Nat.le_refl _)
    rw [List.take_of_length_le (Nat.le_refl _)] at b
    omega
  · simp
/-- A drawn ledger. -/
def GotG (w : World) (e : Ending) (w' : World) : Prop := ∃ cap g, ∃ l : List F5, e = .returned (.slice (some ⟨g, 0, none⟩) l.length cap) ∧ Row w' (some ⟨g, 0, none⟩) cap g l ∧ w.heap.size ≤ g ∧ g < w'.heap.size ∧ l.length ≤ 500 ∧ Below w.heap.size w w'
set_option maxRecDepth 20000 in
set_option maxHeartbeats 4000000 in
theorem drawOk (a : Option Addr) (len cap : Nat) (w : World) (hB : Bytes w a len) (h : len ≤ 1048576) : Calls Tryz.prog 13 #[.slice a len cap] w (GotG w) := by
  have HB := Lib.hid hB
  clear hB
  go_enter Tryz.func13, Tryz.ntmps13
  go_wp2_with fail
  refine (openRd a len cap w HB.out h).mono ?_
  rintro e w1 ⟨rfl, rd, b1⟩
  obtain ⟨b, hb⟩ : ∃ b, b = w.heap.size := ⟨_, rfl⟩
  have z1 := b1.size
  have B1 := Lib.hid b1
  rw [← hb] at rd ⊢
  have D1 := Lib.hid rd
  have HBZ := Lib.hid hb
  clear rd b1 hb
  go_wp2_with fail
  refine (ledger w1 b len D1.out).mono ?_
  rintro e w2 ⟨cp, g, l, rfl, R, g1, g2, hl, -, o, -⟩
  have RR := Lib.hid R
  have B2 := Lib.hid (back HBZ.out B1.out o)
  clear R o
  go_wp2
  go_ret
  exact ⟨cp, g, l, rfl, RR.out, by omega, g2, hl, B2.out⟩
set_option maxHeartbeats 4000000 in
theorem drawLedger (a : Option Addr) (len cap : Nat) (w : World) (hB : Bytes w a len) (h : len ≤ 1048576) : Calls Tryz.prog 5 #[.slice a len cap] w (GotG w) := by
  have C := Lib.hid (drawOk a len cap w hB h)
  clear hB
  go_enter Tryz.func5, Tryz.ntmps5
  go_wp2_with fail
  refine C.out.mono ?_
  rintro e w2 ⟨cp, g, l, rfl, R, g1, g2, hl, b⟩
  have RR := Lib.hid R
  have B2 := Lib.hid b
  clear R b
  go_wp2
  go_ret
  exact ⟨cp, g, l, rfl, RR.out, g1, g2, hl, B2.out⟩
/-- A drawn text of a ledger. -/
def GotH (w : World) (e : Ending) (w' : World) : Prop := ∃ l : List UInt8, l.length ≤ 100000 ∧ e = .returned (.string ⟨l.toArray⟩) ∧ Below w.heap.size w w'
set_option maxRecDepth 20000 in
set_option maxHeartbeats 4000000 in
theorem drawLines (a : Option Addr) (len cap : Nat) (w : World) (hB : Bytes w a len) (h : len ≤ 1048576) : Calls Tryz.prog 7 #[.slice a len cap] w (GotH w) := by
  have HB := Lib.hid hB
  clear hB
  go_enter Tryz.func7, Tryz.ntmps7
  go_wp2_with fail
  refine (openRd a len cap w HB.out h).mono ?_
  rintro e w1 ⟨rfl, rd, b1⟩
  obtain ⟨b, hb⟩ : ∃ b, b = w.heap.size := ⟨_, rfl⟩
  have z1 := b1.size
  have B1 := Lib.hid b1
  rw [← hb] at rd ⊢
  have D1 := Lib.hid rd
  have HBZ := Lib.hid hb
  clear rd b1 hb
  go_wp2_with fail
  refine (ledger w1 b len D1.out).mono ?_
  rintro e w2 ⟨cp, g, l, rfl, R, g1, g2, hl, -, o2, d2⟩
  have RR := Lib.hid R
  have D2 := Lib.hid d2
  have O2 := Lib.hid o2
  clear R d2 o2 D1
  go_wp2_with fail
  refine (ptm.ltS w2 (some ⟨g, 0, none⟩) cp g l RR.out (by omega)).mono ?_
  rintro e w5 ⟨rfl, b5⟩
  have tl := ltxt_len l
  obtain ⟨s, hs⟩ : ∃ s, s = ptm.ltxt l := ⟨_, rfl⟩
  rw [← hs] at tl ⊢
  have D5 := Lib.hid (D2.out.below b5 D2.out.lt)
  have O5 := Lib.hid (O2.out.trans (Only.of_below b5))
  clear hs b5 D2 O2 RR
  go_wp2_with fail
  refine (below w5 b len 6 D5.out (by omega) (by omega)).mono ?_
  rintro e w6 ⟨k, k1, k2, rfl, o6, d6⟩
  have D6 := Lib.hid d6
  have O6 := Lib.hid (O5.out.trans o6)
  clear d6 o6 D5 O5
  have BK := Lib.hid (show ∀ W, Only b w1 W → Below w.heap.size w W from fun W o => back HBZ.out B1.out o)
  have zs : (⟨s.toArray⟩ : ByteArray).size ≤ 24400 := tl
  obtain rfl | rfl | rfl | hk : k = 0 ∨ k = 1 ∨ k = 2 ∨ ¬ (k = 0 ∨ k = 1 ∨ k = 2) := by omega
  · go_wp2_with fail
    refine (hurt w6 b len s D6.out (by omega)).mono ?_
    rintro e w7 ⟨l, hl, rfl, o7, d7⟩
    have B7 := Lib.hid (BK.out _ (O6.out.trans o7))
    clear o7 d7
    go_wp2
    go_ret
    exact ⟨l, by omega, rfl, B7.out⟩
  · have B6 := Lib.hid (BK.out _ O6.out)
    go_wp2
    go_ret
    refine ⟨s ++ [51, 46, 48, 46, 53, 32, 67, 72, 70, 32, 55, 10], ?_, ?_, B6.out⟩
    · rw [List.length_append]; simp; omega
    · refine dec.ret_str ?_
      exact dec.cat s [51, 46, 48, 46, 53, 32, 67, 72, 70, 32, 55, 10]
  · have B6 := Lib.hid (BK.out _ O6.out)
    go_wp2
    go_ret
    refine ⟨s ++ [49, 46, 49, 46, 49, 32, 69, 85, 82, 32, 55, 10], ?_, ?_, B6.out⟩
    · rw [List.length_append]; simp; omega
    · refine dec.ret_str ?_
      exact dec.cat s [49, 46, 49, 46, 49, 32, 69, 85, 82, 32, 55, 10]
  · have u0 : (k == 0) = false := by simp; omega
    have u1 : (k == 1) = false := by simp; omega
    have u2 : (k == 2) = false := by simp; omega
    have B6 := Lib.hid (BK.out _ O6.out)
    clear hk
    go_wp2
    go_ret
    exact ⟨s, by omega, rfl, B6.out⟩
end Go.Proofs.YtpogfdeioibkdaaGreatDoor.draw
