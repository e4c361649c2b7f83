/-
  Plain helpers of this seat's proofs: the contract of slices.SortStableFunc at the program's own elements. Conditions: none.
-/
import Derived.Test.YtchpjojndkkmeaaDoorStb
namespace Go.Proofs.YtchpjojndkkmeaaDoor.srt
open Go.Shelf Go.RowKit Go.Lib Go.Sort
open mrg (El)

set_option maxRecDepth 100000 in
set_option maxHeartbeats 4000000 in
theorem stable (blk off cap n : Nat) (d : Array El) (W : World) (B : Base W blk off d) (hn : d.size = n) (hp : 0 < n) (h0 : ∀ k, k < n → (mrg.at' d k).1 = (k : Int)) :
    Calls Tryd.prog 68 #[.slice (some ⟨blk, off, none⟩) n cap, .int .i64 n, .func (.func 48) #[] #[]] W (Post W blk off d fun d' => mrg.Srt 0 n (mrg.at' d') ∧ mrg.Frm 0 n (mrg.at' d) (mrg.at' d')) := by
  have BB := Lib.hid B
  have ST := Lib.hid (sortWorldK_start enc 2 W blk off d B.hold)
  have hsz := B.small
  rw [hn] at hsz
  have SY := fun N => sym blk off cap N
  have SYM := Lib.hid SY
  have H0 := Lib.hid h0
  have HN := Lib.hid hn
  clear B h0 hn SY
  go_enter Tryd.func68, Tryd.ntmps68
  go_wp2
  go_loopw [7, 8] (fun va vb wr => ∃ (a c : Nat) (dk : Array El) (os : Array Obj), va = .int .i64 a ∧ vb = .int .i64 ((a : Int) + 20) ∧ a ≤ n ∧ Hid (dk.size = d.size) ∧ wr = sortWorldK enc 2 W blk off c dk os ∧ Hid (In1 (mrg.at' d) (mrg.at' dk) n a)) (fun va _ _ => n - (intOf va).toNat)
  case atStart => exact ⟨0, 0, d, #[], by go_num, by go_num, by omega, (show Hid _ from rfl), ST.out.symm, ⟨mrg.Frm.refl _ _ _, mrg.Pre.zero _ _ _, fun _ _ => rfl⟩⟩
  case round =>
    obtain ⟨a, c, dk, os, rfl, rfl, han, HS, rfl, I⟩ := hrel
    by_cases hlt : a + 20 ≤ n
    · have u1 : decide ((a : Int) + 20 ≤ (n : Int)) = true := by simp; omega
      have K := insAt blk off cap a (a + 20) c d dk os W BB.out HS.out (by omega) (by rw [HN.out]; exact hlt) (I.out.asc H0.out hlt)
      rw [HN.out, show ((a + 20 : Nat) : Int) = (a : Int) + 20 from by omega] at K
      have KK := Lib.hid K
      clear K
      go_wp2_with fail
      refine KK.out.mono ?_
      rintro e w' ⟨rfl, c2, d2, os2, rfl, hs2, hp2⟩
      have I2 := Lib.hid (I.out.step H0.out hlt hp2.1 hp2.2)
      have HS2 := Lib.hid hs2
      clear hp2 hs2 KK
      go_wp2
      go_roundw
      case rel => exact ⟨a + 20, c2, d2, os2, by go_num, by go_num, by omega, HS2, rfl, I2⟩
      case measure => simp [intOf]; omega
    · have u1 : decide ((a : Int) + 20 ≤ (n : Int)) = false := by simp; omega
      have K := insAt blk off cap a n c d dk os W BB.out HS.out han (by rw [HN.out]; exact Nat.le_refl _) (I.out.asc H0.out (Nat.le_refl _))
      rw [HN.out] at K
      have KK := Lib.hid K
      clear K
      go_wp2_with fail
      refine KK.out.mono ?_
      rintro e w' ⟨rfl, c2, d2, os2, rfl, hs2, hp2⟩
      have I2 := Lib.hid (I.out.last H0.out han (by omega) hp2.1 hp2.2)
      have HS2 := Lib.hid hs2
      clear hp2 hs2 KK I HS
      go_wp2
      go_loopw [6] (fun vb wr => ∃ (B c : Nat) (dk : Array El) (os : Array Obj), vb = .int .i64 B ∧ 0 < B ∧ B ≤ 2 * n + 20 ∧ Hid (dk.size = d.size) ∧ wr = sortWorldK enc 2 W blk off c dk os ∧ Hid (In2 (mrg.at' d) (mrg.at' dk) n B)) (fun vb _ => n - (intOf vb).toNat)
      case atStart => exact ⟨20, c2, d2, os2, by go_num, by omega, by omega, HS2, rfl, I2⟩
      case round =>
        obtain ⟨B, c, dk, os, rfl, hB, hBn, HS, rfl, I⟩ := hrel
        by_cases hlt : B < n
        · have u1 : decide (B < n) = true := by simp; omega
          go_wp2
          go_loopw [7, 8] (fun va vb wr => ∃ (a c : Nat) (dk : Array El) (os : Array Obj), va = .int .i64 a ∧ vb = .int .i64 ((a : Int) + 2 * (B : Int)) ∧ a ≤ n ∧ Hid (dk.size = d.size) ∧ wr = sortWorldK enc 2 W blk off c dk os ∧ Hid (In3 (mrg.at' d) (mrg.at' dk) n B a)) (fun va _ _ => n - (intOf va).toNat)
          case atStart => exact ⟨0, c, dk, os, by go_num, by go_num, by omega, HS, rfl, I.out.start⟩
          case round =>
            obtain ⟨a, c, dk, os, rfl, rfl, han, HS, rfl, I⟩ := hrel
            by_cases hlt2 : a + 2 * B ≤ n
            · have u2 : decide ((a : Int) + 2 * (B : Int) ≤ (n : Int)) = true := by simp; omega
              obtain ⟨k1, k2, k3⟩ := I.out.two hB (by omega)
              rw [show a + B + B = a + 2 * B by omega, Nat.min_eq_left hlt2] at k2
              have K := (SYM.out (2 * B)).at (c := c) (os := os) (a := a) (m := a + B) (b := a + 2 * B) BB.out HS.out (by omega) (by omega) (by omega) (by rw [HN.out]; exact hlt2) k1.srt k2.srt (k1.crs k2)
              rw [HN.out, show ((a + 2 * B : Nat) : Int) = (a : Int) + 2 * (B : Int) from by omega, show ((a + B : Nat) : Int) = (a : Int) + (B : Int) from by omega] at K
              have KK := Lib.hid K
              clear K k1 k2 k3
              go_wp2_with fail
              refine KK.out.mono ?_
              rintro e w' ⟨rfl, c3, d3, os3, rfl, hs3, hp3⟩
              have I3 := Lib.hid (I.out.step hB hlt2 hp3.1 hp3.2)
              have HS3 := Lib.hid hs3
              clear hp3 hs3 KK
              go_wp2
              go_roundw
              case rel => exact ⟨a + 2 * B, c3, d3, os3, by go_num, by go_num, by omega, HS3, rfl, I3⟩
              case measure => simp [intOf]; omega
            · have u2 : decide ((a : Int) + 2 * (B : Int) ≤ (n : Int)) = false := by simp; omega
              by_cases hm : a + B < n
              · have u3 : decide ((a : Int) + (B : Int) < (n : Int)) = true := by simp; omega
                obtain ⟨k1, k2, k3⟩ := I.out.two hB hm
                rw [Nat.min_eq_right (by omega)] at k2
                have K := (SYM.out n).at (c := c) (os := os) (a := a) (m := a + B) (b := n) BB.out HS.out (by omega) (by omega) hm (by rw [HN.out]; exact Nat.le_refl _) k1.srt k2.srt (k1.crs k2)
                rw [HN.out, show ((a + B : Nat) : Int) = (a : Int) + (B : Int) from by omega] at K
                have KK := Lib.hid K
                clear K k1 k2 k3
                go_wp2_with fail
                refine KK.out.mono ?_
                rintro e w' ⟨rfl, c3, d3, os3, rfl, hs3, hp3⟩
                have I3 := Lib.hid (I.out.last hB hm (by omega) hp3.1 hp3.2)
                have HS3 := Lib.hid hs3
                clear hp3 hs3 KK
                go_wp2
                go_roundw
                case rel => exact ⟨2 * B, c3, d3, os3, by first | go_num | (congr 1; omega), by omega, by omega, HS3, rfl, I3⟩
                case measure => simp [intOf]; omega
              · have u3 : decide ((a : Int) + (B : Int) < (n : Int)) = false := by simp; omega
                have I3 := Lib.hid (I.out.none han (by omega))
                go_wp2
                go_roundw
                case rel => exact ⟨2 * B, c, dk, os, by first | go_num | (congr 1; omega), by omega, by omega, HS, rfl, I3⟩
                case measure => simp [intOf]; omega
        · have u1 : decide (B < n) = false := by simp; omega
          have FIN := Lib.hid (I.out.done hp (by omega))
          go_wp2
          go_end0
          exact ⟨rfl, c, dk, os, rfl, HS.out, FIN.out⟩

theorem sortStable (blk off cap n : Nat) (d : Array El) (W : World) (B : Base W blk off d) (hn : d.size = n) (hp : 0 < n) (h0 : ∀ k, k < n → (mrg.at' d k).1 = (k : Int)) :
    Calls Tryd.prog 47 #[.slice (some ⟨blk, off, none⟩) n cap, .func (.func 48) #[] #[]] W (Post W blk off d fun d' => mrg.Srt 0 n (mrg.at' d') ∧ mrg.Frm 0 n (mrg.at' d) (mrg.at' d')) := by
  have K := Lib.hid (stable blk off cap n d W B hn hp h0)
  clear B hn h0
  go_enter Tryd.func47, Tryd.ntmps47
  go_wp2_with fail
  refine K.out.mono ?_
  rintro e w' ⟨rfl, h⟩
  have HH := Lib.hid h
  clear h
  go_wp2
  go_end0
  exact ⟨rfl, HH.out⟩
end Go.Proofs.YtchpjojndkkmeaaDoor.srt
