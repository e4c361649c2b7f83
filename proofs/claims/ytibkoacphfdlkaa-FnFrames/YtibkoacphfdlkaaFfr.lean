/-
  Plain helpers of this seat's proofs: the contract of the function that reads the first frame. Conditions: none.
-/
import Derived.Test.YtibkoacphfdlkaaFrm
import Derived.Deep.QuietTactic
import Derived.BigQuiet
import Derived.WalkSpells
namespace Go.Proofs.Ytibkoacphfdlkaa.frm
open Go.ChangeShapes Go.WideShapes Go.ChangeAt Go.RowKit
open crc (le4 be4 sum)

theorem wrap_small (n : Int) (h0 : 0 ≤ n) (h1 : n < 9223372036854775808) : IntKind.i64.wrap n = n := by
  rw [IntKind.wrap_i64]; omega
theorem or64 (i a b : Nat) (ha : a % 2 ^ i = 0) (hb : b < 2 ^ i) (h : a + b < 9223372036854775808) : bits .or .i64 (a : Int) (b : Int) = ((a + b : Nat) : Int) := by
  show IntKind.i64.wrap ((BitVec.ofInt 64 (a : Int) ||| BitVec.ofInt 64 (b : Int)).toNat : Int) = _
  rw [BitVec.toNat_or, ofInt_u64 a (by omega), ofInt_u64 b (by omega), nat_join i a b ha hb]
  exact wrap_small _ (by omega) (by omega)
theorem ext (l : List UInt8) (a b : Nat) : (⟨l.toArray⟩ : ByteArray).extract a b = ⟨((l.take b).drop a).toArray⟩ := by
  apply ByteArray.ext
  simp [List.drop_take]
/-- What firstFrame answers. -/
def GotF (m : List UInt8) (w : World) (e : Ending) (w' : World) : Prop := ∃ (d : ByteArray) (b : Bool), e = .returned (.tuple #[.string d, .bool b]) ∧ b = decide (Good m 0) ∧ (b = true → d = ⟨(dat m 0).toArray⟩) ∧ Below w.heap.size w w'
set_option maxRecDepth 100000 in
set_option maxHeartbeats 4000000 in
theorem firstI (m : List UInt8) (w : World) (hm : m.length ≤ 1048576) : Calls Try.prog 29 #[.string ⟨m.toArray⟩] w (GotF m w) := by
  obtain ⟨n, hn⟩ : ∃ n, n = m.length := ⟨_, rfl⟩
  have el : (⟨m.toArray⟩ : ByteArray).size = n := hn.symm
  have HN := Lib.hid hn
  rw [← hn] at hm
  clear hn
  by_cases h8 : n < 8
  · have t1 : decide ((n : Int) < 8) = true := by simp; omega
    have NO := Lib.hid (show decide (Good m 0) = false from by simp only [decide_eq_false_iff_not]; intro g; have := g.1; have := HN.out; omega)
    clear h8
    go_enter Try.func29, Try.ntmps29
    go_wp2
    go_ret2
    exact ⟨_, _, rfl, NO.out.symm, (fun h => by cases h), Below.refl _ _⟩
  · have t1 : decide ((n : Int) < 8) = false := by simp; omega
    have i0 : 0 < (⟨m.toArray⟩ : ByteArray).size := by rw [el]; omega
    have i1 : 1 < (⟨m.toArray⟩ : ByteArray).size := by rw [el]; omega
    have i2 : 2 < (⟨m.toArray⟩ : ByteArray).size := by rw [el]; omega
    have i3 : 3 < (⟨m.toArray⟩ : ByteArray).size := by rw [el]; omega
    have l8 : (8 : Int) ≤ (n : Int) := by omega
    have l8' : 8 ≤ n := by omega
    have ix : ∀ (k : Nat) (hk : k < n) (w0 : World), (Instr.index 9 (.string ⟨m.toArray⟩) (.int .i64 (k : Int))).run Try.prog w0 = .ok (.int .u8 (bt m k : Int)) w0 := fun k hk w0 => by
      have hs : k < (⟨m.toArray⟩ : ByteArray).size := by rw [el]; exact hk
      have hb : ((⟨m.toArray⟩ : ByteArray)[k]).toNat = bt m k := by
        unfold bt
        rw [List.getD_eq_getElem?_getD, List.getElem?_eq_getElem (by have := HN.out; omega)]; rfl
      simp [go_sem, hb, el, hk]
    have b0 := bt_lt m 0
    have b1 := bt_lt m 1
    have b2 := bt_lt m 2
    have b3 := bt_lt m 3
    have SZ := Lib.hid (show sz m 0 = n4 (bt m 0) (bt m 1) (bt m 2) (bt m 3) from rfl)
    have j0 : ∀ w0, (Instr.index 9 (.string ⟨m.toArray⟩) (.int .i64 0)).run Try.prog w0 = .ok (.int .u8 (bt m 0 : Int)) w0 := ix 0 (by omega)
    have j1 : ∀ w0, (Instr.index 9 (.string ⟨m.toArray⟩) (.int .i64 1)).run Try.prog w0 = .ok (.int .u8 (bt m 1 : Int)) w0 := ix 1 (by omega)
    have j2 : ∀ w0, (Instr.index 9 (.string ⟨m.toArray⟩) (.int .i64 2)).run Try.prog w0 = .ok (.int .u8 (bt m 2 : Int)) w0 := ix 2 (by omega)
    have j3 : ∀ w0, (Instr.index 9 (.string ⟨m.toArray⟩) (.int .i64 3)).run Try.prog w0 = .ok (.int .u8 (bt m 3 : Int)) w0 := ix 3 (by omega)
    obtain ⟨x0, hx0⟩ : ∃ x, x = bt m 0 := ⟨_, rfl⟩
    obtain ⟨x1, hx1⟩ : ∃ x, x = bt m 1 := ⟨_, rfl⟩
    obtain ⟨x2, hx2⟩ : ∃ x, x = bt m 2 := ⟨_, rfl⟩
    obtain ⟨x3, hx3⟩ : ∃ x, x = bt m 3 := ⟨_, rfl⟩
    rw [← hx0] at b0 j0 SZ
    rw [← hx1] at b1 j1 SZ
    rw [← hx2] at b2 j2 SZ
    rw [← hx3] at b3 j3 SZ
    clear ix hx0 hx1 hx2 hx3 i0 i1 i2 i3
    obtain ⟨v1, hv1⟩ : ∃ v, v = x0 * 16777216 + x1 * 65536 := ⟨_, rfl⟩
    obtain ⟨v2, hv2⟩ : ∃ v, v = v1 + x2 * 256 := ⟨_, rfl⟩
    obtain ⟨v3, hv3⟩ : ∃ v, v = v2 + x3 := ⟨_, rfl⟩
    have o1 : bits .or .i64 ((x0 : Int) * 16777216) ((x1 : Int) * 65536) = (v1 : Int) := by
      have := or64 24 (x0 * 16777216) (x1 * 65536) (by omega) (by omega) (by omega)
      rw [hv1]; rw [Int.natCast_mul, Int.natCast_mul] at this; exact this
    have o2 : bits .or .i64 (v1 : Int) ((x2 : Int) * 256) = (v2 : Int) := by
      have := or64 16 v1 (x2 * 256) (by omega) (by omega) (by omega)
      rw [hv2]; rw [Int.natCast_mul] at this; exact this
    have o3 : bits .or .i64 (v2 : Int) (x3 : Int) = (v3 : Int) := by
      have := or64 8 v2 x3 (by omega) (by omega) (by omega)
      rw [hv3]; exact this
    have ES := Lib.hid (show sz m 0 = v3 from by rw [SZ.out]; unfold n4; omega)
    have vb : v3 < 4294967296 := by omega
    clear hv1 hv2 hv3
    have ESv := ES.out
    by_cases c1 : 100000 < v3
    · have t2 : decide ((100000 : Int) < (v3 : Int)) = true := by simp; omega
      have NO := Lib.hid (show decide (Good m 0) = false from by simp only [decide_eq_false_iff_not]; intro g; have := g.2.1; omega)
      clear c1 ESv
      go_enter Try.func29, Try.ntmps29
      go_wp2
      go_quiet (fail)
      go_wp2
      go_quiet (fail)
      go_wp2
      go_ret2
      exact ⟨_, _, rfl, NO.out.symm, (fun h => by cases h), ⟨rfl, rfl, rfl, Nat.le_refl _, fun _ _ => rfl⟩⟩
    · have t2 : decide ((100000 : Int) < (v3 : Int)) = false := by simp; omega
      by_cases c2 : n - 8 < v3
      · have t3 : decide (n - 8 < v3) = true := by simp; omega
        have t3' : decide (((n - 8 : Nat) : Int) < (v3 : Int)) = true := by simp; omega
        have NO := Lib.hid (show decide (Good m 0) = false from by simp only [decide_eq_false_iff_not]; intro g; have := g.2.2.1; have := HN.out; omega)
        clear c1 c2 ESv
        go_enter Try.func29, Try.ntmps29
        go_wp2
        go_quiet (fail)
        go_wp2
        go_quiet (fail)
        go_wp2
        go_ret2
        exact ⟨_, _, rfl, NO.out.symm, (fun h => by cases h), ⟨rfl, rfl, rfl, Nat.le_refl _, fun _ _ => rfl⟩⟩
      · have t3 : decide (n - 8 < v3) = false := by simp; omega
        have t3' : decide (((n - 8 : Nat) : Int) < (v3 : Int)) = false := by simp; omega
        have HNv := HN.out
        have GI := Lib.hid (good_iff (l := m) (p := 0) (by omega) (by omega) (by omega))
        have DL := dat_len (l := m) (p := 0) (by omega)
        have hE0 : (⟨m.toArray⟩ : ByteArray).extract 0 8 = ⟨(m.take 8).toArray⟩ := ext m 0 8
        have hE1 : (⟨m.toArray⟩ : ByteArray).extract 8 n = ⟨(m.drop 8).toArray⟩ := by rw [ext, HNv, List.take_of_length_le (Nat.le_refl _)]
        have hE2 : (⟨(m.drop 8).toArray⟩ : ByteArray).extract 0 v3 = ⟨(dat m 0).toArray⟩ := by
          rw [ext]; unfold dat; rw [ESv]; rfl
        have s1 : (⟨(m.drop 8).toArray⟩ : ByteArray).size = n - 8 := by show (m.drop 8).toArray.size = _; simp; omega
        have HI := Lib.hid (fun w0 => crc.headI (dat m 0) w0 (by rw [DL]; omega))
        obtain ⟨Q, hQ⟩ : ∃ Q, Q = be4 (dat m 0).length ++ le4 (sum (dat m 0)) := ⟨_, rfl⟩
        rw [← hQ] at HI GI
        rw [List.drop_zero] at GI
        obtain ⟨D, hD⟩ : ∃ D, D = dat m 0 := ⟨_, rfl⟩
        obtain ⟨R, hR⟩ : ∃ R, R = m.drop 8 := ⟨_, rfl⟩
        obtain ⟨H, hH⟩ : ∃ H, H = m.take 8 := ⟨_, rfl⟩
        rw [← hD] at hE2 HI
        rw [← hR] at hE1 hE2 s1
        rw [← hH] at hE0 GI
        have DD := Lib.hid hD
        clear c1 ESv HNv DL hD hR hH hQ
        go_enter Try.func29, Try.ntmps29
        go_wp2
        go_quiet (fail)
        go_wp2
        go_quiet (fail)
        go_wp2_with fail
        refine (HI.out _).mono ?_
        rintro e w1 ⟨rfl, b1⟩
        have B1 := Lib.hid b1
        clear b1
        go_wp2
        go_ret2
        refine ⟨_, _, rfl, ?_, fun _ => by rw [← DD.out], (show Below w.heap.size w (w.drewN _) from ⟨rfl, rfl, rfl, Nat.le_refl _, fun _ _ => rfl⟩).trans B1.out⟩
        rw [Bool.eq_iff_iff]
        simp [GI.out]
end Go.Proofs.Ytibkoacphfdlkaa.frm
