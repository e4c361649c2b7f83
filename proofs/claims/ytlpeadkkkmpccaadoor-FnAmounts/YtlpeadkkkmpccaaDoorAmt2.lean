/-
  Plain helpers: contracts of the two functions that write an amount. Conditions: none.
-/
import Derived.Test.YtlpeadkkkmpccaaDoorAmt
import Derived.IntWalk
namespace Go.Proofs.YtlpeadkkkmpccaaDoor.amt
open Go.ChangeShapes Go.WideShapes Go.ChangeAt Go.RowKit
theorem dn {B : Nat} {a w : World} (h : Below B a w) (n : Nat) : Below B a (w.drewN n) := h.trans ⟨rfl, rfl, rfl, Nat.le_refl _, fun _ _ => rfl⟩
def txt : Value → ByteArray | .string s => s | _ => ⟨#[]⟩
theorem dig_pos (a : Nat) : 1 ≤ (Lib.decDigits a).length := by
  by_cases h : a < 10
  · rw [dec.dig_end a h]; simp
  · rw [dec.dig_step a h]; simp
theorem padL_1 (a : Nat) : dec.padL a 1 = Lib.decDigits a := by
  have := dig_pos a
  unfold dec.padL
  rw [show 1 - (Lib.decDigits a).length = 0 by omega]; rfl

set_option maxHeartbeats 400000 in
theorem impl_pos0 (k : Int) (a : Nat) (w : World) (c : base.Cur w) (hp : dec.Pow w) (h0 : 0 ≤ k) (h5 : k ≤ 5) (hk : plc k = 0) (ha : a ≤ 1000000000000) : Calls Tryd.prog 20 #[.int .i64 k, .int .i64 (a : Int)] w fun e w' => e = .returned (.string ⟨(body 0 a).toArray⟩) ∧ Below w.heap.size w w' := by
  have C := Lib.hid c
  have HP := Lib.hid hp
  clear c hp
  have d0 : decide ((a : Int) < 0) = false := by simp
  have PI := Lib.hid (plc_impl k w C.out h0 h5)
  have p3 := plc_3 k
  rw [hk] at PI p3
  clear hk
  have hl := len_pad a (0 + 1)
  have PD := Lib.hid (dec.padded a (0 + 1) w (by omega) (by omega) HP.out)
  rw [body_0]
  generalize dec.padL a (0 + 1) = l at hl PD ⊢
  go_enter Tryd.func20, Tryd.ntmps20
  go_wp2_with fail
  refine (isCur k w h0 h5).mono ?_
  rintro e w' ⟨rfl, rfl⟩
  go_wp2_with fail
  refine (isAmt (a : Int) w (by omega) (by omega)).mono ?_
  rintro e w' ⟨rfl, rfl⟩
  go_wp2_with fail
  refine PI.out.mono ?_
  rintro e w' ⟨rfl, rfl⟩
  go_wp2_with fail
  rw [max_p]
  refine PD.out.mono ?_
  rintro e w1 ⟨rfl, b1⟩
  have B1 := Lib.hid b1
  clear b1
  go_wp2
  go_ret
  exact ⟨dec.ret_str (dec.cat [] l), B1.out⟩

set_option maxHeartbeats 400000 in
theorem impl_neg0 (k : Int) (a : Nat) (w : World) (c : base.Cur w) (hp : dec.Pow w) (h0 : 0 ≤ k) (h5 : k ≤ 5) (hk : plc k = 0) (ha : a ≤ 1000000000000) (h1 : 1 ≤ a) : Calls Tryd.prog 20 #[.int .i64 k, .int .i64 (-(a : Int))] w fun e w' => e = .returned (.string ⟨(45 :: body 0 a).toArray⟩) ∧ Below w.heap.size w w' := by
  have C := Lib.hid c
  have HP := Lib.hid hp
  clear c hp
  have d0 : decide (-(a : Int) < 0) = true := by simp; omega
  have PI := Lib.hid (plc_impl k w C.out h0 h5)
  have p3 := plc_3 k
  rw [hk] at PI p3
  clear hk
  have hl := len_pad a (0 + 1)
  have PD := Lib.hid (dec.padded a (0 + 1) w (by omega) (by omega) HP.out)
  rw [body_0]
  generalize dec.padL a (0 + 1) = l at hl PD ⊢
  go_enter Tryd.func20, Tryd.ntmps20
  go_wp2_with fail
  refine (isCur k w h0 h5).mono ?_
  rintro e w' ⟨rfl, rfl⟩
  go_wp2_with fail
  refine (isAmt (-(a : Int)) w (by omega) (by omega)).mono ?_
  rintro e w' ⟨rfl, rfl⟩
  go_wp2_with fail
  refine PI.out.mono ?_
  rintro e w' ⟨rfl, rfl⟩
  go_wp2_with fail
  rw [max_n]
  refine PD.out.mono ?_
  rintro e w1 ⟨rfl, b1⟩
  have B1 := Lib.hid b1
  clear b1
  go_wp2
  go_ret
  exact ⟨dec.ret_str (dec.cat1 45 l), B1.out⟩

set_option maxHeartbeats 400000 in
theorem impl_pos1 (k : Int) (a : Nat) (p j : Nat) (p1 : 1 ≤ p) (hj : (dec.padL a (p + 1)).length = j + p) (w : World) (c : base.Cur w) (hp : dec.Pow w) (h0 : 0 ≤ k) (h5 : k ≤ 5) (hk : plc k = p) (ha : a ≤ 1000000000000) : Calls Tryd.prog 20 #[.int .i64 k, .int .i64 (a : Int)] w fun e w' => e = .returned (.string ⟨(body p a).toArray⟩) ∧ Below w.heap.size w w' := by
  have C := Lib.hid c
  have HP := Lib.hid hp
  clear c hp
  have d0 : decide ((a : Int) < 0) = false := by simp
  have PI := Lib.hid (plc_impl k w C.out h0 h5)
  have p3 := plc_3 k
  rw [hk] at PI p3
  clear hk
  have hl := len_pad a (p + 1)
  have PD := Lib.hid (dec.padded a (p + 1) w (by omega) (by omega) HP.out)
  rw [body_j p1 hj]
  generalize dec.padL a (p + 1) = l at hl PD hj ⊢
  have t0 : ((p : Int) == 0) = false := by simp; omega
  have j1 : 1 ≤ j := by omega
  have j2 : j ≤ 1000000000010 := by omega
  have ej : (l.length : Int) - (p : Int) = (j : Int) := by omega
  have eb : (j : Int) ≤ (l.length : Int) := by omega
  have lb : l.length ≤ 1000000000020 := by omega
  have HJ := Lib.hid hj
  clear hl hj
  go_enter Tryd.func20, Tryd.ntmps20
  go_wp2_with fail
  refine (isCur k w h0 h5).mono ?_
  rintro e w' ⟨rfl, rfl⟩
  go_wp2_with fail
  refine (isAmt (a : Int) w (by omega) (by omega)).mono ?_
  rintro e w' ⟨rfl, rfl⟩
  go_wp2_with fail
  refine PI.out.mono ?_
  rintro e w' ⟨rfl, rfl⟩
  go_wp2_with fail
  rw [max_p]
  refine PD.out.mono ?_
  rintro e w1 ⟨rfl, b1⟩
  have B1 := Lib.hid b1
  clear b1
  go_wp2
  go_quiet (fail)
  go_wp2
  go_ret
  refine ⟨dec.ret_str ?_, dn B1.out _⟩
  show (⟨[].toArray⟩ : ByteArray) ++ (⟨l.toArray⟩ : ByteArray).extract 0 j ++ (⟨[46].toArray⟩ : ByteArray) ++ (⟨l.toArray⟩ : ByteArray).extract j l.length = _
  rw [ext0, ext1, dec.cat, dec.cat, dec.cat]
  rfl

set_option maxHeartbeats 400000 in
theorem impl_neg1 (k : Int) (a : Nat) (p j : Nat) (p1 : 1 ≤ p) (hj : (dec.padL a (p + 1)).length = j + p) (w : World) (c : base.Cur w) (hp : dec.Pow w) (h0 : 0 ≤ k) (h5 : k ≤ 5) (hk : plc k = p) (ha : a ≤ 1000000000000) (h1 : 1 ≤ a) : Calls Tryd.prog 20 #[.int .i64 k, .int .i64 (-(a : Int))] w fun e w' => e = .returned (.string ⟨(45 :: body p a).toArray⟩) ∧ Below w.heap.size w w' := by
  have C := Lib.hid c
  have HP := Lib.hid hp
  clear c hp
  have d0 : decide (-(a : Int) < 0) = true := by simp; omega
  have PI := Lib.hid (plc_impl k w C.out h0 h5)
  have p3 := plc_3 k
  rw [hk] at PI p3
  clear hk
  have hl := len_pad a (p + 1)
  have PD := Lib.hid (dec.padded a (p + 1) w (by omega) (by omega) HP.out)
  rw [body_j p1 hj]
  generalize dec.padL a (p + 1) = l at hl PD hj ⊢
  have t0 : ((p : Int) == 0) = false := by simp; omega
  have j1 : 1 ≤ j := by omega
  have j2 : j ≤ 1000000000010 := by omega
  have ej : (l.length : Int) - (p : Int) = (j : Int) := by omega
  have eb : (j : Int) ≤ (l.length : Int) := by omega
  have lb : l.length ≤ 1000000000020 := by omega
  have HJ := Lib.hid hj
  clear hl hj
  go_enter Tryd.func20, Tryd.ntmps20
  go_wp2_with fail
  refine (isCur k w h0 h5).mono ?_
  rintro e w' ⟨rfl, rfl⟩
  go_wp2_with fail
  refine (isAmt (-(a : Int)) w (by omega) (by omega)).mono ?_
  rintro e w' ⟨rfl, rfl⟩
  go_wp2_with fail
  refine PI.out.mono ?_
  rintro e w' ⟨rfl, rfl⟩
  go_wp2_with fail
  rw [max_n]
  refine PD.out.mono ?_
  rintro e w1 ⟨rfl, b1⟩
  have B1 := Lib.hid b1
  clear b1
  go_wp2
  go_quiet (fail)
  go_wp2
  go_ret
  refine ⟨dec.ret_str ?_, dn B1.out _⟩
  show (⟨[45].toArray⟩ : ByteArray) ++ (⟨l.toArray⟩ : ByteArray).extract 0 j ++ (⟨[46].toArray⟩ : ByteArray) ++ (⟨l.toArray⟩ : ByteArray).extract j l.length = _
  rw [ext0, ext1, dec.cat, dec.cat, dec.cat]
  simp

set_option maxHeartbeats 400000 in
theorem spec_pos0 (k : Int) (a : Nat) (w : World) (h0 : 0 ≤ k) (h5 : k ≤ 5) (hk : plc k = 0) (ha : a ≤ 1000000000000) : Calls Tryd.prog 24 #[.int .i64 k, .int .i64 (a : Int)] w fun e w' => e = .returned (.string ⟨(body 0 a).toArray⟩) ∧ Below w.heap.size w w' := by
  have d0 : decide ((a : Int) < 0) = false := by simp
  have PS := Lib.hid (fun w => plc_spec k w h0 h5)
  have p3 := plc_3 k
  rw [hk] at PS p3
  clear hk
  have dl := dec.dig_len a
  have BE := Lib.hid (body_0 a)
  go_enter Tryd.func24, Tryd.ntmps24
  go_wp2_with fail
  refine (isCurN k w h0 h5).mono ?_
  rintro e w' ⟨rfl, rfl⟩
  go_wp2_with fail
  refine (isAmtN (a : Int) w (by omega) (by omega)).mono ?_
  rintro e w' ⟨rfl, rfl⟩
  go_wp2_with fail
  rw [max_p]
  refine (dec.l1Dec a w (by omega)).mono ?_
  rintro e w1 ⟨rfl, b1⟩
  have B1 := Lib.hid b1
  clear b1
  go_wp2_with fail
  refine (PS.out w1).mono ?_
  rintro e w2 ⟨rfl, b2⟩
  have B2 := Lib.hid (B1.out.trans (b2.mono B1.out.size))
  clear b2
  go_wp2
  go_ret
  refine ⟨dec.ret_str ?_, B2.out⟩
  rw [BE.out, padL_1]

set_option maxHeartbeats 400000 in
theorem spec_neg0 (k : Int) (a : Nat) (w : World) (h0 : 0 ≤ k) (h5 : k ≤ 5) (hk : plc k = 0) (ha : a ≤ 1000000000000) (h1 : 1 ≤ a) : Calls Tryd.prog 24 #[.int .i64 k, .int .i64 (-(a : Int))] w fun e w' => e = .returned (.string ⟨(45 :: body 0 a).toArray⟩) ∧ Below w.heap.size w w' := by
  have d0 : decide (-(a : Int) < 0) = true := by simp; omega
  have PS := Lib.hid (fun w => plc_spec k w h0 h5)
  have p3 := plc_3 k
  rw [hk] at PS p3
  clear hk
  have dl := dec.dig_len a
  have BE := Lib.hid (body_0 a)
  go_enter Tryd.func24, Tryd.ntmps24
  go_wp2_with fail
  refine (isCurN k w h0 h5).mono ?_
  rintro e w' ⟨rfl, rfl⟩
  go_wp2_with fail
  refine (isAmtN (-(a : Int)) w (by omega) (by omega)).mono ?_
  rintro e w' ⟨rfl, rfl⟩
  go_wp2_with fail
  rw [max_n]
  refine (dec.l1Dec a w (by omega)).mono ?_
  rintro e w1 ⟨rfl, b1⟩
  have B1 := Lib.hid b1
  clear b1
  go_wp2_with fail
  refine (PS.out w1).mono ?_
  rintro e w2 ⟨rfl, b2⟩
  have B2 := Lib.hid (B1.out.trans (b2.mono B1.out.size))
  clear b2
  go_wp2
  go_ret
  refine ⟨dec.ret_str ?_, B2.out⟩
  rw [BE.out, padL_1]; exact dec.cat1 45 _

set_option maxHeartbeats 400000 in
theorem spec_pos1 (k : Int) (a : Nat) (p j : Nat) (p1 : 1 ≤ p) (hj : (dec.padL a (p + 1)).length = j + p) (w : World) (h0 : 0 ≤ k) (h5 : k ≤ 5) (hk : plc k = p) (ha : a ≤ 1000000000000) : Calls Tryd.prog 24 #[.int .i64 k, .int .i64 (a : Int)] w fun e w' => e = .returned (.string ⟨(body p a).toArray⟩) ∧ Below w.heap.size w w' := by
  have d0 : decide ((a : Int) < 0) = false := by simp
  have PS := Lib.hid (fun w => plc_spec k w h0 h5)
  have p3 := plc_3 k
  rw [hk] at PS p3
  clear hk
  have dl := dec.dig_len a
  have BE := Lib.hid (body_j p1 hj)
  have t0 : decide (0 < (p : Int)) = true := by simp; omega
  have HJ := Lib.hid hj
  have LP := len_pad a (p + 1)
  have j1 : 1 ≤ j := by omega
  have j2 : j ≤ 1000000000010 := by omega
  clear hj
  go_enter Tryd.func24, Tryd.ntmps24
  go_wp2_with fail
  refine (isCurN k w h0 h5).mono ?_
  rintro e w' ⟨rfl, rfl⟩
  go_wp2_with fail
  refine (isAmtN (a : Int) w (by omega) (by omega)).mono ?_
  rintro e w' ⟨rfl, rfl⟩
  go_wp2_with fail
  rw [max_p]
  refine (dec.l1Dec a w (by omega)).mono ?_
  rintro e w1 ⟨rfl, b1⟩
  have B1 := Lib.hid b1
  clear b1
  go_wp2_with fail
  refine (PS.out w1).mono ?_
  rintro e w2 ⟨rfl, b2⟩
  have B2 := Lib.hid (B1.out.trans (b2.mono B1.out.size))
  clear b2
  go_wp2_with fail
  go_loopw [5] (fun s wr => wr = w2 ∧ ∃ i : Nat, (i = 0 ∨ i + (Lib.decDigits a).length ≤ p + 1) ∧ s = .string ⟨(List.replicate i 48 ++ Lib.decDigits a).toArray⟩) (fun s _ => 1000000000100 - (txt s).data.size)
  case atStart => exact ⟨rfl, 0, .inl rfl, rfl⟩
  case round =>
    obtain ⟨rfl, i, hi, rfl⟩ := hrel
    have hz : (List.replicate i (48 : UInt8) ++ Lib.decDigits a).length = i + (Lib.decDigits a).length := by simp
    by_cases hlt : i + (Lib.decDigits a).length ≤ p
    · have u1 : decide (((i + (Lib.decDigits a).length : Nat) : Int) ≤ (p : Int)) = true := by simp; omega
      go_wp2
      go_roundw
      case rel => exact ⟨trivial, i + 1, .inr (by omega), dec.val_str (dec.cat1 48 _)⟩
      case measure =>
        simp [txt]
        omega
    · have u1 : decide (((i + (Lib.decDigits a).length : Nat) : Int) ≤ (p : Int)) = false := by simp; omega
      have he : List.replicate i (48 : UInt8) ++ Lib.decDigits a = dec.padL a (p + 1) := by
        unfold dec.padL
        rw [show i = p + 1 - (Lib.decDigits a).length by omega]
      rw [he] at hz
      have hj := HJ.out
      have HL := Lib.hid hz
      clear u1 hlt hi
      rw [he]
      have u1 : decide (((dec.padL a (p + 1)).length : Int) ≤ (p : Int)) = false := by simp; omega
      have BE' := BE.out
      clear he hz BE HL
      generalize dec.padL a (p + 1) = l at hj LP u1 BE' ⊢
      have HB := Lib.hid BE'
      have ej : (l.length : Int) - (p : Int) = (j : Int) := by omega
      have eb : (j : Int) ≤ (l.length : Int) := by omega
      have lb : l.length ≤ 1000000000020 := by omega
      have ew : IntKind.i64.wrap ((l.length : Int) - (p : Int)) = (j : Int) := by rw [ej]; exact IntWalk.i64_in _ (by omega)
      clear hj LP BE' dl
      go_wp2
      go_quiet (fail)
      clear ew
      go_wp2
      go_ret
      refine ⟨dec.ret_str ?_, dn B2.out _⟩
      rw [HB.out]
      show (⟨l.toArray⟩ : ByteArray).extract 0 j ++ (⟨[46].toArray⟩ : ByteArray) ++ (⟨l.toArray⟩ : ByteArray).extract j l.length = _
      rw [ext0, ext1, dec.cat, dec.cat]

set_option maxHeartbeats 400000 in
theorem spec_neg1 (k : Int) (a : Nat) (p j : Nat) (p1 : 1 ≤ p) (hj : (dec.padL a (p + 1)).length = j + p) (w : World) (h0 : 0 ≤ k) (h5 : k ≤ 5) (hk : plc k = p) (ha : a ≤ 1000000000000) (h1 : 1 ≤ a) : Calls Tryd.prog 24 #[.int .i64 k, .int .i64 (-(a : Int))] w fun e w' => e = .returned (.string ⟨(45 :: body p a).toArray⟩) ∧ Below w.heap.size w w' := by
  have d0 : decide (-(a : Int) < 0) = true := by simp; omega
  have PS := Lib.hid (fun w => plc_spec k w h0 h5)
  have p3 := plc_3 k
  rw [hk] at PS p3
  clear hk
  have dl := dec.dig_len a
  have BE := Lib.hid (body_j p1 hj)
  have t0 : decide (0 < (p : Int)) = true := by simp; omega
  have HJ := Lib.hid hj
  have LP := len_pad a (p + 1)
  have j1 : 1 ≤ j := by omega
  have j2 : j ≤ 1000000000010 := by omega
  clear hj
  go_enter Tryd.func24, Tryd.ntmps24
  go_wp2_with fail
  refine (isCurN k w h0 h5).mono ?_
  rintro e w' ⟨rfl, rfl⟩
  go_wp2_with fail
  refine (isAmtN (-(a : Int)) w (by omega) (by omega)).mono ?_
  rintro e w' ⟨rfl, rfl⟩
  go_wp2_with fail
  rw [max_n]
  refine (dec.l1Dec a w (by omega)).mono ?_
  rintro e w1 ⟨rfl, b1⟩
  have B1 := Lib.hid b1
  clear b1
  go_wp2_with fail
  refine (PS.out w1).mono ?_
  rintro e w2 ⟨rfl, b2⟩
  have B2 := Lib.hid (B1.out.trans (b2.mono B1.out.size))
  clear b2
  go_wp2_with fail
  go_loopw [5] (fun s wr => wr = w2 ∧ ∃ i : Nat, (i = 0 ∨ i + (Lib.decDigits a).length ≤ p + 1) ∧ s = .string ⟨(List.replicate i 48 ++ Lib.decDigits a).toArray⟩) (fun s _ => 1000000000100 - (txt s).data.size)
  case atStart => exact ⟨rfl, 0, .inl rfl, rfl⟩
  case round =>
    obtain ⟨rfl, i, hi, rfl⟩ := hrel
    have hz : (List.replicate i (48 : UInt8) ++ Lib.decDigits a).length = i + (Lib.decDigits a).length := by simp
    by_cases hlt : i + (Lib.decDigits a).length ≤ p
    · have u1 : decide (((i + (Lib.decDigits a).length : Nat) : Int) ≤ (p : Int)) = true := by simp; omega
      go_wp2
      go_roundw
      case rel => exact ⟨trivial, i + 1, .inr (by omega), dec.val_str (dec.cat1 48 _)⟩
      case measure =>
        simp [txt]
        omega
    · have u1 : decide (((i + (Lib.decDigits a).length : Nat) : Int) ≤ (p : Int)) = false := by simp; omega
      have he : List.replicate i (48 : UInt8) ++ Lib.decDigits a = dec.padL a (p + 1) := by
        unfold dec.padL
        rw [show i = p + 1 - (Lib.decDigits a).length by omega]
      rw [he] at hz
      have hj := HJ.out
      have HL := Lib.hid hz
      clear u1 hlt hi
      rw [he]
      have u1 : decide (((dec.padL a (p + 1)).length : Int) ≤ (p : Int)) = false := by simp; omega
      have BE' := BE.out
      clear he hz BE HL
      generalize dec.padL a (p + 1) = l at hj LP u1 BE' ⊢
      have HB := Lib.hid BE'
      have ej : (l.length : Int) - (p : Int) = (j : Int) := by omega
      have eb : (j : Int) ≤ (l.length : Int) := by omega
      have lb : l.length ≤ 1000000000020 := by omega
      have ew : IntKind.i64.wrap ((l.length : Int) - (p : Int)) = (j : Int) := by rw [ej]; exact IntWalk.i64_in _ (by omega)
      clear hj LP BE' dl
      go_wp2
      go_quiet (fail)
      clear ew
      go_wp2
      go_ret
      refine ⟨dec.ret_str ?_, dn B2.out _⟩
      rw [HB.out]
      show (⟨[45].toArray⟩ : ByteArray) ++ ((⟨l.toArray⟩ : ByteArray).extract 0 j ++ (⟨[46].toArray⟩ : ByteArray) ++ (⟨l.toArray⟩ : ByteArray).extract j l.length) = _
      rw [ext0, ext1, dec.cat, dec.cat, dec.cat]; rfl
end Go.Proofs.YtlpeadkkkmpccaaDoor.amt
