/-
  Plain helpers of this seat's proofs: the landed text of a ledger. Conditions: none.
-/
import Derived.Test.YtpogfdeioibkdaaGreatDoorLtt
namespace Go.Proofs.YtpogfdeioibkdaaGreatDoor.bld
open Go.ChangeShapes Go.WideShapes Go.ChangeAt Go.RowKit
theorem Is.stay {B b : Nat} {bs : List Value} {w w' : World} (h : Is B b bs w) (hb : Below w.heap.size w w') : Is B b bs w' := by
  have key : ∀ p, Lib.BuilderAtF 59 5 B b p bs w → Lib.BuilderAtF 59 5 B b p bs w' := by
    rintro p ⟨hB, v, hbk, own, ne⟩
    refine ⟨hB, v, (hb.block b (lt_heap hbk)).trans hbk, ?_, ne⟩
    refine own.kept (row := none) ⟨hb.os, hb.tape, hb.output, hb.size, fun k hk _ => hb.block k hk⟩ ?_
    cases h : v.ownBlock with
    | none => exact .inl rfl
    | some k => exact .inr (by simp)
  rcases h with h | h
  · exact .inl (key _ h)
  · exact .inr (key _ h)
end Go.Proofs.YtpogfdeioibkdaaGreatDoor.bld
namespace Go.Proofs.YtpogfdeioibkdaaGreatDoor.ptm
open Go.ChangeShapes Go.WideShapes Go.ChangeAt Go.RowKit
open led (F5 z5)
open five (Row)
theorem bcells (l : List UInt8) : (Lib.byteCells l).length = l.length := by simp [Lib.byteCells]
theorem byte10 (l p : List UInt8) : (Lib.byteCells l ++ Lib.byteCells p) ++ [Value.int .u8 10] = Lib.byteCells (l ++ (p ++ [10])) := by
  rw [Lib.byteCells_append, Lib.byteCells_append, List.append_assoc]; rfl
set_option maxRecDepth 40000 in
set_option maxHeartbeats 4000000 in
theorem linI (w : World) (a : Option Addr) (cap g : Nat) (l : List F5) (r : Row w a cap g l) (hl : l.length ≤ 400) (hp : ∀ k, k < l.length → pok (l.getD k z5) = true) (cu : cur.Cur w) (po : Pow w) (hw : 2 < w.heap.size) :
    Calls Tryz.prog 15 #[.slice a l.length cap, .func (.func 16) #[] #[]] w fun e w' => e = .returned (.string ⟨(ltx l).toArray⟩) ∧ Below w.heap.size w w' := by
  have lt := cu.lt
  have TI := Lib.hid (fun x W (hb : Below w.heap.size w W) => textI x W (cu.below hb lt) (Pow.below po hb hw) (Nat.lt_of_lt_of_le hw hb.size))
  have R := Lib.hid r
  have e1 := r.addr
  have m1 := r.room
  have RL := Lib.hid (fun h => r.lt h)
  have PK := Lib.hid hp
  have LL := Lib.hid (fun k hk => ltx_len (l := l) hp k hk)
  obtain ⟨n, hnz⟩ : ∃ n, n = l.length := ⟨_, rfl⟩
  rw [← hnz] at hl e1 m1 ⊢
  have HNZ := Lib.hid hnz
  have LT := Lib.hid (show ltx (l.take n) = ltx l from by rw [hnz, List.take_of_length_le (Nat.le_refl _)])
  have FR := Lib.hid (bld.fresh w)
  have B0 := Lib.hid (show Below w.heap.size w (w.alloc (.cells #[.pointer none, .slice none 0 0] 59)) from five.bAl (Below.refl _ _) (Nat.le_refl _) _)
  have z0 : (w.alloc (.cells #[.pointer none, .slice none 0 0] 59)).heap.size = w.heap.size + 1 := World.size_alloc _ _
  clear hnz r cu po hw lt hp
  go_enter Tryz.func15, Tryz.ntmps15
  go_wp2
  generalize w.alloc (.cells #[.pointer none, .slice none 0 0] 59) = W0 at FR B0 z0 ⊢
  go_loopw [10] (fun i wr => Below w.heap.size w wr ∧ ∃ k : Nat, k ≤ n ∧ i = .int .i64 k ∧ bld.Is w.heap.size w.heap.size (Lib.byteCells (ltx (l.take k))) wr) (fun i _ => n - (intOf i).toNat)
  case atStart => exact ⟨B0.out, 0, by omega, rfl, FR.out⟩
  case round =>
    obtain ⟨hB, k, hk, rfl, hI⟩ := hrel
    have BB := Lib.hid hB
    have IS := Lib.hid hI
    have hsz := hB.size
    clear hB hI FR B0
    by_cases hlt : k < n
    · have u1 : decide (k < n) = true := by simp; omega
      have z1 : (k : Int) < (n : Int) := by omega
      have hp : 0 < n := by omega
      have ea := e1 hp
      subst ea
      have gl := RL.out (by rw [← HNZ.out]; exact hp)
      have q1 := (R.out.cells k (by rw [← HNZ.out]; exact hlt)).keep (BB.out.block g gl)
      have TK := Lib.hid (ltx_take (l := l) (k := k) (by rw [← HNZ.out]; exact hlt))
      have TT := Lib.hid (fun W hb => TI.out (l.getD k z5) W hb)
      have TY := Lib.hid (txt_yes (PK.out k (by rw [← HNZ.out]; exact hlt)))
      have pl := (ptx_len (pok_sm (PK.out k (by rw [← HNZ.out]; exact hlt)))).2
      have ll := LL.out k (by rw [← HNZ.out]; omega)
      obtain ⟨x, hx⟩ : ∃ x, x = l.getD k z5 := ⟨_, rfl⟩
      rw [← hx] at q1 TK TT TY pl
      rw [TY.out] at TT
      clear hx TY
      obtain ⟨S, hS⟩ : ∃ S, S = ltx (l.take k) := ⟨_, rfl⟩
      rw [← hS] at TK ll IS
      clear hS
      obtain ⟨p, hp'⟩ : ∃ p, p = ptx x := ⟨_, rfl⟩
      rw [← hp'] at TK TT pl
      clear hp'
      obtain ⟨x1, x2, x3, x4, x5⟩ := q1
      have BX := Lib.hid (BB.out.alloc hsz (.cells #[.int .i64 x.1, .int .i64 x.2.1, .int .i64 x.2.2.1, .int .i64 x.2.2.2.1, .int .i64 x.2.2.2.2] 36))
      have IX := Lib.hid (bld.Is.stay IS.out ((Below.refl wr.heap.size wr).alloc (Nat.le_refl _) (.cells #[.int .i64 x.1, .int .i64 x.2.1, .int .i64 x.2.2.1, .int .i64 x.2.2.2.1, .int .i64 x.2.2.2.2] 36)))
      go_wp2_with fail
      refine (TT.out _ BX.out).mono ?_
      rintro e w2 ⟨rfl, b2⟩
      have B2 := Lib.hid (BX.out.trans (b2.mono BX.out.size))
      have I2 := Lib.hid (bld.Is.stay IX.out b2)
      clear b2 x1 x2 x3 x4 x5 BX IX
      go_wp2_with fail
      refine (bld.text _ _ _ p w2 I2.out (by rw [bcells]; omega) B2.out.size).mono ?_
      rintro e w3 ⟨⟨v3, rfl⟩, u3, b3⟩
      have B3 := Lib.hid (B2.out.trans b3)
      have I3 := Lib.hid (show bld.Is w.heap.size w.heap.size (Lib.byteCells S ++ Lib.byteCells p) w3 from .inr u3)
      clear b3 u3 B2 I2
      go_wp2_with fail
      refine (bld.byte _ _ _ 10 w3 I3.out (by rw [List.length_append, bcells, bcells]; omega) B3.out.size).mono ?_
      rintro e w4 ⟨⟨v4, rfl⟩, u4, b4⟩
      have B4 := Lib.hid (B3.out.trans b4)
      have I4 := Lib.hid (show bld.Is w.heap.size w.heap.size (Lib.byteCells (ltx (l.take (k + 1)))) w4 from by rw [TK.out, ← byte10]; exact .inr u4)
      clear b4 u4 B3 I3
      go_wp2
      go_roundw
      case rel => exact ⟨B4.out, k + 1, by omega, by go_num, I4.out⟩
      case measure => simp [intOf]; omega
    · have u1 : decide (k < n) = false := by simp; omega
      obtain rfl : k = n := by omega
      go_wp2_with fail
      refine (Tryz.Builder_String_any_k _ _ _ wr IS.out hsz).mono ?_
      rintro e w5 ⟨rfl, _, b5, _⟩
      have B5 := Lib.hid (BB.out.trans b5)
      clear b5
      go_wp2
      go_ret
      exact ⟨by rw [LT.out]; rfl, B5.out⟩
set_option maxHeartbeats 2000000 in
theorem ltI (w : World) (a : Option Addr) (cap g : Nat) (l : List F5) (r : Row w a cap g l) (hn : l.length ≤ 1048577) (cu : cur.Cur w) (po : Pow w) (hw : 2 < w.heap.size) : Calls Tryz.prog 6 #[.slice a l.length cap] w fun e w' => e = .returned (.string ⟨(ltxt l).toArray⟩) ∧ Below w.heap.size w w' := by
  have LG := Lib.hid (base.lgI w a cap g l r hn)
  have lt := cu.lt
  unfold ltxt
  cases hv : led.lv l with
  | false =>
    rw [hv] at LG
    rw [if_neg (by simp)]
    go_enter Tryz.func6, Tryz.ntmps6
    go_wp2_with fail
    refine LG.out.mono ?_
    rintro e w1 ⟨rfl, b1⟩
    have B1 := Lib.hid b1
    clear b1
    go_wp2
    go_ret
    exact ⟨rfl, B1.out⟩
  | true =>
    rw [hv] at LG
    rw [if_pos rfl]
    have LN := Lib.hid (fun W (hb : Below w.heap.size w W) => linI W a cap g l (r.keep (fun h => hb.block g (r.lt h))) (lv_len hv) (fun k hk => fine_pok hv hk) (cu.below hb lt) (Pow.below po hb hw) (Nat.lt_of_lt_of_le hw hb.size))
    clear cu po hw lt r hn hv
    go_enter Tryz.func6, Tryz.ntmps6
    go_wp2_with fail
    refine LG.out.mono ?_
    rintro e w1 ⟨rfl, b1⟩
    have B1 := Lib.hid b1
    clear b1
    go_wp2_with fail
    refine (LN.out w1 B1.out).mono ?_
    rintro e w2 ⟨rfl, b2⟩
    have B2 := Lib.hid (B1.out.trans (b2.mono B1.out.size))
    clear b2
    go_wp2
    go_ret
    exact ⟨rfl, B2.out⟩
end Go.Proofs.YtpogfdeioibkdaaGreatDoor.ptm
