/-
  Plain helpers of this seat's proofs: the text of a ledger, on both sides. Conditions: none.
-/
import Derived.Test.YtpogfdeioibkdaaGreatDoorBld
import Derived.Test.YtpogfdeioibkdaaGreatDoorPtj
import Derived.Test.YtpogfdeioibkdaaGreatDoorLgS
import Derived.Test.YtpogfdeioibkdaaGreatDoorLgI
import Derived.Lib.UnsafeStr
namespace Go.Proofs.YtpogfdeioibkdaaGreatDoor.ptm
open Go.ChangeShapes Go.WideShapes Go.ChangeAt Go.RowKit
open led (F5 z5)
open five (Row)
theorem ltx_take {l : List F5} {k : Nat} (h : k < l.length) : ltx (l.take (k + 1)) = ltx (l.take k) ++ (ptx (l.getD k z5) ++ [10]) := by
  rw [List.take_add_one, List.getElem?_eq_getElem h, show l.getD k z5 = l[k] from by rw [List.getD_eq_getElem?_getD, List.getElem?_eq_getElem h]; rfl]
  exact ltx_snoc _ _
theorem fine_pok {l : List F5} {k : Nat} (h : led.lv l = true) (hk : k < l.length) : pok (l.getD k z5) = true := by
  have f := (led.lv_iff.1 h).2 k hk
  have p := f.pl
  have r := f.far
  unfold led.nn at r
  unfold pok
  rw [p]
  simpa using r
theorem ltx_len {l : List F5} (h : ∀ k, k < l.length → pok (l.getD k z5) = true) : ∀ k, k ≤ l.length → (ltx (l.take k)).length ≤ 61 * k
  | 0, _ => by simp [ltx]
  | k + 1, hk => by
    have a := ltx_len h k (by omega)
    have b := (ptx_len (pok_sm (h k (by omega)))).2
    rw [ltx_take (by omega)]
    simp only [List.length_append, List.length_cons, List.length_nil]
    omega
theorem lv_len {l : List F5} (h : led.lv l = true) : l.length ≤ 400 := (led.lv_iff.1 h).1
set_option maxRecDepth 40000 in
set_option maxHeartbeats 4000000 in
theorem ltS (w : World) (a : Option Addr) (cap g : Nat) (l : List F5) (r : Row w a cap g l) (hn : l.length ≤ 1048577) : Calls Tryz.prog 10 #[.slice a l.length cap] w fun e w' => e = .returned (.string ⟨(ltxt l).toArray⟩) ∧ Below w.heap.size w w' := by
  have LG := Lib.hid (base.lgS w a cap g l r hn)
  have R := Lib.hid r
  have e1 := r.addr
  have m1 := r.room
  clear r
  unfold ltxt
  cases hv : led.lv l with
  | false =>
    rw [hv] at LG
    rw [if_neg (by simp)]
    clear e1
    go_enter Tryz.func10, Tryz.ntmps10
    go_wp2_with fail
    refine LG.out.mono ?_
    rintro e w1 ⟨rfl, b1⟩
    have B1 := Lib.hid b1
    clear b1
    go_wp2
    go_ret
    exact ⟨rfl, B1.out⟩
  | true =>
    rw [hv] at LG
    rw [if_pos rfl]
    have hl := lv_len hv
    have PK := Lib.hid (fun k hk => fine_pok (l := l) (k := k) hv hk)
    have LL := Lib.hid (fun k hk => ltx_len (l := l) (fun k hk => fine_pok hv hk) k hk)
    obtain ⟨n, hnz⟩ : ∃ n, n = l.length := ⟨_, rfl⟩
    rw [← hnz] at hl e1 m1 LG ⊢
    have HNZ := Lib.hid hnz
    have LT := Lib.hid (show ltx (l.take n) = ltx l from by rw [hnz, List.take_of_length_le (Nat.le_refl _)])
    clear hnz hn hv
    go_enter Tryz.func10, Tryz.ntmps10
    go_wp2_with fail
    refine LG.out.mono ?_
    rintro e w1 ⟨rfl, b1⟩
    have B1 := Lib.hid b1
    have R1 := Lib.hid (R.out.keep (w' := w1) (fun h => b1.block g (R.out.lt h)))
    clear b1
    go_wp2
    go_loopw [3, 4] (fun s i wr => Below w.heap.size w wr ∧ (0 < n → wr.heap[g]? = w1.heap[g]?) ∧ ∃ k : Nat, k ≤ n ∧ i = .int .i64 k ∧ s = .string ⟨(ltx (l.take k)).toArray⟩) (fun _ i _ => n - (intOf i).toNat)
    case atStart => exact ⟨B1.out, fun _ => rfl, 0, by omega, rfl, rfl⟩
    case round =>
      obtain ⟨hB, hG, k, hk, rfl, rfl⟩ := hrel
      have BB := Lib.hid hB
      have GG := Lib.hid hG
      clear hB hG
      by_cases hlt : k < n
      · have u1 : decide (k < n) = true := by simp; omega
        have z1 : (k : Int) < (n : Int) := by omega
        have hp : 0 < n := by omega
        have ea := e1 hp
        subst ea
        have q1 := (R1.out.cells k (by rw [← HNZ.out]; exact hlt)).keep (GG.out hp)
        have gl := q1.lt
        have TK := Lib.hid (ltx_take (l := l) (k := k) (by rw [← HNZ.out]; exact hlt))
        have PP := Lib.hid (fun W => postS (l.getD k z5) (pok_sm (PK.out k (by rw [← HNZ.out]; exact hlt))) W)
        have pl := (ptx_len (pok_sm (PK.out k (by rw [← HNZ.out]; exact hlt)))).2
        have ll := LL.out k (by rw [← HNZ.out]; omega)
        obtain ⟨x, hx⟩ : ∃ x, x = l.getD k z5 := ⟨_, rfl⟩
        rw [← hx] at q1 TK PP pl
        clear hx
        obtain ⟨S, hS⟩ : ∃ S, S = ltx (l.take k) := ⟨_, rfl⟩
        rw [← hS] at TK ll ⊢
        clear hS
        obtain ⟨p, hp'⟩ : ∃ p, p = ptx x := ⟨_, rfl⟩
        rw [← hp'] at TK PP pl
        clear hp'
        have zs : (⟨S.toArray⟩ : ByteArray).size ≤ 61 * k := ll
        have zp : (⟨p.toArray⟩ : ByteArray).size ≤ 60 := pl
        obtain ⟨x1, x2, x3, x4, x5⟩ := q1
        go_wp2_with fail
        refine (PP.out _).mono ?_
        rintro e w2 ⟨rfl, b2⟩
        have B2 := Lib.hid (BB.out.trans (b2.mono BB.out.size))
        have G2 := Lib.hid (show 0 < n → w2.heap[g]? = w1.heap[g]? from fun h => (b2.block g gl).trans (GG.out h))
        clear b2 x1 x2 x3 x4 x5
        go_wp2
        go_roundw
        case rel => exact ⟨B2.out, G2.out, k + 1, by omega, by go_num, by
          rw [TK.out]
          exact dec.val_str (by rw [show (⟨#[10]⟩ : ByteArray) = ⟨[10].toArray⟩ from rfl, dec.cat, dec.cat, List.append_assoc])⟩
        case measure => simp [intOf]; omega
      · have u1 : decide (k < n) = false := by simp; omega
        obtain rfl : k = n := by omega
        go_wp2
        go_ret
        exact ⟨by rw [LT.out]; rfl, BB.out⟩
end Go.Proofs.YtpogfdeioibkdaaGreatDoor.ptm
