/-
  Plain helpers of this seat's proofs: the contract of the model's TakeFrames. Conditions: none.
-/
import Derived.Test.YtibkoacphfdlkaaFfr
import Derived.Deep.RegionWith
import Derived.Deep.RegionHeld3
namespace Go.Proofs.Ytibkoacphfdlkaa.frm
open Go.ChangeShapes Go.WideShapes Go.ChangeAt Go.RowKit
open crc (le4 be4 sum)
/-- The number of the first so many bytes of a head. -/
def pn (L : List UInt8) (p : Nat) : Nat → Nat
  | 0 => 0
  | j + 1 => 256 * pn L p j + bt L (p + j)
theorem pn4 (L : List UInt8) (p : Nat) : pn L p 4 = sz L p := by
  unfold sz n4
  show 256 * (256 * (256 * (256 * 0 + bt L (p + 0)) + bt L (p + 1)) + bt L (p + 2)) + bt L (p + 3) = _
  rw [Nat.add_zero p]
  omega
theorem pn_le (L : List UInt8) (p : Nat) : ∀ j, pn L p j < 256 ^ j
  | 0 => by simp [pn]
  | j + 1 => by
    have a := pn_le L p j
    have b := bt_lt L (p + j)
    rw [pn, Nat.pow_succ]; omega
theorem infoS' : (Try.prog.info? 9).map (fun i => (i.zero, i.size, i.bytes)) = some (some (.string ⟨#[]⟩), 1, 16) := by kernel_rfl
theorem own_new (w : World) : (w.alloc (.cells #[] 9)).ownsRow w.heap.size 9 1 (.slice (some ⟨w.heap.size, 0, none⟩) 0 0) 0 [] := by
  refine ⟨rfl, .inr ⟨w.heap.size, 0, #[], rfl, Nat.le_refl _, ?_, Nat.le_refl _, Nat.zero_le _, rfl, rfl⟩⟩
  show (w.heap.push _)[w.heap.size]? = _
  simp
theorem own_bel {w w' : World} {B : Nat} {e : TypeId} {size : Nat} {v : Value} {n : Nat} {xs : List Value} (h : w.ownsRow B e size v n xs) (hb : Below w.heap.size w w') : w'.ownsRow B e size v n xs := by
  obtain ⟨h1, h2⟩ := h
  refine ⟨h1, ?_⟩
  rcases h2 with h2 | ⟨g, cap, cur, hv, hg, hh, r⟩
  · exact Or.inl h2
  · exact Or.inr ⟨g, cap, cur, hv, hg, by rw [hb.block g (Array.getElem?_eq_some_iff.1 hh).1]; exact hh, r⟩
def sts (ls : List (List UInt8)) : List Value := ls.map (fun d => .string ⟨d.toArray⟩)
/-- What TakeFrames answers. -/
def GotT (L : List UInt8) (w : World) (e : Ending) (w' : World) : Prop := ∃ k v, Fr L k ∧ e = .returned (.tuple #[v, .int .i64 (pos L k : Int)]) ∧ w'.ownsRow w.heap.size 9 1 v k ((outs L k).map (fun d => .string ⟨d.toArray⟩)) ∧ Below w.heap.size w w'
set_option maxRecDepth 100000 in
set_option maxHeartbeats 8000000 in
theorem tfS (L : List UInt8) (w : World) (hL : L.length ≤ 1048576) : Calls Try.prog 9 #[.string ⟨L.toArray⟩] w (GotT L w) := by
  obtain ⟨n, hn⟩ : ∃ n, n = L.length := ⟨_, rfl⟩
  have el : (⟨L.toArray⟩ : ByteArray).size = n := hn.symm
  have HN := Lib.hid hn
  rw [← hn] at hL
  clear hn
  have ON := Lib.hid (own_new w)
  have B0 := Lib.hid ((Below.refl w.heap.size w).alloc (Nat.le_refl _) (.cells #[] 9))
  obtain ⟨i0, hi, hz0, hz1, hz2⟩ := info_parts infoS'
  go_enter Try.func9, Try.ntmps9
  go_wp2
  go_loopw [4, 5] (fun o a wr => Below w.heap.size w wr ∧ ∃ k : Nat, Run L k ∧ a = .int .i64 (pos L k : Int) ∧ wr.ownsRow w.heap.size 9 1 o k (sts (outs L k))) (fun _ a _ => n + 1 - (intOf a).toNat)
  case atStart => exact ⟨B0.out, 0, fun i hi => by omega, rfl, ON.out⟩
  case round =>
    obtain ⟨hB, k, hr, rfl, hown⟩ := hrel
    have BB := Lib.hid hB
    have RR := Lib.hid hr
    have OWN := Lib.hid hown
    have rp := run_pos hr
    rw [← HN.out] at rp
    have hsz := hB.size
    have k1 : k ≤ 131072 := by omega
    have FIN := Lib.hid (fun (h : ¬ Good L (pos L k)) => (show Fr L k from ⟨hr, h⟩))
    have GD := Lib.hid (show Good L (pos L k) ↔ (pos L k + 8 ≤ L.length ∧ sz L (pos L k) ≤ 100000 ∧ pos L k + 8 + sz L (pos L k) ≤ L.length ∧ le4 (sum (dat L (pos L k))) = (L.drop (pos L k + 4)).take 4) from Iff.rfl)
    have PN4 := Lib.hid (pn4 L (pos L k))
    have PL := Lib.hid (pn_le L (pos L k))
    have NXT := Lib.hid (show pos L (k + 1) = pos L k + 8 + sz L (pos L k) from rfl)
    have RS := Lib.hid (fun g => run_succ (k := k) hr g)
    have OS := Lib.hid (show sts (outs L (k + 1)) = sts (outs L k) ++ [.string ⟨(dat L (pos L k)).toArray⟩] from by unfold sts; rw [outs_succ, List.map_append]; rfl)
    obtain ⟨p, hp⟩ : ∃ p, p = pos L k := ⟨_, rfl⟩
    rw [← hp] at rp FIN GD PN4 PL NXT RS OS ⊢
    have HP := Lib.hid hp
    obtain ⟨_, p1⟩ := rp
    obtain ⟨a8, ha8⟩ : ∃ a, a = p + 8 := ⟨_, rfl⟩
    have q8 : (p : Int) + 8 = (a8 : Int) := by omega
    have A8 := Lib.hid ha8
    clear hB hr hown hp ON B0
    by_cases c0 : n < a8
    · have t0 : decide ((a8 : Int) ≤ (n : Int)) = false := by simp; omega
      have t0' : decide (a8 ≤ n) = false := by simp; omega
      have NG := Lib.hid (FIN.out (fun g => by have := (GD.out.1 g).1; have := HN.out; omega))
      clear c0 ha8
      go_wp2
      go_ret2
      exact ⟨k, _, NG.out, by rw [← HP.out]; rfl, OWN.out, BB.out⟩
    · have t0 : decide ((a8 : Int) ≤ (n : Int)) = true := by simp; omega
      have t0' : decide (a8 ≤ n) = true := by simp; omega
      clear ha8
      go_wp2
      go_loop [6, 7] (fun x i => ∃ j : Nat, j ≤ 4 ∧ x = .int .i64 (pn L p j : Int) ∧ i = .int .i64 j) (fun _ i => 4 - (intOf i).toNat)
      case atStart => exact ⟨0, by omega, rfl, rfl⟩
      case round =>
        obtain ⟨j, hj, rfl, rfl⟩ := hrel
        have pl := PL.out j
        have pw : 256 ^ j ≤ 256 ^ 4 := Nat.pow_le_pow_right (by omega) hj
        by_cases hlt : j < 4
        · have u1 : decide ((j : Int) < 4) = true := by simp; omega
          have PS := Lib.hid (show pn L p (j + 1) = 256 * pn L p j + bt L (p + j) from rfl)
          obtain ⟨pj, hpj⟩ : ∃ x, x = p + j := ⟨_, rfl⟩
          have qj : (p : Int) + (j : Int) = (pj : Int) := by omega
          have hs : pj < (⟨L.toArray⟩ : ByteArray).size := by rw [el]; have := A8.out; omega
          have hb : ((⟨L.toArray⟩ : ByteArray)[pj]).toNat = bt L pj := by
            unfold bt
            rw [List.getD_eq_getElem?_getD, List.getElem?_eq_getElem (by have := HN.out; rw [el] at hs; omega)]; rfl
          have bl := bt_lt L pj
          rw [← hpj] at PS
          obtain ⟨bv, hbv⟩ : ∃ x, x = bt L pj := ⟨_, rfl⟩
          rw [← hbv] at hb bl PS
          obtain ⟨m, hm⟩ : ∃ x, x = pn L p j := ⟨_, rfl⟩
          rw [← hm] at pl PS ⊢
          clear hpj hbv hm
          go_wp2
          go_round
          case rel => exact ⟨j + 1, by omega, by rw [PS.out]; go_num, by go_num⟩
          case measure => simp [intOf]; omega
        · have u1 : decide ((j : Int) < 4) = false := by simp; omega
          obtain rfl : j = 4 := by omega
          have zl := sz_lt L p
          rw [PN4.out]
          have DL := Lib.hid (fun h : p + 8 + sz L p ≤ L.length => dat_len h)
          obtain ⟨z, hz⟩ : ∃ z, z = sz L p := ⟨_, rfl⟩
          rw [← hz] at zl GD NXT DL ⊢
          clear pl pw
          by_cases c1 : 100000 < z
          · have t1 : decide ((100000 : Int) < (z : Int)) = true := by simp; omega
            have t1' : decide (100000 < z) = true := by simp; omega
            have NG := Lib.hid (FIN.out (fun g => by have := (GD.out.1 g).2.1; omega))
            clear c1 hz
            go_wp2
            go_quiet (fail)
            go_wp2
            go_ret2
            exact ⟨k, _, NG.out, by rw [← HP.out]; rfl, OWN.out, ⟨BB.out.os, BB.out.tape, BB.out.output, BB.out.size, BB.out.block⟩⟩
          · have t1 : decide ((100000 : Int) < (z : Int)) = false := by simp; omega
            have t1' : decide (100000 < z) = false := by simp; omega
            obtain ⟨b8, hb8⟩ : ∃ x, x = a8 + z := ⟨_, rfl⟩
            have q9 : (a8 : Int) + (z : Int) = (b8 : Int) := by omega
            have B8 := Lib.hid hb8
            by_cases c2 : n < b8
            · have t2 : decide ((n : Int) < (b8 : Int)) = true := by simp; omega
              have t2' : decide (n < b8) = true := by simp; omega
              have NG := Lib.hid (FIN.out (fun g => by have := (GD.out.1 g).2.2.1; have := HN.out; have := A8.out; omega))
              clear c1 c2 hz hb8
              go_wp2
              go_quiet (fail)
              go_wp2
              go_ret2
              exact ⟨k, _, NG.out, by rw [← HP.out]; rfl, OWN.out, ⟨BB.out.os, BB.out.tape, BB.out.output, BB.out.size, BB.out.block⟩⟩
            · have t2 : decide ((n : Int) < (b8 : Int)) = false := by simp; omega
              have t2' : decide (n < b8) = false := by simp; omega
              obtain ⟨a4, ha4⟩ : ∃ x, x = p + 4 := ⟨_, rfl⟩
              have q4 : (p : Int) + 4 = (a4 : Int) := by omega
              have l1 : a8 ≤ b8 := by omega
              have l2 : b8 ≤ n := by omega
              have l3 : a4 ≤ a8 := by have := A8.out; omega
              have l4 : a8 ≤ n := by omega
              have m1 : (a8 : Int) ≤ (b8 : Int) := by omega
              have m2 : (b8 : Int) ≤ (n : Int) := by omega
              have m3 : (a4 : Int) ≤ (a8 : Int) := by omega
              have m4 : (a8 : Int) ≤ (n : Int) := by omega
              have v1 : IntKind.i64.wrap (a8 : Int) = (a8 : Int) := wrap_small _ (by omega) (by omega)
              have v2 : IntKind.i64.wrap (b8 : Int) = (b8 : Int) := wrap_small _ (by omega) (by omega)
              have v3 : IntKind.i64.wrap (a4 : Int) = (a4 : Int) := wrap_small _ (by omega) (by omega)
              have v4 : IntKind.i64.wrap ((p : Int) + 8) = (a8 : Int) := by rw [q8]; exact v1
              have v5 : IntKind.i64.wrap ((a8 : Int) + (z : Int)) = (b8 : Int) := by rw [q9]; exact v2
              have v6 : IntKind.i64.wrap ((p : Int) + 4) = (a4 : Int) := by rw [q4]; exact v3
              have hE1 : (⟨L.toArray⟩ : ByteArray).extract a8 b8 = ⟨(dat L p).toArray⟩ := by
                rw [ext, hb8, A8.out]; unfold dat; rw [← hz, List.drop_take]; congr 3; omega
              have hE2 : (⟨L.toArray⟩ : ByteArray).extract a4 a8 = ⟨((L.drop (p + 4)).take 4).toArray⟩ := by
                rw [ext, ha4, A8.out, List.drop_take]; congr 3; omega
              have G3 := Lib.hid (show Good L p ↔ le4 (sum (dat L p)) = (L.drop (p + 4)).take 4 from by
                rw [GD.out]
                have := HN.out
                have := A8.out
                exact ⟨fun g => g.2.2.2, fun g => ⟨by omega, by omega, by omega, g⟩⟩)
              have dl := DL.out (by have := HN.out; have := A8.out; omega)
              have HI := Lib.hid (fun w0 => crc.sumS (dat L p) w0 (by omega))
              obtain ⟨X, hX⟩ : ∃ X, X = le4 (sum (dat L p)) := ⟨_, rfl⟩
              obtain ⟨Y, hY⟩ : ∃ Y, Y = (L.drop (p + 4)).take 4 := ⟨_, rfl⟩
              obtain ⟨D, hD⟩ : ∃ D, D = dat L p := ⟨_, rfl⟩
              rw [← hX] at HI G3
              rw [← hY] at hE2 G3
              rw [← hD] at hE1 HI dl OS
              clear c1 c2 hz hb8 ha4 hX hY hD
              by_cases g : X = Y
              · subst g
                have GG := Lib.hid (G3.out.2 rfl)
                have tq : (X == X) = true := by simp
                have tn : (X != X) = false := by simp
                go_wp2
                go_region_held3 (fun _ => True) (first | trivial | go_keep) (first | (go_at_call 23; refine (HI.out _).mono ?_; rintro e w4 ⟨rfl, b4⟩; have B4 := Lib.hid b4; clear b4))
                have CB := Lib.hid (BB.out.trans ((show Below wr.heap.size wr wr.drew from (Below.refl _ _).drew).trans B4.out |>.mono hsz))
                have OW4 := Lib.hid (own_bel (show wr.drew.ownsRow _ _ _ _ _ _ from OWN.out) B4.out)
                have z4 := CB.out.size
                have mm : k + 1 ≤ maxLen := by unfold maxLen; omega
                clear tq tn v1 v2 v3 v4 v5 v6
                go_wp2_with (at_builtin; refine wpList_append_own _ rfl _ _ 25 rfl w.heap.size 9 i0 (.string ⟨#[]⟩) 1 16 Try.underlying25 hi hz0 hz1 hz2 rfl (by decide) _ _ _ rfl (OW4.out.alloc _) ⟨w4.heap.size, 0, none⟩ 1 1 [.string ⟨D.toArray⟩] rfl rfl ?c1 ?c2 ?c3 ?c4 ?c5 ?_)
                case c1 =>
                  intro j u hj
                  match j, hj with
                  | 0, hj => simp at hj; subst hj; simp [Addr.add]
                case c2 => intro u hu; simp at hu; subst hu; rfl
                case c3 => exact mm
                case c4 => omega
                case c5 => simp; omega
                intro v' w5 hown' hgrow _
                have OWN2 := Lib.hid (show w5.ownsRow w.heap.size 9 1 v' (k + 1) (sts (outs L (k + 1))) from by rw [OS.out]; exact hown')
                have B5 := Lib.hid ((CB.out.alloc CB.out.size _).grown hgrow (by simp; omega) (fun j hj => by
                  rcases OW4.out.2 with ⟨rfl, _⟩ | ⟨g, cap, cur, rfl, hg, _⟩
                  · cases hj
                  · cases hj; exact hg))
                clear hown' hgrow
                go_wp2
                go_roundw
                case rel => exact ⟨B5.out, k + 1, RS.out GG.out, by rw [NXT.out, ← A8.out, ← B8.out], OWN2.out⟩
                case measure => simp [intOf]; have := A8.out; omega
              · have NG := Lib.hid (FIN.out (fun h => g (G3.out.1 h)))
                have tq : (X == Y) = false := by simp; exact g
                have tn : (X != Y) = true := by simp; exact g
                clear g
                go_wp2
                go_region_held3 (fun _ => True) (first | trivial | go_keep) (first | (go_at_call 23; refine (HI.out _).mono ?_; rintro e w4 ⟨rfl, b4⟩; have B4 := Lib.hid b4; clear b4))
                go_wp2
                go_ret2
                exact ⟨k, _, NG.out, by rw [← HP.out]; rfl, own_bel (show wr.drew.ownsRow _ _ _ _ _ _ from OWN.out) B4.out, BB.out.trans ((show Below wr.heap.size wr wr.drew from (Below.refl _ _).drew).trans B4.out |>.mono hsz)⟩
end Go.Proofs.Ytibkoacphfdlkaa.frm
