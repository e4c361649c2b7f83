/-
  Plain helpers of this seat's proofs: the model's text of a command. Conditions: none.
-/
import Derived.Test.YtcpglphhhmgjkaaDoorTxm
import Derived.Test.YtcpglphhhmgjkaaDoorCmz
import Derived.Test.YtcpglphhhmgjkaaDoorCoS
import Derived.Deep.RegionWith
import Derived.Deep.RegionHeld3
import Derived.StillTailTactics
namespace Go.Proofs.YtcpglphhhmgjkaaDoor.cm
open Go.ChangeShapes Go.WideShapes Go.ChangeAt Go.RowKit
open gen
open four (F4)
def nV (i : Nat) : Value := .string ⟨(nmL.getD i []).toArray⟩
set_option maxRecDepth 100000 in
theorem namesS (w : World) : Calls Tryd.prog 40 #[] w fun e w' => ∃ g, e = .returned (.slice (some ⟨g, 0, none⟩) 13 13) ∧ Blk w' g 13 nV ∧ w.heap.size ≤ g ∧ Below w.heap.size w w' := by
  have K := Blk.new w #[.string ⟨#[100, 97, 121]⟩, .string ⟨#[114, 97, 116, 101]⟩, .string ⟨#[99, 111, 110, 115, 117, 109, 101, 114]⟩, .string ⟨#[109, 101, 114, 99, 104, 97, 110, 116]⟩, .string ⟨#[111, 114, 100, 101, 114]⟩, .string ⟨#[115, 104, 105, 112]⟩, .string ⟨#[112, 97, 121]⟩, .string ⟨#[114, 101, 102, 117, 110, 100]⟩, .string ⟨#[100, 105, 115, 112, 117, 116, 101]⟩, .string ⟨#[114, 117, 108, 101]⟩, .string ⟨#[112, 97, 121, 111, 117, 116]⟩, .string ⟨#[114, 101, 108, 101, 97, 115, 101]⟩, .string ⟨#[112, 97, 121, 111, 102, 102]⟩] 9 13 rfl
  go_enter Tryd.func40, Tryd.ntmps40
  go_wp2
  go_ret
  refine ⟨_, rfl, K.lit ?_, by omega, bAl (Below.refl _ _) (Nat.le_refl _) _⟩
  intro i hi
  match i, hi with
  | 0, _ => rfl
  | 1, _ => rfl
  | 2, _ => rfl
  | 3, _ => rfl
  | 4, _ => rfl
  | 5, _ => rfl
  | 6, _ => rfl
  | 7, _ => rfl
  | 8, _ => rfl
  | 9, _ => rfl
  | 10, _ => rfl
  | 11, _ => rfl
  | 12, _ => rfl
theorem cat3 (a b c : List UInt8) : (⟨a.toArray⟩ : ByteArray) ++ ⟨b.toArray⟩ ++ ⟨c.toArray⟩ = ⟨(a ++ b ++ c).toArray⟩ := by rw [dec.cat, dec.cat]
set_option maxRecDepth 20000 in
set_option maxHeartbeats 8000000 in
theorem textS (w : World) (s : Sc) (ai : Option Addr) (ci gi : Nat) (l : List F4) (r : four.Row w ai ci gi l) (hl : l.length ≤ 8) (hq : s.key.size ≤ 12) (hk : inR s.k 1 13 = true)
    (hn : ∀ j, j < cnt s.k → Small ((nums s).getD j 0)) (hi : ∀ i, i < l.length → Small (l.getD i four.zz).1 ∧ Small (l.getD i four.zz).2.1) :
    Calls Tryd.prog 34 #[.agg #[.int .i64 s.k, .string s.key, .int .i64 s.a, .int .i64 s.b, .int .i64 s.c, .int .i64 s.d, .int .i64 s.e, .int .i64 s.f, .slice ai l.length ci]] w fun e w' => e = .returned (.string ⟨(txt s l).toArray⟩) ∧ Below w.heap.size w w' := by
  have B0 := Lib.hid (show Below w.heap.size w (w.alloc (.cells #[.int .i64 s.k, .string s.key, .int .i64 s.a, .int .i64 s.b, .int .i64 s.c, .int .i64 s.d, .int .i64 s.e, .int .i64 s.f, .slice ai l.length ci] 29)) from bAl (Below.refl _ _) (Nat.le_refl _) _)
  have O0 := Lib.hid (CB.new w s ai l.length ci 29)
  have z0 : (w.alloc (.cells #[.int .i64 s.k, .string s.key, .int .i64 s.a, .int .i64 s.b, .int .i64 s.c, .int .i64 s.d, .int .i64 s.e, .int .i64 s.f, .slice ai l.length ci] 29)).heap.size = w.heap.size + 1 := by simp only [sz_al]
  have R := Lib.hid r
  have ea := r.addr
  have er := r.room
  clear r
  obtain ⟨T, hT⟩ : ∃ T, T = txt s l := ⟨_, rfl⟩
  rw [← hT]
  have HT := Lib.hid hT
  clear hT
  obtain ⟨n, hnz⟩ : ∃ n, n = l.length := ⟨_, rfl⟩
  have HNZ := Lib.hid hnz
  rw [← hnz] at hl ea er B0 O0 z0 ⊢
  clear hnz
  have HI := Lib.hid hi
  have HK := Lib.hid hk
  clear hi
  obtain ⟨c, hc⟩ : ∃ c, c = cnt s.k := ⟨_, rfl⟩
  have HC := Lib.hid hc
  have c6 : c ≤ 6 := by rw [hc]; exact cnt_le s.k hk
  have C6 := Lib.hid (show ∀ W, Calls Tryd.prog 26 #[.int .i64 s.k] W (fun e w' => e = .returned (.int .i64 (c : Nat)) ∧ Below W.heap.size W w') from fun W => by rw [hc]; exact cntS s.k W hk)
  rw [← hc] at hn
  clear hc
  have HN := Lib.hid hn
  clear hn
  have C5 := Lib.hid (fun W => numsS s ai n ci W)
  have k0 : 1 ≤ s.k ∧ s.k ≤ 13 := by unfold inR at hk; simp at hk; omega
  obtain ⟨km, hkm⟩ : ∃ km : Nat, s.k - 1 = (km : Int) := ⟨(s.k - 1).toNat, by omega⟩
  have km1 : km < 13 := by omega
  have km2 : (km : Int) < 13 := by omega
  have km3 : decide ((km : Int) < 13) = true := by simp; omega
  have hkw : IntKind.i64.wrap (km : Int) = (km : Int) := by rw [IntKind.wrap_i64] <;> omega
  have HKM := Lib.hid hkm
  have hw : IntKind.i64.wrap (s.k - 1) = (km : Int) := by rw [IntKind.wrap_i64] <;> omega
  have NW := Lib.hid (show nV km = .string ⟨(nw s.k).toArray⟩ from by unfold nV nw; rw [HKM.out]; rfl)
  have KL := nw_len s.k
  clear hkm
  clear hk k0
  go_enter Tryd.func34, Tryd.ntmps34
  go_wp2_with fail
  generalize w.alloc (.cells #[.int .i64 s.k, .string s.key, .int .i64 s.a, .int .i64 s.b, .int .i64 s.c, .int .i64 s.d, .int .i64 s.e, .int .i64 s.f, .slice ai n ci] 29) = W0 at B0 O0 z0 ⊢
  have o0 := O0.out.lt
  have y0 := O0.out.c0
  have y1 := O0.out.c1
  have zD : W0.drew.heap.size = W0.heap.size := rfl
  have S0 := Lib.hid (show W0.cell? ⟨w.heap.size, 0, none⟩ = some (.int .i64 s.k) ∧ W0.cell? ⟨w.heap.size, 1, none⟩ = some (.string s.key) from ⟨y0, y1⟩)
  have SD := Lib.hid (show W0.drew.cell? ⟨w.heap.size, 0, none⟩ = some (.int .i64 s.k) ∧ W0.drew.cell? ⟨w.heap.size, 1, none⟩ = some (.string s.key) from ⟨y0, y1⟩)
  have BD := Lib.hid (B0.out.drew)
  have OD := Lib.hid (O0.out.keep (w' := W0.drew) rfl)
  clear y0 y1
  obtain ⟨P, hP⟩ : ∃ P, P = s.key.data.toList ++ 32 :: nw s.k := ⟨_, rfl⟩
  have PL : P.length ≤ 21 := by
    rw [hP, List.length_append, List.length_cons]
    have : s.key.data.toList.length = s.key.size := rfl
    omega
  have VS := Lib.hid (show Value.string (s.key ++ ⟨#[32]⟩ ++ ⟨(nw s.k).toArray⟩) = .string ⟨(P ++ tn s 0).toArray⟩ from dec.val_str (by
    rw [hP]
    apply ByteArray.ext
    simp [tn]))
  have HP := Lib.hid hP
  clear hP
  have q0 : s.key.size ≤ 12 := hq
  have nl : (⟨(nw s.k).toArray⟩ : ByteArray).size ≤ 8 := KL
  obtain ⟨z0', z1'⟩ := S0.out
  obtain ⟨zd0, zd1⟩ := SD.out
  go_region_with ((go_at_call 40; refine (namesS _).mono ?_; rintro e w7 ⟨g, rfl, bk, hg, b7⟩; have B7 := Lib.hid (BD.out.trans (b7.mono BD.out.size)); have O7 := Lib.hid (OD.out.keep (b7.block w.heap.size (by rw [zD]; exact o0))); have S7 := Lib.hid (show w7.cell? ⟨w.heap.size, 0, none⟩ = some (.int .i64 s.k) ∧ w7.cell? ⟨w.heap.size, 1, none⟩ = some (.string s.key) from ⟨O7.out.c0, O7.out.c1⟩); have qn : w7.cell? ⟨g, km, none⟩ = some (.string ⟨(nw s.k).toArray⟩) := (bk.cell km km1).trans (congrArg some NW.out);have zs0 := S7.out.1; have zs1 := S7.out.2; clear bk b7 hg))
  all_goals
    have o7 := O7.out.lt
    obtain ⟨y0, y1, y2, y3, y4, y5, y6, y7, y8⟩ := O7.out
    go_wp2_with fail
    refine (C5.out _).mono ?_
    rintro e w8 ⟨g2, rfl, bk, hg, b⟩
    have B8 := Lib.hid (B7.out.trans (b.mono B7.out.size))
    have O8 := Lib.hid (O7.out.keep (b.block w.heap.size o7))
    have o8 := O8.out.lt
    have K8 := Lib.hid bk
    clear b bk hg y0 y1 y2 y3 y4 y5 y6 y7 y8
    try clear qn zs0 zs1
    try clear z0' z1' zd0 zd1
    try clear B7 O7 o7 S7
    go_wp2
    go_loopw [3, 5] (fun v i wr => Below w8.heap.size w8 wr ∧ ∃ j : Nat, j ≤ c ∧ i = .int .i64 j ∧ v = .string ⟨(P ++ tn s j).toArray⟩) (fun _ i _ => c - (intOf i).toNat)
    case atStart => exact ⟨Below.refl _ _, 0, by omega, rfl, VS.out⟩
    case round =>
      obtain ⟨hB, j, hj, rfl, rfl⟩ := hrel
      have BB := Lib.hid hB
      have BW := Lib.hid (B8.out.trans (hB.mono B8.out.size))
      have OW := Lib.hid (O8.out.keep (hB.block w.heap.size o8))
      have KW := Lib.hid (K8.out.below hB K8.out.lt)
      have ow := OW.out.lt
      have y0 := OW.out.c0
      clear hB
      by_cases hlt : j < c
      · have u1 : decide ((j : Int) < (c : Int)) = true := by simp; omega
        have u1' : decide (j < c) = true := by simp; omega
        have SM := HN.out j hlt
        obtain ⟨xn, hxn⟩ : ∃ xn : Nat, (nums s).getD j 0 = (xn : Int) := ⟨((nums s).getD j 0).toNat, by have := SM.1; omega⟩
        have x1 : xn ≤ 1000000000000 := by have := SM.2; omega
        have TL := tn_len (s := s) j (fun i hi => HN.out i (by omega))
        have ST := Lib.hid (show (⟨(P ++ tn s j).toArray⟩ : ByteArray) ++ ⟨#[32]⟩ ++ ⟨(Lib.decDigits xn).toArray⟩ = ⟨(P ++ tn s (j + 1)).toArray⟩ from by
          have e : sd ((nums s).getD j 0) = 32 :: Lib.decDigits xn := by unfold sd; rw [hxn]; rfl
          show _ = (⟨(P ++ (tn s j ++ sd ((nums s).getD j 0))).toArray⟩ : ByteArray)
          rw [e]
          exact (cat3 _ [32] _).trans (by simp))
        have QX := Lib.hid (fun W (hb : Below wr.heap.size wr W) => show W.cell? ⟨g2, j, none⟩ = some (.int .i64 (xn : Int)) from by rw [← hxn]; exact (KW.out.below hb KW.out.lt).cell j (by omega))
        have DL := dec.dig_len xn
        obtain ⟨Q, hQ⟩ : ∃ Q, Q = P ++ tn s j := ⟨_, rfl⟩
        have QL : Q.length ≤ 7000000000000 := by rw [hQ, List.length_append]; omega
        have qs : (⟨Q.toArray⟩ : ByteArray).size ≤ 7000000000000 := QL
        rw [← hQ] at ST ⊢
        clear hQ TL SM hxn
        go_wp2_with fail
        refine (C6.out _).mono ?_
        rintro e w1 ⟨rfl, b1⟩
        have qx := QX.out w1 b1
        have B1 := Lib.hid (BB.out.trans (b1.mono BB.out.size))
        clear b1
        go_wp2_with fail
        refine (dec.l1Dec xn _ (by omega)).mono ?_
        rintro e w2 ⟨rfl, b2⟩
        have B2 := Lib.hid (B1.out.trans (b2.mono B1.out.size))
        clear b2 qx
        go_wp2
        go_roundw
        case rel => exact ⟨B2.out, j + 1, by omega, by go_num, dec.val_str ST.out⟩
        case measure => simp [intOf]; omega
      · have u1 : decide ((j : Int) < (c : Int)) = false := by simp; omega
        have u1' : decide (j < c) = false := by simp; omega
        obtain rfl : j = c := by omega
        have TL := tn_len (s := s) j (fun i hi => HN.out i hi)
        obtain ⟨Q, hQ⟩ : ∃ Q, Q = P ++ tn s j := ⟨_, rfl⟩
        have HQ := Lib.hid hQ
        have QL : Q.length ≤ 7000000000000 := by rw [hQ, List.length_append]; omega
        rw [← hQ]
        clear hQ TL
        go_wp2_with fail
        refine (C6.out _).mono ?_
        rintro e w1 ⟨rfl, b1⟩
        have B1 := Lib.hid (BW.out.trans (b1.mono BW.out.size))
        have O1 := Lib.hid (OW.out.keep (b1.block w.heap.size ow))
        have o1 := O1.out.lt
        clear b1 y0
        go_wp2
        go_loopw [3, 6] (fun v i wr => Below w1.heap.size w1 wr ∧ ∃ q : Nat, q ≤ n ∧ i = .int .i64 q ∧ v = .string ⟨(Q ++ ti l q).toArray⟩) (fun _ i _ => n - (intOf i).toNat)
        case atStart => exact ⟨Below.refl _ _, 0, by omega, rfl, dec.val_str (by simp [ti])⟩
        case round =>
          obtain ⟨hB2, q, hq2, rfl, rfl⟩ := hrel
          have BB2 := Lib.hid hB2
          have BW2 := Lib.hid (B1.out.trans (hB2.mono B1.out.size))
          have O2 := Lib.hid (O1.out.keep (hB2.block w.heap.size o1))
          have o2 := O2.out.lt
          have y8 := O2.out.c8
          clear hB2 u1 u1'
          by_cases hlt2 : q < n
          · have HLT := Lib.hid (show q < l.length from by rw [← HNZ.out]; exact hlt2)
            obtain rfl := ea (by omega)
            clear ea
            have RK := Lib.hid (fun W (hb : Below w.heap.size w W) => (R.out.keep (w' := W) fun h => hb.block gi (R.out.lt h)).cells q HLT.out)
            have SM := HI.out q HLT.out
            obtain ⟨x, hx⟩ : ∃ x, x = l.getD q four.zz := ⟨_, rfl⟩
            have HX := Lib.hid hx
            rw [← hx] at RK SM
            clear hx
            obtain ⟨xa, xb, xc, xd⟩ := x
            dsimp only at SM
            obtain ⟨na, hna⟩ : ∃ na : Nat, xa = (na : Int) := ⟨xa.toNat, by have := SM.1.1; omega⟩
            obtain ⟨nb, hnb⟩ : ∃ nb : Nat, xb = (nb : Int) := ⟨xb.toNat, by have := SM.2.1; omega⟩
            subst hna
            subst hnb
            have s1 : na ≤ 1000000000000 := by have := SM.1.2; omega
            have s2 : nb ≤ 1000000000000 := by have := SM.2.2; omega
            have TL := ti_len (l := l) q (fun i hi => HI.out i (by have := HLT.out; omega))
            have ST := Lib.hid (show (⟨(Q ++ ti l q).toArray⟩ : ByteArray) ++ ⟨#[32]⟩ ++ ⟨(Lib.decDigits na).toArray⟩ ++ ⟨#[120]⟩ ++ ⟨(Lib.decDigits nb).toArray⟩ = ⟨(Q ++ ti l (q + 1)).toArray⟩ from by
              have e : si (l.getD q four.zz) = 32 :: (Lib.decDigits na ++ 120 :: Lib.decDigits nb) := by rw [← HX.out]; rfl
              show _ = (⟨(Q ++ (ti l q ++ si (l.getD q four.zz))).toArray⟩ : ByteArray)
              rw [e, show (⟨#[32]⟩ : ByteArray) = ⟨[32].toArray⟩ from rfl, show (⟨#[120]⟩ : ByteArray) = ⟨[120].toArray⟩ from rfl, dec.cat, dec.cat, dec.cat, dec.cat]
              simp)
            have D1 := dec.dig_len na
            have D2 := dec.dig_len nb
            obtain ⟨Z, hZ⟩ : ∃ Z, Z = Q ++ ti l q := ⟨_, rfl⟩
            have ZL : Z.length ≤ 30000000000000 := by rw [hZ, List.length_append]; omega
            have zs : (⟨Z.toArray⟩ : ByteArray).size ≤ 30000000000000 := ZL
            rw [← hZ] at ST ⊢
            clear hZ TL SM
            have FK := Lib.hid (fun W (hb : Below wr.heap.size wr W) => show W.cell? ⟨w.heap.size, 8, none⟩ = some (.slice (some ⟨gi, 0, none⟩) n ci) ∧ W.cell? ⟨gi, q * 4, none⟩ = some (.int .i64 (na : Int)) ∧ W.cell? ⟨gi, q * 4 + 1, none⟩ = some (.int .i64 (nb : Int)) from
              ⟨(O2.out.keep (hb.block w.heap.size o2)).c8, by obtain ⟨x1, -, -, -⟩ := RK.out W (BW2.out.trans (hb.mono BW2.out.size)); simpa using x1, by obtain ⟨-, x2, -, -⟩ := RK.out W (BW2.out.trans (hb.mono BW2.out.size)); simpa using x2⟩)
            have F0 := Lib.hid (FK.out wr (Below.refl _ _))
            have bd := (Below.refl wr.heap.size wr).drew
            have BD := Lib.hid bd
            have FD := Lib.hid (FK.out wr.drew bd)
            have zz1 : (q : Int) < (n : Int) := by omega
            have v1 : decide (q < n) = true := by simp; omega
            have v2 : decide ((q : Int) < (n : Int)) = true := by simp; omega
            clear bd y8
            have y8 := F0.out.1
            have h1 : (⟨Z.toArray⟩ : ByteArray).size ≤ 30000000000000 := ZL
            have h2 : (⟨(Lib.decDigits na).toArray⟩ : ByteArray).size ≤ 1000000000001 := by show (Lib.decDigits na).length ≤ _; omega
            have h3 : (⟨(Lib.decDigits nb).toArray⟩ : ByteArray).size ≤ 1000000000001 := by show (Lib.decDigits nb).length ≤ _; omega
            obtain ⟨A1, hA1⟩ : ∃ A, A = (⟨Z.toArray⟩ : ByteArray) ++ ⟨#[32]⟩ := ⟨_, rfl⟩
            obtain ⟨A2, hA2⟩ : ∃ A, A = A1 ++ (⟨(Lib.decDigits na).toArray⟩ : ByteArray) := ⟨_, rfl⟩
            obtain ⟨A3, hA3⟩ : ∃ A, A = A2 ++ (⟨#[120]⟩ : ByteArray) := ⟨_, rfl⟩
            obtain ⟨A4, hA4⟩ : ∃ A, A = A3 ++ (⟨(Lib.decDigits nb).toArray⟩ : ByteArray) := ⟨_, rfl⟩
            have g1 : A1.size ≤ 30000000000001 := by rw [hA1, ByteArray.size_append]; have : (⟨#[32]⟩ : ByteArray).size = 1 := rfl; omega
            have g2 : A2.size ≤ 31000000000002 := by rw [hA2, ByteArray.size_append]; omega
            have g3 : A3.size ≤ 31000000000003 := by rw [hA3, ByteArray.size_append]; have : (⟨#[120]⟩ : ByteArray).size = 1 := rfl; omega
            have r1 : ∀ W, Sem.run Tryd.prog (Op.stringOp .add (⟨Z.toArray⟩ : ByteArray) ⟨#[32]⟩) W = .ok (.string A1) W := fun W => by rw [hA1]; exact run_string_add_sum W _ _ (by have : (⟨#[32]⟩ : ByteArray).size = 1 := rfl; omega)
            have r2 : ∀ W, Sem.run Tryd.prog (Op.stringOp .add A1 ⟨(Lib.decDigits na).toArray⟩) W = .ok (.string A2) W := fun W => by rw [hA2]; exact run_string_add_sum W _ _ (by omega)
            have r3 : ∀ W, Sem.run Tryd.prog (Op.stringOp .add A2 ⟨#[120]⟩) W = .ok (.string A3) W := fun W => by rw [hA3]; exact run_string_add_sum W _ _ (by have : (⟨#[120]⟩ : ByteArray).size = 1 := rfl; omega)
            have r4 : ∀ W, Sem.run Tryd.prog (Op.stringOp .add A3 ⟨(Lib.decDigits nb).toArray⟩) W = .ok (.string A4) W := fun W => by rw [hA4]; exact run_string_add_sum W _ _ (by omega)
            have ST4 := Lib.hid (show A4 = ⟨(Q ++ ti l (q + 1)).toArray⟩ from by rw [hA4, hA3, hA2, hA1]; exact ST.out)
            clear hA1 hA2 hA3 hA4 h1 h2 h3 g1 g2 g3 zs ZL D1 D2 ST
            go_wp2_with fail
            go_region_held3 (fun w' => w'.cell? ⟨w.heap.size, 8, none⟩ = some (.slice (some ⟨gi, 0, none⟩) n ci) ∧ w'.cell? ⟨gi, q * 4, none⟩ = some (.int .i64 (na : Int)) ∧ w'.cell? ⟨gi, q * 4 + 1, none⟩ = some (.int .i64 (nb : Int))) (first | exact F6.out | exact F5.out | exact FD.out | exact F0.out | go_keep)
              (first
                | (go_at_call 66; refine (dec.l1Dec nb w5 (by omega)).mono ?_; rintro e w6 ⟨rfl, b6⟩; have B6 := Lib.hid (B5.out.trans (b6.mono B5.out.size)); have F6 := Lib.hid (FK.out w6 B6.out); clear b6)
                | (go_at_call 66; refine (dec.l1Dec na wr.drew (by omega)).mono ?_; rintro e w5 ⟨rfl, b5⟩; have B5 := Lib.hid (BD.out.trans (b5.mono BD.out.size)); have F5 := Lib.hid (FK.out w5 B5.out); clear b5))
            all_goals
              go_wp2
              go_roundw
              case rel => exact ⟨BB2.out.trans (B6.out.mono BB2.out.size), q + 1, by omega, by go_num, dec.val_str ST4.out⟩
              case measure => simp [intOf]; omega
          · have v1 : decide (q < n) = false := by simp; omega
            have v2 : decide ((q : Int) < (n : Int)) = false := by simp; omega
            obtain rfl : q = n := by omega
            have FI := Lib.hid (show (⟨(Q ++ ti l q).toArray⟩ : ByteArray) = ⟨T.toArray⟩ from by rw [HT.out, HQ.out]; unfold txt; rw [← HC.out, ← HNZ.out, HP.out])
            go_wp2
            go_ret
            exact ⟨by rw [← FI.out]; rfl, BW2.out⟩
end Go.Proofs.YtcpglphhhmgjkaaDoor.cm
