/-
  Plain helpers of this seat's proofs: the landed CmdText. Conditions: none.
-/
import Derived.Test.YtcpglphhhmgjkaaDoorWrd
import Derived.Test.YtcpglphhhmgjkaaDoorCoK
namespace Go.Proofs.YtcpglphhhmgjkaaDoor.cm
open Go.ChangeShapes Go.WideShapes Go.ChangeAt Go.RowKit
open gen
open four (F4)
theorem WI.fin {w w0 wr : World} {N g : Nat} {ls : List (List UInt8)} {v : Value} (h : WI w w0 N g ls v wr) : ∃ g' cap, v = .slice (some ⟨g', 0, none⟩) ls.length cap ∧ g' < wr.heap.size ∧ ls.length ≤ cap ∧ ∀ (j : Nat) x, (ls.map fun d => (⟨d.toArray⟩ : ByteArray))[j]? = some x → wr.cell? ⟨g', 0 + j, none⟩ = some (.string x) := by
  rcases h.own.2 with ⟨e, _⟩ | ⟨g', cap, cur, e, hg, hh, hn, hm, hs, ht⟩
  · exact absurd e h.live
  · subst e
    refine ⟨g', cap, rfl, (Array.getElem?_eq_some_iff.1 hh).1, hn, fun j x hx => ?_⟩
    have q : (cur.toList.take (ls.length * 1))[j]? = (sts ls)[j]? := by rw [ht]
    have hj : j < ls.length := by
      have := (List.getElem?_eq_some_iff.1 hx).1
      simpa using this
    rw [List.getElem?_take, if_pos (by omega)] at q
    have e2 : (sts ls)[j]? = some (.string x) := by
      unfold sts
      rw [List.getElem?_map] at hx ⊢
      cases hl : ls[j]? with
      | none => rw [hl] at hx; cases hx
      | some y => rw [hl] at hx; injection hx with hx; subst hx; rfl
    unfold World.cell?
    simp [hh, ← Array.getElem?_toList, q, e2]
theorem txt_len {s : Sc} {l : List F4} (h : ok s l = true) : (txt s l).length ≤ 22000000001000 := by
  obtain ⟨q1, q2, q3, q4, q5⟩ := ok_small h
  have h1 := tn_len (cnt s.k) q4
  have h2 := ti_len l.length q5
  have h3 := cnt_le s.k q1
  have h4 := nw_len s.k
  have h5 : s.key.data.toList.length ≤ 12 := q2
  unfold txt
  simp only [List.length_append, List.length_cons]
  have : cnt s.k * 1000000000002 ≤ 6 * 1000000000002 := Nat.mul_le_mul_right _ h3
  have : l.length * 2000000000004 ≤ 8 * 2000000000004 := Nat.mul_le_mul_right _ q3
  omega
theorem nums_len (s : Sc) : (nums s).length = 6 := rfl
theorem mk_key (q : ByteArray) : (⟨q.data.toList.toArray⟩ : ByteArray) = q := by
  apply ByteArray.ext
  simp
theorem joinW {w w0 wr : World} {N g : Nat} {v : Value} {s : Sc} {l : List F4} (h : WI w w0 N g (wi s l l.length) v wr) (hk : ok s l = true) : ∃ g' n cap, v = .slice (some ⟨g', 0, none⟩) n cap ∧
    Calls Tryd.prog 38 #[.slice (some ⟨g', 0, none⟩) n cap, .string ⟨#[32]⟩] wr fun e w' => e = .returned (.string ⟨(txt s l).toArray⟩) ∧ Below wr.heap.size wr w' := by
  obtain ⟨g', cap, e, lg, hc, CELL⟩ := h.fin
  refine ⟨g', _, cap, e, ?_⟩
  have XM : ((wi s l l.length).map fun d => (⟨d.toArray⟩ : ByteArray)).map (·.data.toList) = wi s l l.length := by
    rw [List.map_map]
    have : ((fun x : ByteArray => x.data.toList) ∘ fun d : List UInt8 => (⟨d.toArray⟩ : ByteArray)) = id := by funext d; simp
    rw [this, List.map_id]
  have LN : ((wi s l l.length).map fun d => (⟨d.toArray⟩ : ByteArray)).length = (wi s l l.length).length := List.length_map ..
  have WL := wi_len s l l.length
  obtain ⟨q1, q2, q3, q4, q5⟩ := ok_small hk
  have cl := cnt_le s.k q1
  have TL := txt_len hk
  have S : (⟨#[32]⟩ : ByteArray).data.toList = [32] := rfl
  have J := Tryd.strings_Join g' 0 cap ((wi s l l.length).map fun d => (⟨d.toArray⟩ : ByteArray)) ⟨#[32]⟩ wr CELL lg (by rw [LN]; omega) (by rw [LN]; exact hc) (by rw [XM, S, join_txt]; omega)
  rw [LN, XM, S, join_txt] at J
  exact J
theorem infoW' : (Tryd.prog.info? 9).map (fun i => (i.zero, i.size, i.bytes)) = some (some (.string ⟨#[]⟩), 1, 16) := infoW
set_option maxRecDepth 100000 in
set_option maxHeartbeats 8000000 in
theorem ctI (w : World) (s : Sc) (ai : Option Addr) (ci gi : Nat) (l : List F4) (r : four.Row w ai ci gi l) (hf : Frm w) (hn : Nms w) (hp : Pow w) (hP : 1 < w.heap.size) (hl : l.length ≤ 1048576) (hk : s.key.size ≤ 1048576) :
    Calls Tryd.prog 13 #[.agg #[.int .i64 s.k, .string s.key, .int .i64 s.a, .int .i64 s.b, .int .i64 s.c, .int .i64 s.d, .int .i64 s.e, .int .i64 s.f, .slice ai l.length ci]] w fun e w' => e = .returned (.string ⟨(ctx s l).toArray⟩) ∧ Below w.heap.size w w' := by
  have HR := Lib.hid (fun W (hb : Below w.heap.size w W) => r.keep (w' := W) fun h => hb.block gi (r.lt h))
  have HF := Lib.hid (fun W (hb : Below w.heap.size w W) => hf.below hb hf.lt)
  have HN := Lib.hid (fun W (hb : Below w.heap.size w W) => hn.below hb hn.lt)
  have HP := Lib.hid (fun W (hb : Below w.heap.size w W) => Pow.below hp hb hP)
  have LP := Lib.hid hP
  have e1 := r.addr
  have RLT := Lib.hid r.lt
  clear r hf hn hp hP
  have C1 := Lib.hid (fun W hb => okI W s ai ci gi l (HR.out W hb) (HF.out W hb) hl hk)
  have B0 := Lib.hid (show Below w.heap.size w (w.alloc (.cells #[.int .i64 s.k, .string s.key, .int .i64 s.a, .int .i64 s.b, .int .i64 s.c, .int .i64 s.d, .int .i64 s.e, .int .i64 s.f, .slice ai l.length ci] 29)) from bAl (Below.refl _ _) (Nat.le_refl _) _)
  have O0 := Lib.hid (CB.new w s ai l.length ci 29)
  cases tk : ok s l
  · have V := Lib.hid (show ctx s l = [] from by unfold ctx; rw [tk]; rfl)
    rw [tk] at C1
    go_enter Tryd.func13, Tryd.ntmps13
    go_wp2_with fail
    refine (C1.out _ B0.out).mono ?_
    rintro e w1 ⟨rfl, b⟩
    have B1 := Lib.hid (B0.out.trans (b.mono B0.out.size))
    clear b
    go_wp2
    go_ret
    exact ⟨by rw [V.out]; rfl, B1.out⟩
  · have V := Lib.hid (show ctx s l = txt s l from by unfold ctx; rw [if_pos tk])
    have OK := Lib.hid tk
    obtain ⟨q1, q2, q3, q4, q5⟩ := ok_small tk
    have SM := Lib.hid q4
    have SI := Lib.hid q5
    rw [tk] at C1
    have cl := cnt_le s.k q1
    have k0 : 1 ≤ s.k ∧ s.k ≤ 13 := by unfold inR at q1; simp at q1; omega
    obtain ⟨kn, hkn⟩ : ∃ kn : Nat, kn = s.k.toNat := ⟨_, rfl⟩
    have KN := Lib.hid (show s.k = (kn : Int) by omega)
    have kn1 : 1 ≤ kn := by omega
    have kn2 : kn ≤ 13 := by omega
    have QF := Lib.hid (show ∀ W, Frm W → W.cell? ⟨0, kn * 2 + 1, none⟩ = some (.int .i64 (cnt s.k : Nat)) from fun W h => by
      have := h.at s.k q1
      rw [← hkn, Nat.mul_comm] at this
      exact this)
    have QN := Lib.hid (show ∀ W, Nms W → W.cell? ⟨0, kn * 2, none⟩ = some (.string ⟨(nw s.k).toArray⟩) from fun W h => by
      have := h.at s.k q1
      rw [← hkn, Nat.mul_comm] at this
      exact this)
    obtain ⟨c, hc⟩ : ∃ c, c = cnt s.k := ⟨_, rfl⟩
    have HC := Lib.hid hc
    obtain ⟨n, hnz⟩ : ∃ n, n = l.length := ⟨_, rfl⟩
    have HNZ := Lib.hid hnz
    rw [← hnz] at C1 O0 B0 q3 e1 ⊢
    obtain ⟨nm, hnm⟩ : ∃ nm, nm = (⟨(nw s.k).toArray⟩ : ByteArray) := ⟨_, rfl⟩
    have HNM := Lib.hid hnm
    rw [← hc] at cl QF
    rw [← hnm] at QN
    clear hc hnm hkn hnz k0 q1 q2 q4 q5 tk hk hl
    go_enter Tryd.func13, Tryd.ntmps13
    go_wp2_with fail
    refine (C1.out _ B0.out).mono ?_
    rintro e w1 ⟨rfl, b⟩
    have B1 := Lib.hid (B0.out.trans (b.mono B0.out.size))
    have O1 := Lib.hid (O0.out.keep (b.block w.heap.size O0.out.lt))
    have y0 := O1.out.c0
    have y1 := O1.out.c1
    rw [KN.out] at y0
    have yf := QF.out _ (HF.out _ B1.out)
    have yn := QN.out _ (HN.out _ B1.out)
    clear b B0 O0
    have FM := Lib.hid (fun W (hb : Below (w1.heap.size + 1) (w1.alloc (.cells #[.string nm, .int .i64 (c : Int)] 54)) W) => show W.cell? ⟨w1.heap.size, 0, none⟩ = some (.string nm) ∧ W.cell? ⟨w1.heap.size, 1, none⟩ = some (.int .i64 (c : Int)) from ⟨box_cell hb 0 rfl, box_cell hb 1 rfl⟩)
    have X2 := Lib.hid (box_refl w1 (.cells #[.string nm, .int .i64 (c : Int)] 54))
    have O2 := Lib.hid (O1.out.keep (w' := w1.alloc (.cells #[.string nm, .int .i64 (c : Int)] 54)) (Below.heap_alloc w1 _ _ O1.out.lt))
    have B2 := Lib.hid (bAl B1.out (Nat.le_refl _) (.cells #[.string nm, .int .i64 (c : Int)] 54))
    have z2 : (w1.alloc (.cells #[.string nm, .int .i64 (c : Int)] 54)).heap.size = w1.heap.size + 1 := by simp only [sz_al]
    have y1' := O2.out.c1
    obtain ⟨f0, f1⟩ := FM.out _ X2.out
    clear y1
    go_wp2_with fail
    clear yf yn y0 y1' f0 f1 FM
    have FM := Lib.hid (fun W (hb : Below (w1.heap.size + 1) (w1.alloc (.cells #[.string nm, .int .i64 (c : Int)] 54)) W) => show W.cell? ⟨w1.heap.size, 1, none⟩ = some (.int .i64 (c : Int)) from box_cell hb 1 rfl)
    have X3 := Lib.hid (box_al X2.out (.cells #[.string s.key, .string nm] 9))
    have O3 := Lib.hid (O2.out.keep (w' := ((w1.alloc (.cells #[.string nm, .int .i64 (c : Int)] 54)).alloc (.cells #[.string s.key, .string nm] 9))) (Below.heap_alloc _ _ _ O2.out.lt))
    have B3 := Lib.hid (bAl B2.out (Nat.le_refl _) (.cells #[.string s.key, .string nm] 9))
    have z3 : ((w1.alloc (.cells #[.string nm, .int .i64 (c : Int)] 54)).alloc (.cells #[.string s.key, .string nm] 9)).heap.size = w1.heap.size + 1 + 1 := by simp only [sz_al]
    have G3 : ((w1.alloc (.cells #[.string nm, .int .i64 (c : Int)] 54)).alloc (.cells #[.string s.key, .string nm] 9)).heap[w1.heap.size + 1]? = some (.cells #[.string s.key, .string nm] 9) := by
      have := heap_alloc_new (w1.alloc (.cells #[.string nm, .int .i64 (c : Int)] 54)) (.cells #[.string s.key, .string nm] 9)
      rwa [z2] at this
    refine (numbersI s ai n ci _ w.heap.size O3.out).mono ?_
    rintro e w4 ⟨rfl, b4⟩
    have z4 := b4.size
    have X5 := Lib.hid (box_al (X3.out.trans (b4.mono (by omega))) (.cells #[.int .i64 s.a, .int .i64 s.b, .int .i64 s.c, .int .i64 s.d, .int .i64 s.e, .int .i64 s.f] 57))
    have B5 := Lib.hid (bAl (B3.out.trans (b4.mono B3.out.size)) (Nat.le_refl _) (.cells #[.int .i64 s.a, .int .i64 s.b, .int .i64 s.c, .int .i64 s.d, .int .i64 s.e, .int .i64 s.f] 57))
    have lw1 := O1.out.lt
    have O5 := Lib.hid ((O3.out.keep (b4.block _ (by omega))).keep (w' := (w4.alloc (.cells #[.int .i64 s.a, .int .i64 s.b, .int .i64 s.c, .int .i64 s.d, .int .i64 s.e, .int .i64 s.f] 57))) (Below.heap_alloc _ _ _ (by omega)))
    have KK := Lib.hid ((Blk.new w4 #[.int .i64 s.a, .int .i64 s.b, .int .i64 s.c, .int .i64 s.d, .int .i64 s.e, .int .i64 s.f] 57 6 rfl).lit (A' := nA s) (fun i hi => by
      match i, hi with
      | 0, _ => rfl
      | 1, _ => rfl
      | 2, _ => rfl
      | 3, _ => rfl
      | 4, _ => rfl
      | 5, _ => rfl))
    have G5 := Lib.hid (show (w4.alloc (.cells #[.int .i64 s.a, .int .i64 s.b, .int .i64 s.c, .int .i64 s.d, .int .i64 s.e, .int .i64 s.f] 57)).heap[w1.heap.size + 1]? = some (.cells #[.string s.key, .string nm] 9) from (Below.heap_alloc _ _ _ (by omega)).trans ((b4.block _ (by omega)).trans G3))
    have z5 : (w4.alloc (.cells #[.int .i64 s.a, .int .i64 s.b, .int .i64 s.c, .int .i64 s.d, .int .i64 s.e, .int .i64 s.f] 57)).heap.size = w4.heap.size + 1 := by simp only [sz_al]
    have f1 := FM.out _ X5.out
    have SL := sl6h (w4.alloc (.cells #[.int .i64 s.a, .int .i64 s.b, .int .i64 s.c, .int .i64 s.d, .int .i64 s.e, .int .i64 s.f] 57)) w4.heap.size c cl
    clear b4 O1 O2 O3 B1 B2 B3 X2 X3 G3 FM
    go_wp2_with fail
    clear SL f1 X5
    obtain ⟨r, hr⟩ : ∃ r, r = w4.heap.size := ⟨_, rfl⟩
    obtain ⟨g, hg⟩ : ∃ g, g = w1.heap.size + 1 := ⟨_, rfl⟩
    rw [← hr] at KK z5 ⊢
    rw [← hg] at G5 ⊢
    have GG := Lib.hid (show w.heap.size ≤ g by omega)
    have GN := Lib.hid (show w.heap.size ≠ g by omega)
    have GR := Lib.hid (show r ≠ g by omega)
    generalize (w4.alloc (.cells #[.int .i64 s.a, .int .i64 s.b, .int .i64 s.c, .int .i64 s.d, .int .i64 s.e, .int .i64 s.f] 57)) = W5 at B5 O5 KK G5 z5 ⊢
    have GG2 := Lib.hid (show g ≤ W5.heap.size by omega)
    have RR := Lib.hid (show r < W5.heap.size by omega)
    have NW := Lib.hid B5.out.size
    have I0 : Hid (WI w W5 W5.heap.size g (wn s 0) (.slice (some ⟨g, 0, none⟩) 2 2) W5) := Lib.hid ⟨B5.out, Nat.le_refl _, fun _ _ _ => rfl, ⟨rfl, .inr ⟨g, 2, _, rfl, Nat.le_refl _, G5.out, by rw [wn_len]; exact Nat.le_refl _, by decide, rfl, by
      show [Value.string s.key, Value.string nm] = [Value.string ⟨s.key.data.toList.toArray⟩, Value.string ⟨(nw s.k).toArray⟩]
      rw [mk_key, HNM.out]⟩⟩, fun k e => .inl (by injection e with e; exact e.symm), fun h => by injection h with h; cases h⟩
    obtain ⟨iS, hi, hz0, hz1, hz2⟩ := info_parts infoW
    have INF := Lib.hid (And.intro hi (And.intro hz0 (And.intro hz1 hz2)))
    clear hi hz0 hz1 hz2 hr hg z3 z4 z2 z5 lw1 G5
    have K3 := Lib.hid q3
    clear q3
    go_loopw [4, 27] (fun v i wr => ∃ k : Nat, k ≤ c ∧ i = .int .i64 k ∧ Hid (WI w W5 W5.heap.size g (wn s k) v wr)) (fun _ i _ => c - (intOf i).toNat)
    case atStart => exact ⟨0, by omega, rfl, I0⟩
    case round =>
      obtain ⟨k, hk, rfl, HI⟩ := hrel
      by_cases hlt : k < c
      · have d1 : decide ((k : Int) < (c : Int)) = true := by simp; omega
        have d1' : decide (k < c) = true := by simp; omega
        have z6 : (k : Int) < (c : Int) := by omega
        obtain ⟨sm1, sm2⟩ := SM.out k (by rw [← HC.out]; exact hlt)
        obtain ⟨m, hm⟩ : ∃ m : Nat, m = ((nums s).getD k 0).toNat := ⟨_, rfl⟩
        have MV : (nums s).getD k 0 = (m : Int) := by omega
        have m1 : m ≤ 1000000000000 := by omega
        have qx : wr.cell? ⟨r, k, none⟩ = some (.int .i64 (m : Int)) := by
          rw [← MV]; exact (KK.out.keep (HI.out.old r RR.out GR.out) HI.out.sz).cell k (by omega)
        have ND := Lib.hid (show nwd s k = Lib.decDigits m from by unfold nwd; rw [hm])
        have C := Lib.hid (fmtI m wr m1 (HP.out wr HI.out.bw))
        clear hm MV sm1 sm2
        go_wp2_with fail
        refine C.out.mono ?_
        rintro e w6 ⟨rfl, b6⟩
        have I6 := Lib.hid ((HI.out.stay b6).stay (wr' := w6.alloc (.cells #[.string ⟨(Lib.decDigits m).toArray⟩] 9)) (bAl (Below.refl _ _) (Nat.le_refl _) _))
        have NEWS := Lib.hid (cell_one_new w6 (.string ⟨(Lib.decDigits m).toArray⟩) 9)
        have N63 := Lib.hid (show (wn s k).length + 1 ≤ maxLen from by rw [wn_len]; unfold maxLen; omega)
        have NBY := Lib.hid (show ((wn s k).length + 1) * 16 ≤ 140737488355328 from by rw [wn_len]; omega)
        have S6 := Lib.hid (show g ≤ (w6.alloc (.cells #[.string ⟨(Lib.decDigits m).toArray⟩] 9)).heap.size from by have := GG2.out; have := HI.out.sz; have := b6.size; simp only [sz_al]; omega)
        clear b6 HI
        clear C qx
        obtain ⟨hi, hz0, hz1, hz2⟩ := INF.out
        go_wp2_with (at_builtin; refine wpList_append_own_at _ rfl _ _ 56 rfl g 9 iS (.string ⟨#[]⟩) 1 16 Tryd.underlying56 hi hz0 hz1 hz2 rfl (by decide) _ _ _ rfl I6.out.own ⟨w6.heap.size, 0, none⟩ 1 1 [.string ⟨(Lib.decDigits m).toArray⟩] rfl rfl NEWS.out (fun u hu => by simp at hu; subst hu; rfl) N63.out NBY.out S6.out ?_)
        intro v7 w7 hown7 hgrow7 hnil7 hat7
        have I7 := Lib.hid (I6.out.app GG.out NW.out (x := Lib.decDigits m) hown7 hgrow7 (fun h => by first | exact hnil7 h | (have := (hnil7.1 h).2; omega)) (by first | exact hat7 | (rw [sz_al]; exact hat7)))
        clear hown7 hgrow7 hnil7 hat7 hi hz0 hz1 hz2 I6 NEWS N63 NBY S6
        go_wp2
        go_roundw
        case rel => exact ⟨k + 1, by omega, by go_num, by rw [wn_succ, ND.out]; exact I7⟩
        case measure => simp [intOf]; omega
      · have d1 : decide ((k : Int) < (c : Int)) = false := by simp; omega
        have d1' : decide (k < c) = false := by simp; omega
        obtain rfl : k = c := by omega
        have y8 := (O5.out.keep (HI.out.old w.heap.size (by have := GG.out; have := GN.out; have := GG2.out; omega) GN.out)).c8
        go_wp2_with fail
        clear y8
        have I1 := Lib.hid (show WI w W5 W5.heap.size g (wi s l 0) _ wr from by
          have e : wi s l 0 = wn s k := by unfold wi; rw [HC.out]; simp
          rw [e]; exact HI.out)
        clear HI d1 d1' hlt
        go_loopw [4, 40] (fun v i wr => ∃ j : Nat, j ≤ n ∧ i = .int .i64 j ∧ Hid (WI w W5 W5.heap.size g (wi s l j) v wr)) (fun _ i _ => n - (intOf i).toNat)
        case atStart => exact ⟨0, by omega, rfl, I1⟩
        case round =>
          obtain ⟨j, hj, rfl, HI⟩ := hrel
          by_cases hlt : j < n
          · have d1 : decide ((j : Int) < (n : Int)) = true := by simp; omega
            have d1' : decide (j < n) = true := by simp; omega
            have z6 : (j : Int) < (n : Int) := by omega
            have n8 : n ≤ 8 := K3.out
            have jl := Lib.hid (show j < l.length from by rw [← HNZ.out]; exact hlt)
            obtain rfl := e1 (by omega)
            obtain ⟨⟨sa1, sa2⟩, sb1, sb2⟩ := SI.out j jl.out
            have q1 := (HR.out wr HI.out.bw).cells j jl.out
            have WS := Lib.hid (wi_succ s l j)
            obtain ⟨x, hx⟩ : ∃ x, x = l.getD j four.zz := ⟨_, rfl⟩
            rw [← hx] at q1 WS sa1 sa2 sb1 sb2
            clear hx
            obtain ⟨xa, xb, xc, xd⟩ := x
            obtain ⟨na, rfl⟩ := Int.eq_ofNat_of_zero_le sa1
            obtain ⟨nb, rfl⟩ := Int.eq_ofNat_of_zero_le sb1
            obtain ⟨x1, x2, x3, x4⟩ := q1
            dsimp only at x1 x2 x3 x4 sa2 sb2
            have n1 : na ≤ 1000000000000 := by omega
            have n2 : nb ≤ 1000000000000 := by omega
            have ND := Lib.hid (show itd ((na : Int), (nb : Int), xc, xd) = Lib.decDigits na ++ 120 :: Lib.decDigits nb from by unfold itd; simp)
            have C := Lib.hid (fun W (hb : Below w.heap.size w W) => itI na nb xc xd W n1 n2 (HP.out W hb) (Nat.lt_of_lt_of_le LP.out hb.size))
            have BA := Lib.hid (bAl HI.out.bw (Nat.le_refl _) (.cells #[.int .i64 (na : Int), .int .i64 (nb : Int), .int .i64 xc, .int .i64 xd] 49))
            have HA := Lib.hid (HI.out.stay (wr' := wr.alloc (.cells #[.int .i64 (na : Int), .int .i64 (nb : Int), .int .i64 xc, .int .i64 xd] 49)) (bAl (Below.refl _ _) (Nat.le_refl _) _))
            clear sa1 sa2 sb1 sb2
            go_wp2_with fail
            generalize wr.alloc (.cells #[.int .i64 (na : Int), .int .i64 (nb : Int), .int .i64 xc, .int .i64 xd] 49) = W6 at BA HA ⊢
            refine (C.out _ BA.out).mono ?_
            rintro e w6 ⟨rfl, b6⟩
            clear HI
            have HI := HA
            clear HA
            have WL := wi_len s l j
            have IN := INF.out
            have I6 := Lib.hid ((HI.out.stay b6).stay (wr' := w6.alloc (.cells #[.string ⟨(Lib.decDigits na ++ 120 :: Lib.decDigits nb).toArray⟩] 9)) (bAl (Below.refl _ _) (Nat.le_refl _) _))
            have NEWS := Lib.hid (cell_one_new w6 (.string ⟨(Lib.decDigits na ++ 120 :: Lib.decDigits nb).toArray⟩) 9)
            have LB := Lib.hid (show (wi s l j).length ≤ 16 from by rw [WL]; have := K3.out; have := HC.out; omega)
            have N63 := Lib.hid (show (wi s l j).length + 1 ≤ maxLen from by have := LB.out; unfold maxLen; omega)
            have NBY := Lib.hid (show ((wi s l j).length + 1) * 16 ≤ 140737488355328 from by have := LB.out; omega)
            have S6 := Lib.hid (show g ≤ (w6.alloc (.cells #[.string ⟨(Lib.decDigits na ++ 120 :: Lib.decDigits nb).toArray⟩] 9)).heap.size from by have := GG2.out; have := HI.out.sz; have := b6.size; simp only [sz_al]; omega)
            clear b6 HI C BA x1 x2 x3 x4 WL IN
            obtain ⟨hi, hz0, hz1, hz2⟩ := INF.out
            go_wp2_with (at_builtin; refine wpList_append_own_at _ rfl _ _ 56 rfl g 9 iS (.string ⟨#[]⟩) 1 16 Tryd.underlying56 hi hz0 hz1 hz2 rfl (by decide) _ _ _ rfl I6.out.own ⟨w6.heap.size, 0, none⟩ 1 1 [.string ⟨(Lib.decDigits na ++ 120 :: Lib.decDigits nb).toArray⟩] rfl rfl NEWS.out (fun u hu => by simp at hu; subst hu; rfl) N63.out NBY.out S6.out ?_)
            intro v7 w7 hown7 hgrow7 hnil7 hat7
            have I7 := Lib.hid (I6.out.app GG.out NW.out (x := Lib.decDigits na ++ 120 :: Lib.decDigits nb) hown7 hgrow7 (fun h => by first | exact hnil7 h | (have := (hnil7.1 h).2; omega)) (by first | exact hat7 | (rw [sz_al]; exact hat7)))
            clear hown7 hgrow7 hnil7 hat7 hi hz0 hz1 hz2 I6 NEWS N63 NBY S6
            go_wp2
            go_roundw
    
            case rel => exact ⟨j + 1, by omega, by go_num, by rw [WS.out, ND.out]; exact I7⟩
            case measure => simp [intOf]; omega
          · have d1 : decide ((j : Int) < (n : Int)) = false := by simp; omega
            have d1' : decide (j < n) = false := by simp; omega
            obtain rfl : j = n := by omega
            have HI2 := HI.out
            rw [HNZ.out] at HI2
            obtain ⟨g', nn, cap, rfl, J⟩ := joinW HI2 OK.out
            have BW := Lib.hid HI.out.bw
            have JJ := Lib.hid J
            clear HI HI2 J
            go_wp2_with fail
            refine JJ.out.mono ?_
            rintro e w8 ⟨rfl, b8⟩
            have B8 := Lib.hid (BW.out.trans (b8.mono BW.out.size))
            clear b8
            go_wp2
            go_ret
            exact ⟨by first | (rw [V.out]; done) | (rw [V.out]; rfl), B8.out⟩
end Go.Proofs.YtcpglphhhmgjkaaDoor.cm
