/-
  Plain helpers of this seat's proofs: boxes of posts; the model's function that reads a post. Conditions: none.
-/
import Derived.Test.YtpogfdeioibkdaaGreatDoorSrw
import Derived.Test.YtpogfdeioibkdaaGreatDoorPte
namespace Go.Proofs.YtpogfdeioibkdaaGreatDoor.ptm
open Go.ChangeShapes Go.WideShapes Go.ChangeAt Go.RowKit
open led (F5 z5)
def cA (x : F5) (i : Nat) : Value := match i with
  | 0 => .int .i64 x.1
  | 1 => .int .i64 x.2.1
  | 2 => .int .i64 x.2.2.1
  | 3 => .int .i64 x.2.2.2.1
  | _ => .int .i64 x.2.2.2.2
/-- A box that holds a post and may be written. -/
def PF (w : World) (b : Nat) (x : F5) : Prop := five.Blk w b 5 (cA x)
theorem PF.pb {w : World} {b : Nat} {x : F5} (h : PF w b x) : PB w b x := ⟨h.cell 0 (by omega), h.cell 1 (by omega), h.cell 2 (by omega), h.cell 3 (by omega), h.cell 4 (by omega)⟩
theorem PF.new (w : World) (x : F5) (t : TypeId) : PF (w.alloc (.cells #[.int .i64 x.1, .int .i64 x.2.1, .int .i64 x.2.2.1, .int .i64 x.2.2.2.1, .int .i64 x.2.2.2.2] t)) w.heap.size x := by
  have b := five.box_refl w (.cells #[.int .i64 x.1, .int .i64 x.2.1, .int .i64 x.2.2.1, .int .i64 x.2.2.2.1, .int .i64 x.2.2.2.2] t)
  refine ⟨by rw [World.size_alloc]; omega, fun k hk => ?_, fun k => World.frozen?_alloc_new w _ _ k⟩
  match k, hk with
  | 0, _ => exact five.box_cell b 0 rfl
  | 1, _ => exact five.box_cell b 1 rfl
  | 2, _ => exact five.box_cell b 2 rfl
  | 3, _ => exact five.box_cell b 3 rfl
  | 4, _ => exact five.box_cell b 4 rfl
theorem PF.below {w w' : World} {b B : Nat} {x : F5} (h : PF w b x) (hb : Below B w w') (hB : b < B) : PF w' b x := five.Blk.below h hb hB
theorem PF.stay {w w' : World} {b : Nat} {x : F5} (h : PF w b x) (hb : Below w.heap.size w w') : PF w' b x := h.below hb h.lt
theorem PF.other {w : World} {b g k : Nat} {x : F5} (h : PF w b x) (hg : b ≠ g) (v : Value) : PF (w.setCell ⟨g, k, none⟩ v) b x := five.Blk.other h hg v
theorem same5 {w : World} {b : Nat} {A : Nat → Value} {x : F5} (h : five.Blk w b 5 A) (e0 : A 0 = .int .i64 x.1) (e1 : A 1 = .int .i64 x.2.1) (e2 : A 2 = .int .i64 x.2.2.1) (e3 : A 3 = .int .i64 x.2.2.2.1) (e4 : A 4 = .int .i64 x.2.2.2.2) : PF w b x :=
  five.Blk.same h fun k hk => by
    match k, hk with
    | 0, _ => exact e0.symm
    | 1, _ => exact e1.symm
    | 2, _ => exact e2.symm
    | 3, _ => exact e3.symm
    | 4, _ => exact e4.symm
theorem PF.s0 {w : World} {b : Nat} {x : F5} (h : PF w b x) (z : Int) : PF (w.setCell ⟨b, 0, none⟩ (.int .i64 z)) b (z, x.2.1, x.2.2.1, x.2.2.2.1, x.2.2.2.2) := same5 (five.Blk.set h (k := 0) (by omega) _) rfl rfl rfl rfl rfl
theorem PF.s1 {w : World} {b : Nat} {x : F5} (h : PF w b x) (z : Int) : PF (w.setCell ⟨b, 1, none⟩ (.int .i64 z)) b (x.1, z, x.2.2.1, x.2.2.2.1, x.2.2.2.2) := same5 (five.Blk.set h (k := 1) (by omega) _) rfl rfl rfl rfl rfl
theorem PF.s2 {w : World} {b : Nat} {x : F5} (h : PF w b x) (z : Int) : PF (w.setCell ⟨b, 2, none⟩ (.int .i64 z)) b (x.1, x.2.1, z, x.2.2.2.1, x.2.2.2.2) := same5 (five.Blk.set h (k := 2) (by omega) _) rfl rfl rfl rfl rfl
theorem PF.s4 {w : World} {b : Nat} {x : F5} (h : PF w b x) (z : Int) : PF (w.setCell ⟨b, 4, none⟩ (.int .i64 z)) b (x.1, x.2.1, x.2.2.1, x.2.2.2.1, z) := same5 (five.Blk.set h (k := 4) (by omega) _) rfl rfl rfl rfl rfl
theorem PF.all {w : World} {b : Nat} {x : F5} (h : PF w b x) (y : F5) : PF (five.w5 w b 0 y) b y := by
  have := five.Blk.put (k := 0) (n := 1) (by exact h : five.Blk w b (1 * 5) (cA x)) (by omega) y
  exact same5 this rfl rfl rfl rfl rfl
def pv (x : F5) : Value := .agg #[.int .i64 x.1, .int .i64 x.2.1, .int .i64 x.2.2.1, .int .i64 x.2.2.2.1, .int .i64 x.2.2.2.2]
theorem rdS_no1 {l : List UInt8} (h : ¬ (l.length ≤ 60 ∧ (sp l).length = 3)) : rdS l = (z5, false) := by
  unfold rdS; rw [if_neg (fun q => h q.1)]
theorem rdS_ne {l : List UInt8} (h : (txt (sP l) == l) = false) : rdS l = (z5, false) := by
  unfold rdS; rw [if_neg (fun q => by rw [q.2] at h; simp at h)]
theorem rdS_eq {l : List UInt8} (h0 : l.length ≤ 60 ∧ (sp l).length = 3) (h : (txt (sP l) == l) = true) : rdS l = (sP l, true) := by
  unfold rdS; rw [if_pos ⟨h0, by simpa using h⟩]
theorem curSl (l : List UInt8) (w : World) : Calls Tryz.prog 57 #[.string ⟨l.toArray⟩] w fun e w' => e = .returned (.int .i64 (curIx l)) ∧ Below w.heap.size w w' := by
  have := cur.curS ⟨l.toArray⟩ w
  rw [Lib.toList_data] at this
  exact this
theorem curIl (l : List UInt8) (w : World) (c : cur.Cur w) : Calls Tryz.prog 53 #[.string ⟨l.toArray⟩] w fun e w' => e = .returned (.int .i64 (curIx l)) ∧ w = w' := by
  have := cur.curI ⟨l.toArray⟩ w c
  rw [Lib.toList_data] at this
  exact this
set_option maxRecDepth 20000 in
set_option maxHeartbeats 8000000 in
theorem readS (l : List UInt8) (w : World) (hz : l.length ≤ 1048576) : Calls Tryz.prog 25 #[.string ⟨l.toArray⟩] w fun e w' => e = .returned (.tuple #[pv (rdS l).1, .bool (rdS l).2]) ∧ Below w.heap.size w w' := by
  obtain ⟨ln, hln⟩ : ∃ n, n = l.length := ⟨_, rfl⟩
  have el : (⟨l.toArray⟩ : ByteArray).size = ln := hln.symm
  have HLN := Lib.hid hln
  have B0 := Lib.hid (show Below w.heap.size w (w.alloc (.cells #[.int .i64 0, .int .i64 0, .int .i64 0, .int .i64 0, .int .i64 0] 36)) from five.bAl (Below.refl _ _) (Nat.le_refl _) _)
  have R0 := Lib.hid (show PF (w.alloc (.cells #[.int .i64 0, .int .i64 0, .int .i64 0, .int .i64 0, .int .i64 0] 36)) w.heap.size z5 from PF.new w z5 36)
  have z0 : (w.alloc (.cells #[.int .i64 0, .int .i64 0, .int .i64 0, .int .i64 0, .int .i64 0] 36)).heap.size = w.heap.size + 1 := World.size_alloc _ _
  have SP := Lib.hid (fun W => splitS l W hz)
  have NO1 := Lib.hid (fun h => rdS_no1 (l := l) h)
  have NE := Lib.hid (fun h => rdS_ne (l := l) h)
  have EQ := Lib.hid (fun h0 h => rdS_eq (l := l) h0 h)
  have SPL := Lib.hid (sp_len l).2
  have WL := Lib.hid (show ∀ k, (sW l k).length ≤ l.length from fun k => by
    unfold sW
    rw [List.getD_eq_getElem?_getD]
    by_cases h : k < (sp l).length
    · rw [List.getElem?_eq_getElem h]; exact sp_word l _ (List.getElem_mem h)
    · rw [List.getElem?_eq_none (by omega)]; simp)
  clear hln
  go_enter Tryz.func25, Tryz.ntmps25
  go_wp2_with fail
  generalize w.alloc (.cells #[.int .i64 0, .int .i64 0, .int .i64 0, .int .i64 0, .int .i64 0] 36) = W0 at B0 R0 z0 ⊢
  refine (SP.out W0).mono ?_
  rintro e w1 ⟨v, rfl, own, b1⟩
  obtain ⟨a, cap, g, rfl, row, hg⟩ := of_owns own
  have B1 := Lib.hid (B0.out.trans (b1.mono B0.out.size))
  have z1 := b1.size
  have R1 := Lib.hid (R0.out.stay b1)
  have RW := Lib.hid row
  have HG := Lib.hid hg
  clear own b1 row hg SP B0 R0
  obtain ⟨n, hn⟩ : ∃ n, n = (sp l).length := ⟨_, rfl⟩
  have HN := Lib.hid hn
  rw [← hn]
  clear hn
  have n1 : n ≤ 1048577 := by rw [HN.out]; have := SPL.out; omega
  by_cases c1 : 60 < ln
  · have t1 : decide ((60 : Int) < (ln : Int)) = true := by simp; omega
    have t1' : decide (60 < ln) = true := by simp; omega
    have N := Lib.hid (NO1.out (fun q => by have := HLN.out; omega))
    clear c1
    have FF := Lib.hid (R1.out.all (0, 0, 0, 0, 0))
    obtain ⟨r0, r1, r2, r3, r4⟩ := R1.out.pb
    have f0 := R1.out.free 0
    have f1 := R1.out.free 1
    have f2 := R1.out.free 2
    have f3 := R1.out.free 3
    have f4 := R1.out.free 4
    dsimp only [z5] at r0 r1 r2 r3 r4
    have BZ := Lib.hid (five.below_w5 B1.out (g := w.heap.size) (Nat.le_refl _) 0 (0, 0, 0, 0, 0))
    go_wp2
    change bodyPost _ _ _ _ _ (five.w5 w1 w.heap.size 0 (0, 0, 0, 0, 0))
    generalize five.w5 w1 w.heap.size 0 (0, 0, 0, 0, 0) = WZ at FF BZ ⊢
    clear r0 r1 r2 r3 r4 f0 f1 f2 f3 f4
    obtain ⟨r0, r1, r2, r3, r4⟩ := FF.out.pb
    dsimp only at r0 r1 r2 r3 r4
    refine bodyPost_ret (v := .tuple #[pv (0, 0, 0, 0, 0), .bool false]) (by simp [results, Tryz.results25, go_sem, r0, r1, r2, r3, r4, pv]) rfl ⟨?_, BZ.out⟩
    first | (rw [N.out]; done) | (rw [N.out]; rfl)
  · have t1 : decide ((60 : Int) < (ln : Int)) = false := by simp; omega
    have t1' : decide (60 < ln) = false := by simp; omega
    by_cases c2 : n = 3
    · subst c2
      have H3 := Lib.hid (show l.length ≤ 60 ∧ (sp l).length = 3 from ⟨by have := HLN.out; omega, HN.out.symm⟩)
      have ga := RW.out.addr (by have := HN.out; omega)
      subst ga
      have g1 := (HG.out (by have := HN.out; omega)).2
      have g0 := (HG.out (by have := HN.out; omega)).1
      have k0 := RW.out.cells 0 (by have := HN.out; omega)
      have k1 := RW.out.cells 1 (by have := HN.out; omega)
      have k2 := RW.out.cells 2 (by have := HN.out; omega)
      change _ = some (Value.string ⟨(sW l 0).toArray⟩) at k0
      change _ = some (Value.string ⟨(sW l 1).toArray⟩) at k1
      change _ = some (Value.string ⟨(sW l 2).toArray⟩) at k2
      have K1 := Lib.hid k1
      have K2 := Lib.hid k2
      have l0 := WL.out 0
      have l1 := WL.out 1
      have l2 := WL.out 2
      have lK : (sK l).length ≤ 60 := Nat.le_trans (cut_le 46 (sW l 0)).1 (by have := H3.out.1; omega)
      have lQ : (sQ l).length ≤ 60 := Nat.le_trans (cut_le 46 (sW l 0)).2 (by have := H3.out.1; omega)
      have lI : (sI l).length ≤ 60 := Nat.le_trans (cut_le 46 (sQ l)).1 lQ
      have lS : (sS l).length ≤ 60 := Nat.le_trans (cut_le 46 (sQ l)).2 lQ
      have C1 := Lib.hid (show ∀ W, Calls Tryz.prog 55 #[.string ⟨(sW l 0).toArray⟩, .int .u8 46] W (fun e w' => e = .returned (.tuple #[.string ⟨(sK l).toArray⟩, .string ⟨(sQ l).toArray⟩, .bool (Lib.cut (sW l 0) [46]).2.2]) ∧ Below W.heap.size W w') from fun W => cutS 46 (sW l 0) W (by omega))
      have C2 := Lib.hid (show ∀ W, Calls Tryz.prog 55 #[.string ⟨(sQ l).toArray⟩, .int .u8 46] W (fun e w' => e = .returned (.tuple #[.string ⟨(sI l).toArray⟩, .string ⟨(sS l).toArray⟩, .bool (Lib.cut (sQ l) [46]).2.2]) ∧ Below W.heap.size W w') from fun W => cutS 46 (sQ l) W (by omega))
      have C3 := Lib.hid (show ∀ W, Calls Tryz.prog 57 #[.string ⟨(sW l 1).toArray⟩] W (fun e w' => e = .returned (.int .i64 (curIx (sW l 1))) ∧ Below W.heap.size W w') from fun W => curSl (sW l 1) W)
      have N1 := Lib.hid (show ∀ W, Calls Tryz.prog 58 #[.string ⟨(sK l).toArray⟩] W (fun e w' => e = .returned (nmT (sK l)) ∧ Below W.heap.size W w') from fun W => numS (sK l) W (by omega))
      have N2 := Lib.hid (show ∀ W, Calls Tryz.prog 58 #[.string ⟨(sI l).toArray⟩] W (fun e w' => e = .returned (nmT (sI l)) ∧ Below W.heap.size W w') from fun W => numS (sI l) W (by omega))
      have N3 := Lib.hid (show ∀ W, Calls Tryz.prog 58 #[.string ⟨(sS l).toArray⟩] W (fun e w' => e = .returned (nmT (sS l)) ∧ Below W.heap.size W w') from fun W => numS (sS l) W (by omega))
      have N4 := Lib.hid (show ∀ W, Calls Tryz.prog 58 #[.string ⟨(sW l 2).toArray⟩] W (fun e w' => e = .returned (nmT (sW l 2)) ∧ Below W.heap.size W w') from fun W => numS (sW l 2) W (by omega))
      have SPe := Lib.hid (show sP l = ((nm (sK l)).1, (nm (sI l)).1, (nm (sS l)).1, curIx (sW l 1), (nm (sW l 2)).1) from rfl)
      have TX := Lib.hid (fun W => textS (sP l) W)
      obtain ⟨X, hX⟩ : ∃ X, X = sP l := ⟨_, rfl⟩
      rw [← hX] at SPe TX NE EQ
      clear hX
      unfold nmT at N1 N2 N3 N4
      generalize (nm (sK l)).1 = x0 at N1 SPe
      generalize (nm (sI l)).1 = x1 at N2 SPe
      generalize (nm (sS l)).1 = x2 at N3 SPe
      generalize (nm (sW l 2)).1 = x4 at N4 SPe
      generalize curIx (sW l 1) = x3 at C3 SPe
      have hX := SPe.out
      subst hX
      dsimp only at TX
      clear NO1 c1 k1 k2 l0 l1 l2 lK lQ lI lS SPe
      go_wp2_with fail
      refine (C1.out _).mono ?_
      rintro e w2 ⟨rfl, b2⟩
      have B2 := Lib.hid (B1.out.trans (b2.mono B1.out.size))
      have R2 := Lib.hid (R1.out.stay b2)
      have z2 := b2.size
      have K1b := Lib.hid ((b2.cell (p := ⟨g, 1, none⟩) g1).trans K1.out)
      have K2b := Lib.hid ((b2.cell (p := ⟨g, 2, none⟩) g1).trans K2.out)
      clear b2 B1 R1 k0 K1 K2
      go_wp2_with fail
      refine (C2.out _).mono ?_
      rintro e w3 ⟨rfl, b3⟩
      have B3 := Lib.hid (B2.out.trans (b3.mono B2.out.size))
      have R3 := Lib.hid (R2.out.stay b3)
      have z3 := b3.size
      have k1 := (b3.cell (p := ⟨g, 1, none⟩) (by show g < _; omega)).trans K1b.out
      have K2c := Lib.hid ((b3.cell (p := ⟨g, 2, none⟩) (by show g < _; omega)).trans K2b.out)
      clear b3 B2 R2 K1b K2b
      go_wp2_with fail
      refine (C3.out _).mono ?_
      rintro e w4 ⟨rfl, b4⟩
      have B4 := Lib.hid (B3.out.trans (b4.mono B3.out.size))
      have R4 := Lib.hid (R3.out.stay b4)
      have z4 := b4.size
      have K2d := Lib.hid ((b4.cell (p := ⟨g, 2, none⟩) (by show g < _; omega)).trans K2c.out)
      have P5 := Lib.hid (show PF (w4.alloc (.cells #[.int .i64 0, .int .i64 0, .int .i64 0, .int .i64 x3, .int .i64 0] 36)) w4.heap.size (0, 0, 0, x3, 0) from PF.new w4 (0, 0, 0, x3, 0) 36)
      have R5 := Lib.hid (R4.out.stay ((Below.refl w4.heap.size w4).alloc (Nat.le_refl _) (.cells #[.int .i64 0, .int .i64 0, .int .i64 0, .int .i64 x3, .int .i64 0] 36)))
      have B5 := Lib.hid (B4.out.alloc B4.out.size (.cells #[.int .i64 0, .int .i64 0, .int .i64 0, .int .i64 x3, .int .i64 0] 36))
      have z5' : (w4.alloc (.cells #[.int .i64 0, .int .i64 0, .int .i64 0, .int .i64 x3, .int .i64 0] 36)).heap.size = w4.heap.size + 1 := World.size_alloc _ _
      have K2e := Lib.hid ((((Below.refl w4.heap.size w4).alloc (Nat.le_refl _) (.cells #[.int .i64 0, .int .i64 0, .int .i64 0, .int .i64 x3, .int .i64 0] 36)).cell (p := ⟨g, 2, none⟩) (by show g < _; omega)).trans K2d.out)
      clear b4 B3 B4 R3 R4 k1 K2c K2d
      go_wp2_with fail
      obtain ⟨p, hp⟩ : ∃ p, p = w4.heap.size := ⟨_, rfl⟩
      rw [← hp] at P5 z5' ⊢
      generalize w4.alloc (.cells #[.int .i64 0, .int .i64 0, .int .i64 0, .int .i64 x3, .int .i64 0] 36) = W5 at P5 R5 B5 z5' K2e ⊢
      have p1 : w.heap.size < p := by omega
      have p2 : g < p := by omega
      clear hp
      skip
      go_wp2_with fail
      refine (N1.out _).mono ?_
      rintro e w8a ⟨rfl, b8⟩
      have zz := b8.size
      have K2x := Lib.hid ((b8.cell (p := ⟨g, 2, none⟩) (by show g < _; omega)).trans K2e.out)
      have Bx := Lib.hid (B5.out.trans (b8.mono B5.out.size))
      have Rx := Lib.hid (R5.out.stay b8)
      have Px := Lib.hid (P5.out.stay b8)
      have y0 := Px.out.cell 0 (by omega)
      have f0 := Px.out.free 0
      change _ = some (Value.int .i64 _) at y0
      have B8a := Lib.hid (Bx.out.setCell (p := ⟨p, 0, none⟩) (by show w.heap.size ≤ p; omega) (.int .i64 x0))
      have R8a := Lib.hid (Rx.out.other (g := p) (k := 0) (by omega) (.int .i64 x0))
      have P8a := Lib.hid (Px.out.s0 x0)
      have zs : (w8a.setCell ⟨p, 0, none⟩ (.int .i64 x0)).heap.size = w8a.heap.size := World.size_setCell _ _ _
      have K2z := Lib.hid ((World.cell?_of_block (w := w8a) (a := ⟨g, 2, none⟩) (Below.heap_setCell w8a ⟨p, 0, none⟩ (.int .i64 x0) g (by show g ≠ p; omega))).trans K2x.out)
      clear b8 Bx Rx Px B5 R5 P5
      clear K2x
      skip
      go_wp2_with fail
      refine (N2.out _).mono ?_
      rintro e w8b ⟨rfl, b8⟩
      have zz := b8.size
      have K2x := Lib.hid ((b8.cell (p := ⟨g, 2, none⟩) (by show g < _; omega)).trans K2z.out)
      have Bx := Lib.hid (B8a.out.trans (b8.mono B8a.out.size))
      have Rx := Lib.hid (R8a.out.stay b8)
      have Px := Lib.hid (P8a.out.stay b8)
      have y1 := Px.out.cell 1 (by omega)
      have f1 := Px.out.free 1
      change _ = some (Value.int .i64 _) at y1
      have B8b := Lib.hid (Bx.out.setCell (p := ⟨p, 1, none⟩) (by show w.heap.size ≤ p; omega) (.int .i64 x1))
      have R8b := Lib.hid (Rx.out.other (g := p) (k := 1) (by omega) (.int .i64 x1))
      have P8b := Lib.hid (Px.out.s1 x1)
      have zs : (w8b.setCell ⟨p, 1, none⟩ (.int .i64 x1)).heap.size = w8b.heap.size := World.size_setCell _ _ _
      have K2z := Lib.hid ((World.cell?_of_block (w := w8b) (a := ⟨g, 2, none⟩) (Below.heap_setCell w8b ⟨p, 1, none⟩ (.int .i64 x1) g (by show g ≠ p; omega))).trans K2x.out)
      clear b8 Bx Rx Px B8a R8a P8a
      clear K2x
      skip
      go_wp2_with fail
      refine (N3.out _).mono ?_
      rintro e w8c ⟨rfl, b8⟩
      have zz := b8.size
      have K2x := Lib.hid ((b8.cell (p := ⟨g, 2, none⟩) (by show g < _; omega)).trans K2z.out)
      have Bx := Lib.hid (B8b.out.trans (b8.mono B8b.out.size))
      have Rx := Lib.hid (R8b.out.stay b8)
      have Px := Lib.hid (P8b.out.stay b8)
      have y2 := Px.out.cell 2 (by omega)
      have f2 := Px.out.free 2
      change _ = some (Value.int .i64 _) at y2
      have B8c := Lib.hid (Bx.out.setCell (p := ⟨p, 2, none⟩) (by show w.heap.size ≤ p; omega) (.int .i64 x2))
      have R8c := Lib.hid (Rx.out.other (g := p) (k := 2) (by omega) (.int .i64 x2))
      have P8c := Lib.hid (Px.out.s2 x2)
      have zs : (w8c.setCell ⟨p, 2, none⟩ (.int .i64 x2)).heap.size = w8c.heap.size := World.size_setCell _ _ _
      have K2z := Lib.hid ((World.cell?_of_block (w := w8c) (a := ⟨g, 2, none⟩) (Below.heap_setCell w8c ⟨p, 2, none⟩ (.int .i64 x2) g (by show g ≠ p; omega))).trans K2x.out)
      clear b8 Bx Rx Px B8b R8b P8b
      clear K2x
      have k2 := K2z.out
      go_wp2_with fail
      refine (N4.out _).mono ?_
      rintro e w8d ⟨rfl, b8⟩
      have zz := b8.size
      skip
      have Bx := Lib.hid (B8c.out.trans (b8.mono B8c.out.size))
      have Rx := Lib.hid (R8c.out.stay b8)
      have Px := Lib.hid (P8c.out.stay b8)
      have y4 := Px.out.cell 4 (by omega)
      have f4 := Px.out.free 4
      change _ = some (Value.int .i64 _) at y4
      have B8d := Lib.hid (Bx.out.setCell (p := ⟨p, 4, none⟩) (by show w.heap.size ≤ p; omega) (.int .i64 x4))
      have R8d := Lib.hid (Rx.out.other (g := p) (k := 4) (by omega) (.int .i64 x4))
      have P8d := Lib.hid (Px.out.s4 x4)
      have zs : (w8d.setCell ⟨p, 4, none⟩ (.int .i64 x4)).heap.size = w8d.heap.size := World.size_setCell _ _ _
      skip
      clear b8 Bx Rx Px B8c R8c P8c
      obtain ⟨v0, v1, v2, v3, v4⟩ := P8d.out.pb
      dsimp only at v0 v1 v2 v3 v4
      clear k2
      go_wp2_with fail
      refine (TX.out _).mono ?_
      rintro e w9 ⟨rfl, b9⟩
      have B9 := Lib.hid (B8d.out.trans (b9.mono B8d.out.size))
      have R9 := Lib.hid (R8d.out.stay b9)
      have P9 := Lib.hid (P8d.out.stay b9)
      clear b9 B8d R8d P8d y0 y1 y2 y4 v0 v1 v2 v3 v4
      cases hq : (txt (x0, x1, x2, x3, x4) == l) with
      | true =>
        have N := Lib.hid (EQ.out H3.out hq)
        obtain ⟨y0, y1, y2, y3, y4⟩ := P9.out.pb
        dsimp only at y0 y1 y2 y3 y4
        have FF := Lib.hid (R9.out.all (x0, x1, x2, x3, x4))
        obtain ⟨r0, r1, r2, r3, r4⟩ := R9.out.pb
        have f0 := R9.out.free 0
        have f1 := R9.out.free 1
        have f2 := R9.out.free 2
        have f3 := R9.out.free 3
        have f4 := R9.out.free 4
        dsimp only [z5] at r0 r1 r2 r3 r4
        have BZ := Lib.hid (five.below_w5 B9.out (g := w.heap.size) (Nat.le_refl _) 0 (x0, x1, x2, x3, x4))
        go_wp2
        change bodyPost _ _ _ _ _ (five.w5 w9 w.heap.size 0 (x0, x1, x2, x3, x4))
        generalize five.w5 w9 w.heap.size 0 (x0, x1, x2, x3, x4) = WZ at FF BZ ⊢
        clear r0 r1 r2 r3 r4 f0 f1 f2 f3 f4
        obtain ⟨r0, r1, r2, r3, r4⟩ := FF.out.pb
        dsimp only at r0 r1 r2 r3 r4
        refine bodyPost_ret (v := .tuple #[pv (x0, x1, x2, x3, x4), .bool true]) (by simp [results, Tryz.results25, go_sem, r0, r1, r2, r3, r4, pv]) rfl ⟨?_, BZ.out⟩
        first | (rw [N.out]; done) | (rw [N.out]; rfl)
      | false =>
        have N := Lib.hid (NE.out hq)
        have FF := Lib.hid (R9.out.all (0, 0, 0, 0, 0))
        obtain ⟨r0, r1, r2, r3, r4⟩ := R9.out.pb
        have f0 := R9.out.free 0
        have f1 := R9.out.free 1
        have f2 := R9.out.free 2
        have f3 := R9.out.free 3
        have f4 := R9.out.free 4
        dsimp only [z5] at r0 r1 r2 r3 r4
        have BZ := Lib.hid (five.below_w5 B9.out (g := w.heap.size) (Nat.le_refl _) 0 (0, 0, 0, 0, 0))
        go_wp2
        change bodyPost _ _ _ _ _ (five.w5 w9 w.heap.size 0 (0, 0, 0, 0, 0))
        generalize five.w5 w9 w.heap.size 0 (0, 0, 0, 0, 0) = WZ at FF BZ ⊢
        clear r0 r1 r2 r3 r4 f0 f1 f2 f3 f4
        obtain ⟨r0, r1, r2, r3, r4⟩ := FF.out.pb
        dsimp only at r0 r1 r2 r3 r4
        refine bodyPost_ret (v := .tuple #[pv (0, 0, 0, 0, 0), .bool false]) (by simp [results, Tryz.results25, go_sem, r0, r1, r2, r3, r4, pv]) rfl ⟨?_, BZ.out⟩
        first | (rw [N.out]; done) | (rw [N.out]; rfl)
    · have t2 : (n == 3) = false := by simp [c2]
      have t2' : ((n : Int) == 3) = false := by simp; omega
      have t3 : (n != 3) = true := by simp [c2]
      have t3' : ((n : Int) != 3) = true := by simp; omega
      have t4 : decide (n = 3) = false := by simp [c2]
      have N := Lib.hid (NO1.out (fun q => c2 (by rw [HN.out]; exact q.2)))
      clear c1 c2
      have FF := Lib.hid (R1.out.all (0, 0, 0, 0, 0))
      obtain ⟨r0, r1, r2, r3, r4⟩ := R1.out.pb
      have f0 := R1.out.free 0
      have f1 := R1.out.free 1
      have f2 := R1.out.free 2
      have f3 := R1.out.free 3
      have f4 := R1.out.free 4
      dsimp only [z5] at r0 r1 r2 r3 r4
      have BZ := Lib.hid (five.below_w5 B1.out (g := w.heap.size) (Nat.le_refl _) 0 (0, 0, 0, 0, 0))
      go_wp2
      change bodyPost _ _ _ _ _ (five.w5 w1 w.heap.size 0 (0, 0, 0, 0, 0))
      generalize five.w5 w1 w.heap.size 0 (0, 0, 0, 0, 0) = WZ at FF BZ ⊢
      clear r0 r1 r2 r3 r4 f0 f1 f2 f3 f4
      obtain ⟨r0, r1, r2, r3, r4⟩ := FF.out.pb
      dsimp only at r0 r1 r2 r3 r4
      refine bodyPost_ret (v := .tuple #[pv (0, 0, 0, 0, 0), .bool false]) (by simp [results, Tryz.results25, go_sem, r0, r1, r2, r3, r4, pv]) rfl ⟨?_, BZ.out⟩
      first | (rw [N.out]; done) | (rw [N.out]; rfl)
end Go.Proofs.YtpogfdeioibkdaaGreatDoor.ptm
