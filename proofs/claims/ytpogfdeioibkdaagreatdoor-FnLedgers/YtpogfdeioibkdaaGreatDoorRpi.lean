/-
  Plain helpers of this seat's proofs: the landed function that reads a post. Conditions: none.
-/
import Derived.Test.YtpogfdeioibkdaaGreatDoorRps
import Derived.Test.YtpogfdeioibkdaaGreatDoorPtj
namespace Go.Proofs.YtpogfdeioibkdaaGreatDoor.ptm
open Go.ChangeShapes Go.WideShapes Go.ChangeAt Go.RowKit
open led (F5 z5)
/-- A box that holds a bool. -/
def BF (w : World) (b : Nat) (t : Bool) : Prop := five.Blk w b 1 (fun _ => .bool t)
theorem BF.stay {w w' : World} {b : Nat} {x : Bool} (h : BF w b x) (hb : Below w.heap.size w w') : BF w' b x := five.Blk.below h hb h.lt
theorem BF.put {w : World} {b : Nat} {x : Bool} (h : BF w b x) (y : Bool) : BF (w.setCell ⟨b, 0, none⟩ (.bool y)) b y :=
  five.Blk.same (five.Blk.set h (k := 0) (by omega) _) fun k hk => by obtain rfl : k = 0 := (by omega); rfl
theorem BF.new (w : World) (x : Bool) (t : TypeId) : BF (w.alloc (.cells #[.bool x] t)) w.heap.size x :=
  ⟨by rw [World.size_alloc]; omega, fun k hk => by obtain rfl : k = 0 := (by omega); exact five.box_cell (five.box_refl w (.cells #[.bool x] t)) 0 rfl, fun k => World.frozen?_alloc_new w _ _ k⟩
theorem PF.otherB {w : World} {b g : Nat} {x : F5} (h : PF w b x) (hg : b ≠ g) (v : Value) : PF (w.setCell ⟨g, 0, none⟩ v) b x := five.Blk.other h hg v
set_option maxHeartbeats 2000000 in
theorem numC (l : List UInt8) (w : World) (nb : Nat) (b : Bool) (h : BF w nb b) (po : Pow w) (hz : l.length ≤ 1048576) : Calls Tryz.prog 51 #[.string ⟨l.toArray⟩, .pointer (some ⟨nb, 0, none⟩)] w fun e w' => e = .returned (.int .i64 (dvN l)) ∧ ∃ w1, Below w.heap.size w w1 ∧ w' = w1.setCell ⟨nb, 0, none⟩ (.bool (b && dvO l)) := by
  have HB := Lib.hid h
  have DV := Lib.hid (decV l w po hz)
  clear h po
  generalize dvN l = z at DV ⊢
  generalize dvO l = o at DV ⊢
  go_enter Tryz.func51, Tryz.ntmps51
  go_wp2_with fail
  refine DV.out.mono ?_
  rintro e w1 ⟨rfl, b1⟩
  have B1 := Lib.hid b1
  have H1 := Lib.hid (HB.out.stay b1)
  have c0 := H1.out.cell 0 (by omega)
  have f0 := H1.out.free 0
  change _ = some (Value.bool b) at c0
  clear b1
  cases b
  · go_wp2
    go_ret
    exact ⟨rfl, w1, B1.out, rfl⟩
  · go_wp2
    go_ret
    exact ⟨rfl, w1, B1.out, by cases o <;> rfl⟩
theorem rd_no1 {l : List UInt8} (h : io l = false) : rd l = (z5, false) := by
  unfold rd; rw [if_neg (fun q => by rw [h] at q; cases q.1)]
theorem rd_ne {l : List UInt8} (h : (txt (ip l) == l) = false) : rd l = (z5, false) := by
  unfold rd; rw [if_neg (fun q => by rw [q.2] at h; simp at h)]
theorem rd_eq {l : List UInt8} (h0 : io l = true) (h : (txt (ip l) == l) = true) : rd l = (ip l, true) := by
  unfold rd; rw [if_pos ⟨h0, by simpa using h⟩]
theorem io_of (l : List UInt8) : ((((true && dvO (iK l)) && dvO (iI l)) && dvO (iS l)) && dvO (iN l)) = io l := by unfold io; rw [Bool.true_and]
theorem below_dn {w w' : World} {k : Nat} (h : w' = w.drewN k) : Below w.heap.size w w' := h ▸ dn (Below.refl _ _) k
set_option maxRecDepth 20000 in
set_option maxHeartbeats 8000000 in
theorem readI (l : List UInt8) (w : World) (hz : l.length ≤ 1048576) (cu : cur.Cur w) (po : Pow w) (hw : 2 < w.heap.size) (m : Int) (hm : w.cell? ⟨1, 0, none⟩ = some (.int .i64 m)) :
    Calls Tryz.prog 22 #[.string ⟨l.toArray⟩] w fun e w' => e = .returned (.tuple #[pv (rd l).1, .bool (rd l).2]) ∧ Below w.heap.size w w' := by
  have lt := cu.lt
  have CU := Lib.hid (fun W (hb : Below w.heap.size w W) => cu.below hb lt)
  have CP := Lib.hid (fun W (hb : Below w.heap.size w W) => Pow.below po hb hw)
  have CM := Lib.hid (fun W (hb : Below w.heap.size w W) => (hb.cell (p := ⟨1, 0, none⟩) (by show 1 < _; omega)).trans hm)
  have lA : (iA l).length ≤ 1048576 := Nat.le_trans (cut_le 32 l).1 hz
  have lR : (iR l).length ≤ 1048576 := Nat.le_trans (cut_le 32 l).2 hz
  have lC : (iC l).length ≤ 1048576 := Nat.le_trans (cut_le 32 (iR l)).1 lR
  have lN : (iN l).length ≤ 1048576 := Nat.le_trans (cut_le 32 (iR l)).2 lR
  have lK : (iK l).length ≤ 1048576 := Nat.le_trans (cut_le 46 (iA l)).1 lA
  have lQ : (iQ l).length ≤ 1048576 := Nat.le_trans (cut_le 46 (iA l)).2 lA
  have lI : (iI l).length ≤ 1048576 := Nat.le_trans (cut_le 46 (iQ l)).1 lQ
  have lS : (iS l).length ≤ 1048576 := Nat.le_trans (cut_le 46 (iQ l)).2 lQ
  have CT := fun (x : List UInt8) (c : UInt8) (hx : x.length ≤ 1048576) (W : World) (hb : Below w.heap.size w W) => (Tryz.strings_Cut ⟨x.toArray⟩ ⟨#[c]⟩ m W (by show x.length < _; omega) (CM.out W hb))
  have C1 := Lib.hid (show ∀ W, Below w.heap.size w W → Calls Tryz.prog 50 #[.string ⟨l.toArray⟩, .string ⟨#[32]⟩] W (fun e w' => e = .returned (.tuple #[.string ⟨(iA l).toArray⟩, .string ⟨(iR l).toArray⟩, .bool (Lib.cut l [32]).2.2]) ∧ Below W.heap.size W w') from fun W hb => (CT l 32 hz W hb).mono (by rintro e w' ⟨rfl, nq, hq⟩; exact ⟨rfl, below_dn hq⟩))
  have C2 := Lib.hid (show ∀ W, Below w.heap.size w W → Calls Tryz.prog 50 #[.string ⟨(iR l).toArray⟩, .string ⟨#[32]⟩] W (fun e w' => e = .returned (.tuple #[.string ⟨(iC l).toArray⟩, .string ⟨(iN l).toArray⟩, .bool (Lib.cut (iR l) [32]).2.2]) ∧ Below W.heap.size W w') from fun W hb => (CT (iR l) 32 lR W hb).mono (by rintro e w' ⟨rfl, nq, hq⟩; exact ⟨rfl, below_dn hq⟩))
  have C3 := Lib.hid (show ∀ W, Below w.heap.size w W → Calls Tryz.prog 50 #[.string ⟨(iA l).toArray⟩, .string ⟨#[46]⟩] W (fun e w' => e = .returned (.tuple #[.string ⟨(iK l).toArray⟩, .string ⟨(iQ l).toArray⟩, .bool (Lib.cut (iA l) [46]).2.2]) ∧ Below W.heap.size W w') from fun W hb => (CT (iA l) 46 lA W hb).mono (by rintro e w' ⟨rfl, nq, hq⟩; exact ⟨rfl, below_dn hq⟩))
  have C4 := Lib.hid (show ∀ W, Below w.heap.size w W → Calls Tryz.prog 50 #[.string ⟨(iQ l).toArray⟩, .string ⟨#[46]⟩] W (fun e w' => e = .returned (.tuple #[.string ⟨(iI l).toArray⟩, .string ⟨(iS l).toArray⟩, .bool (Lib.cut (iQ l) [46]).2.2]) ∧ Below W.heap.size W w') from fun W hb => (CT (iQ l) 46 lQ W hb).mono (by rintro e w' ⟨rfl, nq, hq⟩; exact ⟨rfl, below_dn hq⟩))
  have N1 := Lib.hid (fun W (hb : Below w.heap.size w W) nb b (h : BF W nb b) => numC (iK l) W nb b h (CP.out W hb) lK)
  have N2 := Lib.hid (fun W (hb : Below w.heap.size w W) nb b (h : BF W nb b) => numC (iI l) W nb b h (CP.out W hb) lI)
  have N3 := Lib.hid (fun W (hb : Below w.heap.size w W) nb b (h : BF W nb b) => numC (iS l) W nb b h (CP.out W hb) lS)
  have N4 := Lib.hid (fun W (hb : Below w.heap.size w W) nb b (h : BF W nb b) => numC (iN l) W nb b h (CP.out W hb) lN)
  have CC := Lib.hid (fun W (hb : Below w.heap.size w W) => curIl (iC l) W (CU.out W hb))
  have TX := Lib.hid (fun W (hb : Below w.heap.size w W) => textI (ip l) W (CU.out W hb) (CP.out W hb) (Nat.lt_of_lt_of_le hw hb.size))
  have IO := Lib.hid (io_of l)
  have NO1 := Lib.hid (fun h => rd_no1 (l := l) h)
  have NE := Lib.hid (fun h => rd_ne (l := l) h)
  have EQ := Lib.hid (fun h0 h => rd_eq (l := l) h0 h)
  have IPe := Lib.hid (show ip l = (dvN (iK l), dvN (iI l), dvN (iS l), curIx (iC l), dvN (iN l)) from rfl)
  obtain ⟨X, hX⟩ : ∃ X, X = ip l := ⟨_, rfl⟩
  rw [← hX] at IPe TX NE EQ
  clear hX
  generalize dvN (iK l) = x0 at N1 IPe
  generalize dvN (iI l) = x1 at N2 IPe
  generalize dvN (iS l) = x2 at N3 IPe
  generalize dvN (iN l) = x4 at N4 IPe
  generalize curIx (iC l) = x3 at CC IPe
  generalize dvO (iK l) = o0 at N1 IO
  generalize dvO (iI l) = o1 at N2 IO
  generalize dvO (iS l) = o2 at N3 IO
  generalize dvO (iN l) = o4 at N4 IO
  generalize iK l = tK at N1 C3
  generalize iI l = tI at N2 C4
  generalize iS l = tS at N3 C4
  generalize iN l = tN at N4 C2
  generalize iC l = tC at CC C2
  generalize iQ l = tQ at C3 C4
  generalize iA l = tA at C1 C3
  generalize iR l = tR at C1 C2
  generalize (Lib.cut l [32]).2.2 = q1 at C1
  have hX := IPe.out
  subst hX
  dsimp only at TX
  have B0 := Lib.hid (show Below w.heap.size w (w.alloc (.cells #[.int .i64 0, .int .i64 0, .int .i64 0, .int .i64 0, .int .i64 0] 36)) from five.bAl (Below.refl _ _) (Nat.le_refl _) _)
  have R0 := Lib.hid (show PF (w.alloc (.cells #[.int .i64 0, .int .i64 0, .int .i64 0, .int .i64 0, .int .i64 0] 36)) w.heap.size z5 from PF.new w z5 36)
  clear cu po hw hm lt lA lR lC lN lK lQ lI lS IPe CT CU CP CM
  go_enter Tryz.func22, Tryz.ntmps22
  go_wp2_with fail
  generalize w.alloc (.cells #[.int .i64 0, .int .i64 0, .int .i64 0, .int .i64 0, .int .i64 0] 36) = W0 at B0 R0 ⊢
  skip
  refine (C1.out _ B0.out).mono ?_
  rintro e w1 ⟨rfl, b⟩
  have B1 := Lib.hid (B0.out.trans (b.mono B0.out.size))
  have R1 := Lib.hid (R0.out.stay b)
  clear b B0 R0
  go_wp2_with fail
  refine (C2.out _ B1.out).mono ?_
  rintro e w2 ⟨rfl, b⟩
  have B2 := Lib.hid (B1.out.trans (b.mono B1.out.size))
  have R2 := Lib.hid (R1.out.stay b)
  clear b B1 R1
  go_wp2_with fail
  refine (C3.out _ B2.out).mono ?_
  rintro e w3 ⟨rfl, b⟩
  have B3 := Lib.hid (B2.out.trans (b.mono B2.out.size))
  have R3 := Lib.hid (R2.out.stay b)
  clear b B2 R2
  go_wp2_with fail
  refine (C4.out _ B3.out).mono ?_
  rintro e w4 ⟨rfl, b⟩
  have B4 := Lib.hid (B3.out.trans (b.mono B3.out.size))
  have R4 := Lib.hid (R3.out.stay b)
  clear b B3 R3
  have n0 := R4.out.lt
  have F5 := Lib.hid (BF.new w4 true 4)
  have B5 := Lib.hid (B4.out.alloc B4.out.size (.cells #[.bool true] 4))
  have R5 := Lib.hid (R4.out.stay ((Below.refl w4.heap.size w4).alloc (Nat.le_refl _) (.cells #[.bool true] 4)))
  have z5' : (w4.alloc (.cells #[.bool true] 4)).heap.size = w4.heap.size + 1 := World.size_alloc _ _
  clear B4 R4
  go_wp2_with fail
  obtain ⟨nb, hnb⟩ : ∃ p, p = w4.heap.size := ⟨_, rfl⟩
  rw [← hnb] at F5 n0 z5' ⊢
  generalize w4.alloc (.cells #[.bool true] 4) = W5 at F5 B5 R5 z5' ⊢
  clear hnb
  go_wp2_with fail
  refine (N1.out _ B5.out nb _ F5.out).mono ?_
  rintro e w91 ⟨rfl, wx, b, hwx⟩
  have S1 := Lib.hid (show Below w.heap.size w w91 from hwx ▸ (B5.out.trans (b.mono B5.out.size)).setCell (p := ⟨nb, 0, none⟩) (by show w.heap.size ≤ nb; omega) _)
  have S1r := Lib.hid (show PF w91 w.heap.size z5 from hwx ▸ (R5.out.stay b).otherB (by omega) _)
  have S1f := Lib.hid (show BF w91 nb _ from hwx ▸ (F5.out.stay b).put _)
  clear b hwx B5 R5 F5
  go_wp2_with fail
  refine (N2.out _ S1.out nb _ S1f.out).mono ?_
  rintro e w92 ⟨rfl, wx, b, hwx⟩
  have S2 := Lib.hid (show Below w.heap.size w w92 from hwx ▸ (S1.out.trans (b.mono S1.out.size)).setCell (p := ⟨nb, 0, none⟩) (by show w.heap.size ≤ nb; omega) _)
  have S2r := Lib.hid (show PF w92 w.heap.size z5 from hwx ▸ (S1r.out.stay b).otherB (by omega) _)
  have S2f := Lib.hid (show BF w92 nb _ from hwx ▸ (S1f.out.stay b).put _)
  clear b hwx S1 S1r S1f
  go_wp2_with fail
  refine (N3.out _ S2.out nb _ S2f.out).mono ?_
  rintro e w93 ⟨rfl, wx, b, hwx⟩
  have S3 := Lib.hid (show Below w.heap.size w w93 from hwx ▸ (S2.out.trans (b.mono S2.out.size)).setCell (p := ⟨nb, 0, none⟩) (by show w.heap.size ≤ nb; omega) _)
  have S3r := Lib.hid (show PF w93 w.heap.size z5 from hwx ▸ (S2r.out.stay b).otherB (by omega) _)
  have S3f := Lib.hid (show BF w93 nb _ from hwx ▸ (S2f.out.stay b).put _)
  clear b hwx S2 S2r S2f
  go_wp2_with fail
  refine (CC.out _ S3.out).mono ?_
  rintro e w' ⟨rfl, rfl⟩
  go_wp2_with fail
  refine (N4.out _ S3.out nb _ S3f.out).mono ?_
  rintro e w94 ⟨rfl, wx, b, hwx⟩
  have S4 := Lib.hid (show Below w.heap.size w w94 from hwx ▸ (S3.out.trans (b.mono S3.out.size)).setCell (p := ⟨nb, 0, none⟩) (by show w.heap.size ≤ nb; omega) _)
  have S4r := Lib.hid (show PF w94 w.heap.size z5 from hwx ▸ (S3r.out.stay b).otherB (by omega) _)
  have S4f := Lib.hid (show BF w94 nb _ from hwx ▸ (S3f.out.stay b).put _)
  clear b hwx S3 S3r S3f
  have g0 := S4.out.size
  have P9 := Lib.hid (show PF (w94.alloc (.cells #[.int .i64 x0, .int .i64 x1, .int .i64 x2, .int .i64 x3, .int .i64 x4] 36)) w94.heap.size (x0, x1, x2, x3, x4) from PF.new w94 (x0, x1, x2, x3, x4) 36)
  have R9 := Lib.hid (S4r.out.stay ((Below.refl w94.heap.size w94).alloc (Nat.le_refl _) (.cells #[.int .i64 x0, .int .i64 x1, .int .i64 x2, .int .i64 x3, .int .i64 x4] 36)))
  have F9 := Lib.hid (S4f.out.stay ((Below.refl w94.heap.size w94).alloc (Nat.le_refl _) (.cells #[.int .i64 x0, .int .i64 x1, .int .i64 x2, .int .i64 x3, .int .i64 x4] 36)))
  have B9 := Lib.hid (S4.out.alloc S4.out.size (.cells #[.int .i64 x0, .int .i64 x1, .int .i64 x2, .int .i64 x3, .int .i64 x4] 36))
  rw [IO.out] at F9
  clear S4 S4r S4f
  have r0 := P9.out.cell 0 (by omega)
  have r1 := P9.out.cell 1 (by omega)
  have r2 := P9.out.cell 2 (by omega)
  have r3 := P9.out.cell 3 (by omega)
  have r4 := P9.out.cell 4 (by omega)
  have s0 := F9.out.cell 0 (by omega)
  change _ = some (Value.int .i64 x0) at r0
  change _ = some (Value.int .i64 x1) at r1
  change _ = some (Value.int .i64 x2) at r2
  change _ = some (Value.int .i64 x3) at r3
  change _ = some (Value.int .i64 x4) at r4
  change _ = some (Value.bool (io l)) at s0
  cases ho : io l with
  | false =>
    rw [ho] at s0
    have N := Lib.hid (NO1.out ho)
    clear P9 F9 r0 r1 r2 r3 r4
    have FF := Lib.hid (R9.out.all (0, 0, 0, 0, 0))
    obtain ⟨r0, r1, r2, r3, r4⟩ := R9.out.pb
    have f0 := R9.out.free 0
    have f1 := R9.out.free 1
    have f2 := R9.out.free 2
    have f3 := R9.out.free 3
    have f4 := R9.out.free 4
    dsimp only [z5] at r0 r1 r2 r3 r4
    have BZ := Lib.hid (five.below_w5 B9.out (g := w.heap.size) (Nat.le_refl _) 0 (0, 0, 0, 0, 0))
    go_wp2
    change bodyPost _ _ _ _ _ (five.w5 (w94.alloc (.cells #[.int .i64 x0, .int .i64 x1, .int .i64 x2, .int .i64 x3, .int .i64 x4] 36)) w.heap.size 0 (0, 0, 0, 0, 0))
    generalize five.w5 (w94.alloc (.cells #[.int .i64 x0, .int .i64 x1, .int .i64 x2, .int .i64 x3, .int .i64 x4] 36)) w.heap.size 0 (0, 0, 0, 0, 0) = WZ at FF BZ ⊢
    clear r0 r1 r2 r3 r4 f0 f1 f2 f3 f4
    obtain ⟨r0, r1, r2, r3, r4⟩ := FF.out.pb
    dsimp only at r0 r1 r2 r3 r4
    refine bodyPost_ret (v := .tuple #[pv (0, 0, 0, 0, 0), .bool false]) (by simp [results, Tryz.results22, go_sem, r0, r1, r2, r3, r4, pv]) rfl ⟨?_, BZ.out⟩
    first | (rw [N.out]; done) | (rw [N.out]; rfl)
  | true =>
    rw [ho] at s0
    go_wp2_with fail
    refine (TX.out _ B9.out).mono ?_
    rintro e w8 ⟨rfl, b8⟩
    have B8 := Lib.hid (B9.out.trans (b8.mono B9.out.size))
    have R8 := Lib.hid (R9.out.stay b8)
    have P8 := Lib.hid (P9.out.stay b8)
    clear b8 B9 R9 P9 F9 r0 r1 r2 r3 r4 s0
    cases hq : (txt (x0, x1, x2, x3, x4) == l) with
    | true =>
      have N := Lib.hid (EQ.out ho hq)
      obtain ⟨y0, y1, y2, y3, y4⟩ := P8.out.pb
      dsimp only at y0 y1 y2 y3 y4
      have FF := Lib.hid (R8.out.all (x0, x1, x2, x3, x4))
      obtain ⟨r0, r1, r2, r3, r4⟩ := R8.out.pb
      have f0 := R8.out.free 0
      have f1 := R8.out.free 1
      have f2 := R8.out.free 2
      have f3 := R8.out.free 3
      have f4 := R8.out.free 4
      dsimp only [z5] at r0 r1 r2 r3 r4
      have BZ := Lib.hid (five.below_w5 B8.out (g := w.heap.size) (Nat.le_refl _) 0 (x0, x1, x2, x3, x4))
      go_wp2
      change bodyPost _ _ _ _ _ (five.w5 w8 w.heap.size 0 (x0, x1, x2, x3, x4))
      generalize five.w5 w8 w.heap.size 0 (x0, x1, x2, x3, x4) = WZ at FF BZ ⊢
      clear r0 r1 r2 r3 r4 f0 f1 f2 f3 f4
      obtain ⟨r0, r1, r2, r3, r4⟩ := FF.out.pb
      dsimp only at r0 r1 r2 r3 r4
      refine bodyPost_ret (v := .tuple #[pv (x0, x1, x2, x3, x4), .bool true]) (by simp [results, Tryz.results22, go_sem, r0, r1, r2, r3, r4, pv]) rfl ⟨?_, BZ.out⟩
      first | (rw [N.out]; done) | (rw [N.out]; rfl)
    | false =>
      have N := Lib.hid (NE.out hq)
      have FF := Lib.hid (R8.out.all (0, 0, 0, 0, 0))
      obtain ⟨r0, r1, r2, r3, r4⟩ := R8.out.pb
      have f0 := R8.out.free 0
      have f1 := R8.out.free 1
      have f2 := R8.out.free 2
      have f3 := R8.out.free 3
      have f4 := R8.out.free 4
      dsimp only [z5] at r0 r1 r2 r3 r4
      have BZ := Lib.hid (five.below_w5 B8.out (g := w.heap.size) (Nat.le_refl _) 0 (0, 0, 0, 0, 0))
      go_wp2
      change bodyPost _ _ _ _ _ (five.w5 w8 w.heap.size 0 (0, 0, 0, 0, 0))
      generalize five.w5 w8 w.heap.size 0 (0, 0, 0, 0, 0) = WZ at FF BZ ⊢
      clear r0 r1 r2 r3 r4 f0 f1 f2 f3 f4
      obtain ⟨r0, r1, r2, r3, r4⟩ := FF.out.pb
      dsimp only at r0 r1 r2 r3 r4
      refine bodyPost_ret (v := .tuple #[pv (0, 0, 0, 0, 0), .bool false]) (by simp [results, Tryz.results22, go_sem, r0, r1, r2, r3, r4, pv]) rfl ⟨?_, BZ.out⟩
      first | (rw [N.out]; done) | (rw [N.out]; rfl)
end Go.Proofs.YtpogfdeioibkdaaGreatDoor.ptm
