/-
  Plain helpers of this seat's proofs: the contract of the landed SumsOf. Conditions: none.
-/
import Derived.Test.YtchpjojndkkmeaaDoorAd7
import Derived.Test.YtchpjojndkkmeaaDoorPkI
namespace Go.Proofs.YtchpjojndkkmeaaDoor.base
open Go.ChangeShapes Go.WideShapes Go.ChangeAt Go.RowKit
open seven (F7 zz Row At)
open pl (inR prOk pok)
open gen
/-- All seven cells of a Part are laid anew. -/
def st7 (W : World) (b : Nat) (x : F7) : World := (((((((W.setCell ⟨b, 0, none⟩ (.int .i64 x.1)).setCell ⟨b, 1, none⟩ (.int .i64 x.2.1)).setCell ⟨b, 2, none⟩ (.int .i64 x.2.2.1)).setCell ⟨b, 3, none⟩ (.int .i64 x.2.2.2.1)).setCell ⟨b, 4, none⟩ (.int .i64 x.2.2.2.2.1)).setCell ⟨b, 5, none⟩ (.int .i64 x.2.2.2.2.2.1)).setCell ⟨b, 6, none⟩ (.int .i64 x.2.2.2.2.2.2))
theorem st7_at {W : World} {b : Nat} {y : F7} (h : At W b 0 y) (x : F7) : At (st7 W b x) b 0 x :=
  setAt6 (setAt5 (setAt4 (setAt3 (setAt2 (setAt1 (setAt0 h _) _) _) _) _) _) _
theorem st7_turned {w W : World} {b : Nat} (h : Turned b w W) (x : F7) : Turned b w (st7 W b x) :=
  ((((((h.set 0 _).set 1 _).set 2 _).set 3 _).set 4 _).set 5 _).set 6 _
theorem st7_below {w W : World} {B b : Nat} (h : Below B w W) (hb : B ≤ b) (x : F7) : Below B w (st7 W b x) :=
  ((((((h.setCell (p := ⟨b, 0, none⟩) hb _).setCell (p := ⟨b, 1, none⟩) hb _).setCell (p := ⟨b, 2, none⟩) hb _).setCell (p := ⟨b, 3, none⟩) hb _).setCell (p := ⟨b, 4, none⟩) hb _).setCell (p := ⟨b, 5, none⟩) hb _).setCell (p := ⟨b, 6, none⟩) hb _
/-- A Part in a box of its own, that may be written. -/
structure Bx (w : World) (b : Nat) (x : F7) : Prop where
  at_ : At w b 0 x
  free : ∀ i, w.frozen? ⟨b, i, none⟩ = false
theorem Bx.keep {w w' : World} {b : Nat} {x : F7} (h : Bx w b x) (e : w'.heap[b]? = w.heap[b]?) : Bx w' b x :=
  ⟨h.at_.keep e, fun i => by rw [World.frozen?_of_block (w := w) (a := ⟨b, i, none⟩) e]; exact h.free i⟩
theorem Bx.new (w : World) (x : F7) : Bx (w.alloc (.cells #[.int .i64 x.1, .int .i64 x.2.1, .int .i64 x.2.2.1, .int .i64 x.2.2.2.1, .int .i64 x.2.2.2.2.1, .int .i64 x.2.2.2.2.2.1, .int .i64 x.2.2.2.2.2.2] 35)) w.heap.size x := ⟨seven.At.boxed w x _, fun k => World.frozen?_alloc_new w _ _ k⟩
theorem Bx.zero (w : World) : Bx (w.alloc (.cells #[.int .i64 0, .int .i64 0, .int .i64 0, .int .i64 0, .int .i64 0, .int .i64 0, .int .i64 0] 35)) w.heap.size zz := Bx.new w zz
set_option maxRecDepth 40000 in
set_option maxHeartbeats 4000000 in
theorem smI (w : World) (a : Option Addr) (cap g : Nat) (l : List F7) (r : Row w a cap g l) (hn : l.length ≤ 1048577) : Calls Tryd.prog 15 #[.slice a l.length cap] w (fun e w' => e = .returned (.agg #[.int .i64 (pl.sums l).1, .int .i64 (pl.sums l).2.1, .int .i64 (pl.sums l).2.2.1, .int .i64 (pl.sums l).2.2.2.1, .int .i64 (pl.sums l).2.2.2.2.1, .int .i64 (pl.sums l).2.2.2.2.2.1, .int .i64 (pl.sums l).2.2.2.2.2.2]) ∧ Below w.heap.size w w') := by
  obtain ⟨T, hT⟩ : ∃ T, T = pl.sums l := ⟨_, rfl⟩
  rw [← hT]
  have HT := Lib.hid hT
  clear hT
  have e1 := r.addr
  have m1 := r.room
  have b0 := (Below.refl w.heap.size w).alloc (Nat.le_refl _) (.cells #[.int .i64 0, .int .i64 0, .int .i64 0, .int .i64 0, .int .i64 0, .int .i64 0, .int .i64 0] 35)
  have R := Lib.hid (r.keep (w' := w.alloc (.cells #[.int .i64 0, .int .i64 0, .int .i64 0, .int .i64 0, .int .i64 0, .int .i64 0, .int .i64 0] 35)) fun h => b0.block g (r.lt h))
  have GL := Lib.hid (fun h : 0 < l.length => r.lt h)
  have B0 := Lib.hid b0
  have X0 := Lib.hid (Bx.zero w)
  have C := Lib.hid (pkI (w.alloc (.cells #[.int .i64 0, .int .i64 0, .int .i64 0, .int .i64 0, .int .i64 0, .int .i64 0, .int .i64 0] 35)) a cap g l R.out hn)
  clear r b0
  obtain ⟨n, hnz⟩ : ∃ n, n = l.length := ⟨_, rfl⟩
  rw [← hnz] at hn e1 m1 C ⊢
  have HNZ := Lib.hid hnz
  clear hnz
  go_enter Tryd.func15, Tryd.ntmps15
  go_wp2_with fail
  have sz0 : (w.alloc (.cells #[.int .i64 0, .int .i64 0, .int .i64 0, .int .i64 0, .int .i64 0, .int .i64 0, .int .i64 0] 35)).heap.size = w.heap.size + 1 := by simp
  generalize w.alloc (.cells #[.int .i64 0, .int .i64 0, .int .i64 0, .int .i64 0, .int .i64 0, .int .i64 0, .int .i64 0] 35) = W0 at R B0 X0 C sz0 ⊢
  obtain ⟨rb, hrb⟩ : ∃ rb, rb = w.heap.size := ⟨_, rfl⟩
  rw [← hrb] at X0 ⊢
  have hrb0 : rb < W0.heap.size := by omega
  have HRB := Lib.hid (Nat.le_of_eq hrb.symm)
  refine C.out.mono ?_
  rintro e w1 ⟨rfl, b1⟩
  have z1 := b1.size
  have B1 := Lib.hid (B0.out.trans (b1.mono B0.out.size))
  have R1 := Lib.hid (R.out.keep (w' := w1) fun h => b1.block g (by have := GL.out h; omega))
  have X1 := Lib.hid (X0.out.keep (w' := w1) (b1.block rb hrb0))
  clear b1 R X0 C B0 hrb sz0
  cases hv : pl.pv l with
  | false =>
    have TZ := Lib.hid (show T = zz from HT.out.trans (pl.sums_f hv))
    obtain ⟨y0, y1, y2, y3, y4, y5, y6⟩ := X1.out.at_
    have f0 := X1.out.free 0
    have f1 := X1.out.free 1
    have f2 := X1.out.free 2
    have f3 := X1.out.free 3
    have f4 := X1.out.free 4
    have f5 := X1.out.free 5
    have f6 := X1.out.free 6
    simp only [Nat.zero_add] at y0 y1 y2 y3 y4 y5 y6
    have S := st7_at X1.out.at_ zz
    have SB := Lib.hid (st7_below B1.out HRB.out zz)
    clear e1 m1
    go_wp2
    change bodyPost _ _ _ _ _ (st7 w1 rb zz)
    generalize st7 w1 rb zz = W9 at S SB ⊢
    obtain ⟨c0, c1, c2, c3, c4, c5, c6⟩ := S
    simp only [zz, Nat.zero_add] at c0 c1 c2 c3 c4 c5 c6
    refine bodyPost_ret (v := .agg #[.int .i64 0, .int .i64 0, .int .i64 0, .int .i64 0, .int .i64 0, .int .i64 0, .int .i64 0]) (by simp [results, Tryd.results15, go_sem, c0, c1, c2, c3, c4, c5, c6]) rfl ⟨by rw [TZ.out]; try rfl, SB.out⟩
  | true =>
    have PVH := Lib.hid (pl.pv_iff.1 hv)
    have TZ := Lib.hid (show T = pl.sumTo l l.length from HT.out.trans (pl.sums_t hv))
    clear hv
    have b2 := (Below.refl w1.heap.size w1).alloc (Nat.le_refl _) (.cells #[.int .i64 0, .int .i64 0, .int .i64 0, .int .i64 0, .int .i64 0, .int .i64 0, .int .i64 0] 35)
    have B2 := Lib.hid (B1.out.trans (b2.mono B1.out.size))
    have R2 := Lib.hid (R1.out.keep (w' := w1.alloc (.cells #[.int .i64 0, .int .i64 0, .int .i64 0, .int .i64 0, .int .i64 0, .int .i64 0, .int .i64 0] 35)) fun h => b2.block g (Nat.lt_of_lt_of_le (GL.out h) B1.out.size))
    have X2 := Lib.hid (X1.out.keep (w' := w1.alloc (.cells #[.int .i64 0, .int .i64 0, .int .i64 0, .int .i64 0, .int .i64 0, .int .i64 0, .int .i64 0] 35)) (b2.block rb (by omega)))
    have Y2 := Lib.hid (Bx.zero w1)
    have sz2 : (w1.alloc (.cells #[.int .i64 0, .int .i64 0, .int .i64 0, .int .i64 0, .int .i64 0, .int .i64 0, .int .i64 0] 35)).heap.size = w1.heap.size + 1 := by simp
    clear b2 R1 X1 B1
    have hn24 : n ≤ 24 := by rw [HNZ.out]; exact PVH.out.1
    rw [← HNZ.out] at TZ
    have nrs : rb ≠ w1.heap.size := by omega
    have hws : w.heap.size ≤ w1.heap.size := by have := B2.out.size; have := HRB.out; omega
    rcases Nat.eq_zero_or_pos n with rfl | hp
    · clear e1
      obtain ⟨y0, y1, y2, y3, y4, y5, y6⟩ := X2.out.at_
      have f0 := X2.out.free 0
      have f1 := X2.out.free 1
      have f2 := X2.out.free 2
      have f3 := X2.out.free 3
      have f4 := X2.out.free 4
      have f5 := X2.out.free 5
      have f6 := X2.out.free 6
      simp only [Nat.zero_add] at y0 y1 y2 y3 y4 y5 y6
      have S := st7_at X2.out.at_ zz
      have SB := Lib.hid (st7_below B2.out HRB.out zz)
      obtain ⟨v0, v1, v2, v3, v4, v5, v6⟩ := Y2.out.at_
      simp only [zz, Nat.zero_add] at v0 v1 v2 v3 v4 v5 v6
      go_wp2_with fail
      generalize w1.alloc (.cells #[.int .i64 0, .int .i64 0, .int .i64 0, .int .i64 0, .int .i64 0, .int .i64 0, .int .i64 0] 35) = W2 at *
      go_loop [12] (fun i => i = .int .i64 0) (fun _ => 0)
      case atStart => exact rfl
      case round =>
        obtain rfl := hrel
        go_wp2
        change bodyPost _ _ _ _ _ (st7 W2 rb zz)
        generalize st7 W2 rb zz = W9 at S SB ⊢
        obtain ⟨c0, c1, c2, c3, c4, c5, c6⟩ := S
        simp only [zz, Nat.zero_add] at c0 c1 c2 c3 c4 c5 c6
        refine bodyPost_ret (v := .agg #[.int .i64 0, .int .i64 0, .int .i64 0, .int .i64 0, .int .i64 0, .int .i64 0, .int .i64 0]) (by simp [results, Tryd.results15, go_sem, c0, c1, c2, c3, c4, c5, c6]) rfl ⟨by rw [TZ.out]; try rfl, SB.out⟩
    · obtain rfl := e1 hp
      clear e1
      go_wp2_with fail
      obtain ⟨sb, hsb⟩ : ∃ sb, sb = w1.heap.size := ⟨_, rfl⟩
      rw [← hsb] at Y2 sz2 nrs hws ⊢
      generalize w1.alloc (.cells #[.int .i64 0, .int .i64 0, .int .i64 0, .int .i64 0, .int .i64 0, .int .i64 0, .int .i64 0] 35) = W2 at B2 R2 X2 Y2 sz2 ⊢
      clear hsb
      go_loopw [12] (fun i wr => Below w.heap.size w wr ∧ sb < wr.heap.size ∧ Row wr (some ⟨g, 0, none⟩) cap g l ∧ Bx wr rb zz ∧ ∃ k : Nat, k ≤ n ∧ i = .int .i64 k ∧ Bx wr sb (pl.sumTo l k)) (fun i _ => n - (intOf i).toNat)
      case atStart => exact ⟨B2.out, by omega, R2.out, X2.out, 0, by omega, rfl, Y2.out⟩
      case round =>
        obtain ⟨hB, hsz, hR, hX, k, hk, rfl, hY⟩ := hrel
        have BB := Lib.hid hB
        have RR := Lib.hid hR
        have XX := Lib.hid hX
        have YY := Lib.hid hY
        clear B2 R2 X2 Y2 sz2
        by_cases hlt : k < n
        · have HLT := Lib.hid (show k < l.length from by rw [← HNZ.out]; exact hlt)
          have q1 := hR.cells k HLT.out
          have glt := hR.lt (by rw [← HNZ.out]; exact hp)
          obtain ⟨x, hx⟩ : ∃ x, x = l.getD k zz := ⟨_, rfl⟩
          have HX := Lib.hid hx
          rw [← hx] at q1
          have PX := Lib.hid (show pl.Pin x from by rw [hx]; exact PVH.out.pin HLT.out)
          clear hx
          obtain ⟨x1, x2, x3, x4, x5, x6, x7⟩ := q1
          have z1 : (k : Int) < (n : Int) := by omega
          have u1 : decide (k < n) = true := by simp; omega
          have ngs : g ≠ sb := fun e => by have := GL.out (by rw [← HNZ.out]; omega); omega
          have ngr : g ≠ rb := fun e => by have := GL.out (by rw [← HNZ.out]; omega); have := HRB.out; omega
          have AD := Lib.hid (addI (wr.alloc (.cells #[.int .i64 x.1, .int .i64 x.2.1, .int .i64 x.2.2.1, .int .i64 x.2.2.2.1, .int .i64 x.2.2.2.2.1, .int .i64 x.2.2.2.2.2.1, .int .i64 x.2.2.2.2.2.2] 35)) sb (pl.sumTo l k) x (YY.out.keep (Below.heap_alloc _ _ _ hsz)).at_ (YY.out.keep (Below.heap_alloc _ _ _ hsz)).free (show pl.Sin 1000 (pl.sumTo l k) from by
            have := pl.sin PVH.out (k := k) (by rw [← HNZ.out]; omega)
            obtain ⟨a0, a1, a2, a3, a4, a5, a6, a7, a8, a9, b0, b1, b2⟩ := this
            exact ⟨a0, a1, by omega, a3, by omega, a5, by omega, a7, a8, a9, b0, b1, b2⟩) (Bd.pin PX.out))
          clear hB hR hX hY
          go_wp2_with fail
          refine AD.out.mono ?_
          rintro e w3 ⟨⟨v, rfl⟩, ha, hf, ht⟩
          have T3 := Lib.hid ht
          have Y3 := Lib.hid (show Bx w3 sb (pl.sumTo l (k + 1)) from ⟨by rw [pl.sumTo, ← HX.out]; exact ha, hf⟩)
          clear ha hf ht AD x1 x2 x3 x4 x5 x6 x7
          go_wp2
          go_roundw
          case rel =>
            have al := Below.heap_alloc wr (.cells #[.int .i64 x.1, .int .i64 x.2.1, .int .i64 x.2.2.1, .int .i64 x.2.2.2.1, .int .i64 x.2.2.2.2.1, .int .i64 x.2.2.2.2.2.1, .int .i64 x.2.2.2.2.2.2] 35)
            have s3 := T3.out.1.size
            refine ⟨(BB.out.alloc (BB.out.size) _).trans (T3.out.below (by omega)), by simp at s3; omega, RR.out.keep fun _ => (T3.out.2 g ngs (by simp; omega)).trans (al g glt), XX.out.keep ((T3.out.2 rb nrs (by simp; have := XX.out.at_.lt; omega)).trans (al rb XX.out.at_.lt)), k + 1, by omega, by go_num, Y3.out⟩
          case measure => simp [intOf]; omega
        · have u1 : decide (k < n) = false := by simp; omega
          obtain rfl : k = n := by omega
          obtain ⟨y0, y1, y2, y3, y4, y5, y6⟩ := hX.at_
          have f0 := hX.free 0
          have f1 := hX.free 1
          have f2 := hX.free 2
          have f3 := hX.free 3
          have f4 := hX.free 4
          have f5 := hX.free 5
          have f6 := hX.free 6
          simp only [Nat.zero_add] at y0 y1 y2 y3 y4 y5 y6
          obtain ⟨t, ht⟩ : ∃ t, t = pl.sumTo l k := ⟨_, rfl⟩
          rw [← ht] at YY hY TZ
          clear ht
          have S := st7_at hX.at_ t
          have SB := Lib.hid (st7_below hB HRB.out t)
          obtain ⟨v0, v1, v2, v3, v4, v5, v6⟩ := hY.at_
          simp only [Nat.zero_add] at v0 v1 v2 v3 v4 v5 v6
          clear hB hR hX hY
          go_wp2
          change bodyPost _ _ _ _ _ (st7 wr rb t)
          generalize st7 wr rb t = W9 at S SB ⊢
          obtain ⟨c0, c1, c2, c3, c4, c5, c6⟩ := S
          simp only [Nat.zero_add] at c0 c1 c2 c3 c4 c5 c6
          refine bodyPost_ret (v := .agg #[.int .i64 t.1, .int .i64 t.2.1, .int .i64 t.2.2.1, .int .i64 t.2.2.2.1, .int .i64 t.2.2.2.2.1, .int .i64 t.2.2.2.2.2.1, .int .i64 t.2.2.2.2.2.2]) (by simp [results, Tryd.results15, go_sem, c0, c1, c2, c3, c4, c5, c6]) rfl ⟨by rw [TZ.out]; try rfl, SB.out⟩
end Go.Proofs.YtchpjojndkkmeaaDoor.base
