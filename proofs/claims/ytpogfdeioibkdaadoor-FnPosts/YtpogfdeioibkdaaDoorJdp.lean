/-
  Plain helpers of this seat's proofs: drawn posts and drawn texts of posts. Conditions: none.
-/
import Derived.Test.YtpogfdeioibkdaaDoorJda
import Derived.Test.YtpogfdeioibkdaaDoorJdh
import Derived.Test.YtpogfdeioibkdaaDoorRps
namespace Go.Proofs.YtpogfdeioibkdaaDoor.draw
open Go.ChangeShapes Go.WideShapes Go.ChangeAt Go.RowKit
open led (F5 z5)
open ptm (PF pv)
theorem pfOnly {w w' : World} {p b : Nat} {x : F5} (h : PF w p x) (o : Only b w w') (hp : p ≠ b) : PF w' p x := five.Blk.keep h (o.block p h.lt hp) o.size
/-- A drawn post. -/
def GotP (w : World) (e : Ending) (w' : World) : Prop := ∃ x : F5, e = .returned (pv x) ∧ Below w.heap.size w w'
set_option maxRecDepth 20000 in
set_option maxHeartbeats 4000000 in
theorem drawPost (a : Option Addr) (len cap : Nat) (w : World) (hB : Bytes w a len) (h : len ≤ 1048576) : Calls Tryd.prog 9 #[.slice a len cap] w (GotP w) := by
  have B0 := Lib.hid (show Below w.heap.size w (w.alloc (.cells #[.int .i64 0, .int .i64 0, .int .i64 0, .int .i64 0, .int .i64 0] 27)) from five.bAl (Below.refl _ _) (Nat.le_refl _) _)
  have R0 := Lib.hid (show PF (w.alloc (.cells #[.int .i64 0, .int .i64 0, .int .i64 0, .int .i64 0, .int .i64 0] 27)) w.heap.size z5 from PF.new w z5 27)
  have z0 : (w.alloc (.cells #[.int .i64 0, .int .i64 0, .int .i64 0, .int .i64 0, .int .i64 0] 27)).heap.size = w.heap.size + 1 := World.size_alloc _ _
  have HB := Lib.hid (hB.below B0.out)
  clear hB
  go_enter Tryd.func9, Tryd.ntmps9
  go_wp2_with fail
  generalize w.alloc (.cells #[.int .i64 0, .int .i64 0, .int .i64 0, .int .i64 0, .int .i64 0] 27) = W0 at B0 R0 z0 HB ⊢
  refine (openRd a len cap W0 HB.out h).mono ?_
  rintro e w1 ⟨rfl, rd, b1⟩
  obtain ⟨b, hb⟩ : ∃ b, b = W0.heap.size := ⟨_, rfl⟩
  have z1 := b1.size
  have R1 := Lib.hid (R0.out.stay b1)
  have B1 := Lib.hid (B0.out.trans (b1.mono B0.out.size))
  rw [← hb] at rd ⊢
  have D1 := Lib.hid rd
  have bz : b = w.heap.size + 1 := by omega
  have HBZ := Lib.hid bz
  clear rd b1 R0 B0 hb bz
  go_wp2_with fail
  refine (acct w1 b len D1.out).mono ?_
  rintro e w2 ⟨x, y, z, -, -, -, rfl, o2, d2⟩
  have D2 := Lib.hid d2
  have O2 := Lib.hid o2
  have R2 := Lib.hid (pfOnly R1.out o2 (by have := HBZ.out; omega))
  clear d2 o2 D1 R1
  go_wp2_with fail
  refine (off w2 b len 0 5 D2.out (by omega) (by omega) (by omega)).mono ?_
  rintro e w3 ⟨c, -, rfl, o3, d3⟩
  have D3 := Lib.hid d3
  have O3 := Lib.hid (O2.out.trans o3)
  have R3 := Lib.hid (pfOnly R2.out o3 (by have := HBZ.out; omega))
  clear d3 o3 D2 R2 O2
  go_wp2_with fail
  refine (money w3 b len D3.out).mono ?_
  rintro e w4 ⟨f, rfl, o4, d4⟩
  have O4 := Lib.hid (O3.out.trans o4)
  have R4 := Lib.hid (pfOnly R3.out o4 (by have := HBZ.out; omega))
  have P5 := Lib.hid (show PF (w4.alloc (.cells #[.int .i64 x, .int .i64 y, .int .i64 z, .int .i64 c, .int .i64 f] 27)) w4.heap.size (x, y, z, c, f) from PF.new w4 (x, y, z, c, f) 27)
  have R5 := Lib.hid (R4.out.stay ((Below.refl w4.heap.size w4).alloc (Nat.le_refl _) (.cells #[.int .i64 x, .int .i64 y, .int .i64 z, .int .i64 c, .int .i64 f] 27)))
  have D5 := Lib.hid (d4.alloc (.cells #[.int .i64 x, .int .i64 y, .int .i64 z, .int .i64 c, .int .i64 f] 27))
  have O5 := Lib.hid (O4.out.alloc (.cells #[.int .i64 x, .int .i64 y, .int .i64 z, .int .i64 c, .int .i64 f] 27))
  have z4 := O4.out.size
  have b4 := d4.lt
  have z5' : (w4.alloc (.cells #[.int .i64 x, .int .i64 y, .int .i64 z, .int .i64 c, .int .i64 f] 27)).heap.size = w4.heap.size + 1 := World.size_alloc _ _
  clear d4 o4 D3 R3 O3 R4 O4
  go_wp2_with fail
  obtain ⟨p, hp⟩ : ∃ p, p = w4.heap.size := ⟨_, rfl⟩
  rw [← hp] at P5 z5' b4 ⊢
  generalize w4.alloc (.cells #[.int .i64 x, .int .i64 y, .int .i64 z, .int .i64 c, .int .i64 f] 27) = W5 at P5 R5 D5 O5 z5' ⊢
  have pb : p ≠ b := by omega
  have pn : w.heap.size < p := by have := HBZ.out; omega
  clear hp
  refine (once W5 b len 6 D5.out (by omega) (by omega)).mono ?_
  rintro e w6 ⟨t, rfl, o6, d6⟩
  have D6 := Lib.hid d6
  have O6 := Lib.hid (O5.out.trans o6)
  have R6 := Lib.hid (pfOnly R5.out o6 (by have := HBZ.out; omega))
  have P6 := Lib.hid (pfOnly P5.out o6 pb)
  have B6 := Lib.hid (B1.out.trans ((O5.out.trans o6).below (by have := HBZ.out; omega) |>.mono (by have := HBZ.out; omega)))
  clear d6 o6 D5 R5 P5 O5
  cases t with
  | false =>
    have FF := Lib.hid (R6.out.all (x, y, z, c, f))
    have BZ := Lib.hid (five.below_w5 B6.out (g := w.heap.size) (Nat.le_refl _) 0 (x, y, z, c, f))
    obtain ⟨r0, r1, r2, r3, r4⟩ := R6.out.pb
    have f0 := R6.out.free 0
    have f1 := R6.out.free 1
    have f2 := R6.out.free 2
    have f3 := R6.out.free 3
    have f4 := R6.out.free 4
    obtain ⟨y0, y1, y2, y3, y4⟩ := P6.out.pb
    dsimp only [z5] at r0 r1 r2 r3 r4
    dsimp only at y0 y1 y2 y3 y4
    go_wp2
    change bodyPost _ _ _ _ _ (five.w5 w6 w.heap.size 0 (x, y, z, c, f))
    generalize five.w5 w6 w.heap.size 0 (x, y, z, c, f) = WZ at FF BZ ⊢
    clear r0 r1 r2 r3 r4 f0 f1 f2 f3 f4 y0 y1 y2 y3 y4
    obtain ⟨r0, r1, r2, r3, r4⟩ := FF.out.pb
    dsimp only at r0 r1 r2 r3 r4
    exact bodyPost_ret (v := ptm.pv (x, y, z, c, f)) (by simp [results, Tryd.results9, go_sem, r0, r1, r2, r3, r4, ptm.pv]) rfl ⟨(x, y, z, c, f), rfl, BZ.out⟩
  | true =>
    go_wp2_with fail
    refine (off w6 b len (-1000000000000000) 1000000000000000 D6.out (by omega) (by omega) (by omega)).mono ?_
    rintro e w7 ⟨f', -, rfl, o7, d7⟩
    have R7 := Lib.hid (pfOnly R6.out o7 (by have := HBZ.out; omega))
    have P7 := Lib.hid (pfOnly P6.out o7 pb)
    have B7 := Lib.hid (B6.out.trans (o7.below (by have := D6.out.lt; omega) |>.mono (by have := HBZ.out; omega)))
    have yy := P7.out.cell 4 (by omega)
    have ff := P7.out.free 4
    change _ = some (Value.int .i64 f) at yy
    have P8 := Lib.hid (show PF (w7.setCell ⟨p, 4, none⟩ (.int .i64 f')) p (x, y, z, c, f') from P7.out.s4 f')
    have R8 := Lib.hid (show PF (w7.setCell ⟨p, 4, none⟩ (.int .i64 f')) w.heap.size z5 from R7.out.other (by omega) _)
    have B8 := Lib.hid (B7.out.setCell (p := ⟨p, 4, none⟩) (by show w.heap.size ≤ p; omega) (.int .i64 f'))
    clear o7 d7 R7 P7 B7 R6 P6
    obtain ⟨v0, v1, v2, v3, v4⟩ := P8.out.pb
    have FF := Lib.hid (R8.out.all (x, y, z, c, f'))
    have BZ := Lib.hid (five.below_w5 B8.out (g := w.heap.size) (Nat.le_refl _) 0 (x, y, z, c, f'))
    obtain ⟨r0, r1, r2, r3, r4⟩ := R8.out.pb
    have f0 := R8.out.free 0
    have f1 := R8.out.free 1
    have f2 := R8.out.free 2
    have f3 := R8.out.free 3
    have f4 := R8.out.free 4
    obtain ⟨y0, y1, y2, y3, y4⟩ := P8.out.pb
    dsimp only [z5] at r0 r1 r2 r3 r4
    dsimp only at y0 y1 y2 y3 y4
    go_wp2
    change bodyPost _ _ _ _ _ (five.w5 (w7.setCell ⟨p, 4, none⟩ (.int .i64 f')) w.heap.size 0 (x, y, z, c, f'))
    generalize five.w5 (w7.setCell ⟨p, 4, none⟩ (.int .i64 f')) w.heap.size 0 (x, y, z, c, f') = WZ at FF BZ ⊢
    clear r0 r1 r2 r3 r4 f0 f1 f2 f3 f4 y0 y1 y2 y3 y4
    obtain ⟨r0, r1, r2, r3, r4⟩ := FF.out.pb
    dsimp only at r0 r1 r2 r3 r4
    exact bodyPost_ret (v := ptm.pv (x, y, z, c, f')) (by simp [results, Tryd.results9, go_sem, r0, r1, r2, r3, r4, ptm.pv]) rfl ⟨(x, y, z, c, f'), rfl, BZ.out⟩

/-- A drawn text of a post. -/
def GotT (w : World) (e : Ending) (w' : World) : Prop := ∃ l : List UInt8, l.length ≤ 100 ∧ e = .returned (.string ⟨l.toArray⟩) ∧ Below w.heap.size w w'
set_option maxRecDepth 20000 in
set_option maxHeartbeats 4000000 in
theorem nine {w : World} {g k : Nat} {arr : Array Value} (h : Tab arr w g) (hk : k < 9) (ha : ∀ i, i < 9 → ∃ l : List UInt8, l.length ≤ 100 ∧ arr[i]? = some (.string ⟨l.toArray⟩)) : ∃ l : List UInt8, l.length ≤ 100 ∧ w.cell? ⟨g, k, none⟩ = some (.string ⟨l.toArray⟩) := by
  obtain ⟨l, hl, e⟩ := ha k hk
  exact ⟨l, hl, (h.2 k).trans e⟩
def nineV : Array Value := #[.string ⟨#[]⟩, .string ⟨#[49, 46, 49, 46, 49, 32, 69, 85, 82]⟩, .string ⟨#[49, 46, 49, 46, 49, 32, 69, 85, 82, 32, 48, 53]⟩, .string ⟨#[49, 46, 49, 46, 51, 32, 69, 85, 82, 32, 53]⟩, .string ⟨#[51, 46, 49, 46, 49, 32, 69, 85, 82, 32, 53]⟩, .string ⟨#[49, 46, 49, 32, 69, 85, 82, 32, 53]⟩, .string ⟨#[49, 46, 49, 46, 49, 32, 88, 88, 88, 32, 53]⟩, .string ⟨#[49, 46, 49, 46, 49, 32, 32, 69, 85, 82, 32, 53]⟩, .string ⟨#[49, 46, 49, 46, 49, 32, 69, 85, 82, 32, 45, 48]⟩]
theorem nineV_at : ∀ i, i < 9 → ∃ l : List UInt8, l.length ≤ 100 ∧ nineV[i]? = some (.string ⟨l.toArray⟩) := by
  intro i hi
  match i, hi with
  | 0, _ => exact ⟨[], by decide, rfl⟩
  | 1, _ => exact ⟨[49, 46, 49, 46, 49, 32, 69, 85, 82], by decide, rfl⟩
  | 2, _ => exact ⟨[49, 46, 49, 46, 49, 32, 69, 85, 82, 32, 48, 53], by decide, rfl⟩
  | 3, _ => exact ⟨[49, 46, 49, 46, 51, 32, 69, 85, 82, 32, 53], by decide, rfl⟩
  | 4, _ => exact ⟨[51, 46, 49, 46, 49, 32, 69, 85, 82, 32, 53], by decide, rfl⟩
  | 5, _ => exact ⟨[49, 46, 49, 32, 69, 85, 82, 32, 53], by decide, rfl⟩
  | 6, _ => exact ⟨[49, 46, 49, 46, 49, 32, 88, 88, 88, 32, 53], by decide, rfl⟩
  | 7, _ => exact ⟨[49, 46, 49, 46, 49, 32, 32, 69, 85, 82, 32, 53], by decide, rfl⟩
  | 8, _ => exact ⟨[49, 46, 49, 46, 49, 32, 69, 85, 82, 32, 45, 48], by decide, rfl⟩
set_option maxRecDepth 20000 in
set_option maxHeartbeats 4000000 in
theorem drawText (a : Option Addr) (len cap : Nat) (w : World) (hB : Bytes w a len) (h : len ≤ 1048576) : Calls Tryd.prog 11 #[.slice a len cap] w (GotT w) := by
  have HB := Lib.hid hB
  clear hB
  go_enter Tryd.func11, Tryd.ntmps11
  go_wp2_with fail
  refine (openRd a len cap w HB.out h).mono ?_
  rintro e w1 ⟨rfl, rd, b1⟩
  obtain ⟨b, hb⟩ : ∃ b, b = w.heap.size := ⟨_, rfl⟩
  have z1 := b1.size
  have B1 := Lib.hid b1
  rw [← hb] at rd ⊢
  have D1 := Lib.hid rd
  have HBZ := Lib.hid hb
  clear rd b1 hb
  go_wp2_with fail
  refine (acct w1 b len D1.out).mono ?_
  rintro e w2 ⟨x, y, z, -, -, -, rfl, o2, d2⟩
  have D2 := Lib.hid d2
  have O2 := Lib.hid o2
  clear d2 o2 D1
  go_wp2_with fail
  refine (below w2 b len 6 D2.out (by omega) (by omega)).mono ?_
  rintro e w3 ⟨c, c1, c2, rfl, o3, d3⟩
  have D3 := Lib.hid d3
  have O3 := Lib.hid (O2.out.trans o3)
  clear d3 o3 D2 O2
  have vc : IntKind.i64.wrap c = c := by rw [IntKind.wrap_i64]; omega
  go_wp2_with fail
  refine (below w3 b len 9000 D3.out (by omega) (by omega)).mono ?_
  rintro e w4 ⟨f, f1, f2, rfl, o4, d4⟩
  have D4 := Lib.hid d4
  have O4 := Lib.hid (O3.out.trans o4)
  clear d4 o4 D3 O3
  obtain ⟨f', hf'⟩ : ∃ f', f' = f - 4000 := ⟨_, rfl⟩
  have vf : IntKind.i64.wrap (f - 4000) = f' := by rw [hf', IntKind.wrap_i64]; omega
  have vf' : f - 4000 = f' := hf'.symm
  clear hf'
  go_wp2_with fail
  refine (ptm.textS (x, y, z, c, f') w4).mono ?_
  rintro e w5 ⟨rfl, b5⟩
  have tl := ptm.txt_len (x, y, z, c, f')
  obtain ⟨s, hs⟩ : ∃ s, s = ptm.txt (x, y, z, c, f') := ⟨_, rfl⟩
  rw [← hs] at tl ⊢
  have D5 := Lib.hid (D4.out.below b5 D4.out.lt)
  have O5 := Lib.hid (O4.out.trans (Only.of_below b5))
  clear hs b5 D4 O4 vf vf' vc
  go_wp2_with fail
  refine (below w5 b len 5 D5.out (by omega) (by omega)).mono ?_
  rintro e w6 ⟨k, k1, k2, rfl, o6, d6⟩
  have D6 := Lib.hid d6
  have O6 := Lib.hid (O5.out.trans o6)
  clear d6 o6 D5 O5
  have b1z : b ≤ w1.heap.size := by have := HBZ.out; omega
  have BK := Lib.hid (show ∀ W, Only b w1 W → Below w.heap.size w W from fun W o => back HBZ.out B1.out o)
  obtain rfl | rfl | hk : k = 0 ∨ k = 1 ∨ ¬ (k = 0 ∨ k = 1) := by omega
  · go_wp2_with fail
    refine (hurt w6 b len s D6.out (by omega)).mono ?_
    rintro e w7 ⟨l, hl, rfl, o7, d7⟩
    have B7 := Lib.hid (BK.out _ (O6.out.trans o7))
    clear o7 d7
    go_wp2
    go_ret
    exact ⟨l, by omega, rfl, B7.out⟩
  · have TB := Lib.hid (show Tab nineV (w6.alloc (.cells nineV 9)) w6.heap.size from Tab.new _ _ _)
    have DA := Lib.hid (D6.out.alloc (.cells nineV 9))
    have OA := Lib.hid (O6.out.alloc (.cells nineV 9))
    have lb := D6.out.lt
    have zA : (w6.alloc (.cells nineV 9)).heap.size = w6.heap.size + 1 := World.size_alloc _ _
    go_wp2_with fail
    change Calls _ _ _ (w6.alloc (.cells nineV 9)) _
    generalize w6.alloc (.cells nineV 9) = WA at TB DA OA zA ⊢
    refine (below WA b len 9 DA.out (by omega) (by omega)).mono ?_
    rintro e w7 ⟨j, j1, j2, rfl, o7, d7⟩
    obtain ⟨q, rfl⟩ : ∃ q : Nat, j = (q : Int) := ⟨j.toNat, by omega⟩
    obtain ⟨l, hl, cell⟩ := nine (TB.out.only o7 lb) (k := q) (by omega) nineV_at
    have B7 := Lib.hid (BK.out _ (OA.out.trans o7))
    have q1 : (q : Int) < 9 := by omega
    have q2 : q < 9 := by omega
    clear o7 d7
    go_wp2
    go_ret
    exact ⟨l, hl, rfl, B7.out⟩
  · have u0 : (k == 0) = false := by simp; omega
    have u1 : (k == 1) = false := by simp; omega
    have B6 := Lib.hid (BK.out _ O6.out)
    clear hk
    go_wp2
    go_ret
    exact ⟨s, by omega, rfl, B6.out⟩
end Go.Proofs.YtpogfdeioibkdaaDoor.draw
