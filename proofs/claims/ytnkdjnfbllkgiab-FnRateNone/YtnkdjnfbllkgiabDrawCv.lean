/-
  Plain helpers of this seat's proofs: the contract of the function that draws the arguments of Converted. Conditions: none.
-/
import Derived.Test.YtnkdjnfbllkgiabDrawRt
namespace Go.Proofs.Ytnkdjnfbllkgiab.draw
open Go.ChangeShapes Go.WideShapes Go.ChangeAt Go.RowKit
open led (F5 z5)
open five (Row At Blk)
def DrewCv (w : World) (e : Ending) (w' : World) : Prop := ∃ a cap g, ∃ (l : List F5) (n f t d : Int), e = .returned (.tuple #[.slice a l.length cap, .int .i64 n, .int .i64 f, .int .i64 t, .int .i64 d]) ∧ Row w' a cap g l ∧ (0 < l.length → w.heap.size ≤ g ∧ g < w'.heap.size) ∧ l.length ≤ 100 ∧ Below w.heap.size w w'
theorem Row.only {w w' : World} {b : Nat} {a : Option Addr} {cap g : Nat} {l : List F5} (r : Row w a cap g l) (o : Only b w w') (hg : 0 < l.length → g ≠ b) : Row w' a cap g l := r.keep fun h => o.block g (r.lt h) (hg h)
set_option maxRecDepth 40000 in
set_option maxHeartbeats 4000000 in
theorem drawCv (a : Option Addr) (len cap : Nat) (w : World) (hB : Bytes w a len) (h : len ≤ 1048576) : Calls Try.prog 31 #[.slice a len cap] w (DrewCv w) := by
  have HB := Lib.hid hB
  clear hB
  go_enter Try.func31, Try.ntmps31
  go_wp2_with fail
  refine (openRd a len cap w HB.out h).mono ?_
  rintro e w1 ⟨rfl, r1, b1⟩
  have R1 := Lib.hid r1
  have B1 := Lib.hid b1
  have s1 := r1.lt
  clear r1 b1
  go_wp2_with fail
  refine (rates w1 w.heap.size len R1.out).mono ?_
  rintro e w2 ⟨al, cl, g, l, rfl, rw2, G, hl, o2, r2⟩
  have R2 := Lib.hid r2
  have O2 := Lib.hid o2
  have L2 := Lib.hid rw2
  have GG := Lib.hid G
  have GB := Lib.hid (show 0 < l.length → g ≠ w.heap.size from fun h => by have := (G h).1; omega)
  have s2 := o2.size
  clear rw2 G o2 r2
  go_wp2_with fail
  refine (money w2 w.heap.size len R2.out).mono ?_
  rintro e w3 ⟨n, rfl, o3, r3⟩
  have R3 := Lib.hid r3
  have O3 := Lib.hid (O2.out.trans o3)
  have L3 := Lib.hid (Row.only L2.out o3 GB.out)
  have s3 := o3.size
  clear o3 r3 L2
  go_wp2_with fail
  refine (once w3 w.heap.size len 12 R3.out (by omega) (by omega)).mono ?_
  rintro e w4 ⟨t, rfl, o4, r4⟩
  have R4 := Lib.hid r4
  have O4 := Lib.hid (O3.out.trans o4)
  have L4 := Lib.hid (Row.only L3.out o4 GB.out)
  have s4 := o4.size
  clear o4 r4 L3
  cases t with
  | false =>
    go_wp2_with fail
    refine (below w4 w.heap.size len 3 R4.out (by omega) (by omega)).mono ?_
    rintro e w5 ⟨f, f1, f2, rfl, o5, r5⟩
    have R5 := Lib.hid r5
    have O5 := Lib.hid (O4.out.trans o5)
    have L5 := Lib.hid (Row.only L4.out o5 GB.out)
    have s5 := o5.size
    clear o5 r5
    go_wp2_with fail
    refine (below w5 w.heap.size len 3 R5.out (by omega) (by omega)).mono ?_
    rintro e w6 ⟨t, t1, t2, rfl, o6, r6⟩
    have R6 := Lib.hid r6
    have O6 := Lib.hid (O5.out.trans o6)
    have L6 := Lib.hid (Row.only L5.out o6 GB.out)
    have s6 := o6.size
    clear o6 r6
    go_wp2_with fail
    refine (below w6 w.heap.size len 150 R6.out (by omega) (by omega)).mono ?_
    rintro e w7 ⟨d, d1, d2, rfl, o7, r7⟩
    have O7 := Lib.hid (O6.out.trans o7)
    have L7 := Lib.hid (Row.only L6.out o7 GB.out)
    have s7 := o7.size
    clear o7 r7
    go_wp2
    refine bodyPost_ret (v := .tuple #[.slice al l.length cl, .int .i64 n, .int .i64 f, .int .i64 t, .int .i64 d]) (by simp [results, Try.results31, go_sem]) rfl ⟨al, cl, g, l, n, f, t, d, rfl, L7.out, fun h => ⟨by have := (GG.out h).1; omega, by have := (GG.out h).2; omega⟩, hl, back rfl B1.out O7.out⟩
  | true =>
    go_wp2_with fail
    refine (off w4 w.heap.size len (-1000000000000) 1000000000000 R4.out (by omega) (by omega) (by omega)).mono ?_
    rintro e w4' ⟨n', nw, rfl, o4, r4⟩
    have R4' := Lib.hid r4
    have O4' := Lib.hid (O4.out.trans o4)
    have L4' := Lib.hid (Row.only L4.out o4 GB.out)
    have s4' := o4.size
    clear o4 r4 nw
    go_wp2_with fail
    refine (below w4' w.heap.size len 3 R4'.out (by omega) (by omega)).mono ?_
    rintro e w5 ⟨f, f1, f2, rfl, o5, r5⟩
    have R5 := Lib.hid r5
    have O5 := Lib.hid (O4'.out.trans o5)
    have L5 := Lib.hid (Row.only L4'.out o5 GB.out)
    have s5 := o5.size
    clear o5 r5
    go_wp2_with fail
    refine (below w5 w.heap.size len 3 R5.out (by omega) (by omega)).mono ?_
    rintro e w6 ⟨t, t1, t2, rfl, o6, r6⟩
    have R6 := Lib.hid r6
    have O6 := Lib.hid (O5.out.trans o6)
    have L6 := Lib.hid (Row.only L5.out o6 GB.out)
    have s6 := o6.size
    clear o6 r6
    go_wp2_with fail
    refine (below w6 w.heap.size len 150 R6.out (by omega) (by omega)).mono ?_
    rintro e w7 ⟨d, d1, d2, rfl, o7, r7⟩
    have O7 := Lib.hid (O6.out.trans o7)
    have L7 := Lib.hid (Row.only L6.out o7 GB.out)
    have s7 := o7.size
    clear o7 r7
    go_wp2
    refine bodyPost_ret (v := .tuple #[.slice al l.length cl, .int .i64 n', .int .i64 f, .int .i64 t, .int .i64 d]) (by simp [results, Try.results31, go_sem]) rfl ⟨al, cl, g, l, n', f, t, d, rfl, L7.out, fun h => ⟨by have := (GG.out h).1; omega, by have := (GG.out h).2; omega⟩, hl, back rfl B1.out O7.out⟩
end Go.Proofs.Ytnkdjnfbllkgiab.draw
