/-
  Plain helpers of this seat's proofs: the landed text of an item. Conditions: none.
-/
import Derived.Test.YtcpglphhhmgjkaaDoorTxm
import Derived.Test.YtcpglphhhmgjkaaDoorShelf
import Derived.Deep.RegionHeld3
import Derived.Lib.ItoaMem
import Derived.Stop.LaidErr
namespace Go.Proofs.YtcpglphhhmgjkaaDoor.cm
open Go.ChangeShapes Go.WideShapes Go.ChangeAt Go.RowKit
open gen
open four (F4)
def Pow (w : World) : Prop := Lib.TabIs Tryd.prog w "internal/strconv.uint64pow10" .u64 Lib.pow10Tab
theorem gPow : Tryd.prog.globalNamed "internal/strconv.uint64pow10" = some 1 := by kernel_rfl
theorem Pow.below {B : Nat} {w w' : World} (h : Pow w) (hb : Below B w w') (hB : 1 < B) : Pow w' := var?_below hb gPow hB h

theorem fmtI (n : Nat) (w : World) (h : n ≤ 1000000000000) (c : Pow w) : Calls Tryd.prog 36 #[.int .i64 (n : Int), .int .i64 10] w fun e w' => e = .returned (.string ⟨(Lib.decDigits n).toArray⟩) ∧ Below w.heap.size w w' := by
  refine (Tryd.strconv_FormatInt_10 (n : Int) (by omega) (by omega) w c).mono ?_
  rintro e w' ⟨rfl, k, os, rfl⟩
  exact ⟨by rw [Lib.itoa_nonneg], Grew.below ⟨k, os, rfl⟩⟩
set_option maxHeartbeats 4000000 in
theorem itI (na nb : Nat) (xc xd : Int) (w : World) (s1 : na ≤ 1000000000000) (s2 : nb ≤ 1000000000000) (c : Pow w) (hB : 1 < w.heap.size) :
    Calls Tryd.prog 37 #[.agg #[.int .i64 (na : Int), .int .i64 (nb : Int), .int .i64 xc, .int .i64 xd]] w fun e w' => e = .returned (.string ⟨(Lib.decDigits na ++ 120 :: Lib.decDigits nb).toArray⟩) ∧ Below w.heap.size w w' := by
  have D1 := dec.dig_len na
  have D2 := dec.dig_len nb
  have h2 : (⟨(Lib.decDigits na).toArray⟩ : ByteArray).size ≤ 1000000000001 := by show (Lib.decDigits na).length ≤ _; omega
  have h3 : (⟨(Lib.decDigits nb).toArray⟩ : ByteArray).size ≤ 1000000000001 := by show (Lib.decDigits nb).length ≤ _; omega
  obtain ⟨A1, hA1⟩ : ∃ A, A = (⟨(Lib.decDigits na).toArray⟩ : ByteArray) ++ ⟨#[120]⟩ := ⟨_, rfl⟩
  obtain ⟨A2, hA2⟩ : ∃ A, A = A1 ++ (⟨(Lib.decDigits nb).toArray⟩ : ByteArray) := ⟨_, rfl⟩
  have g1 : A1.size ≤ 1000000000002 := by rw [hA1, ByteArray.size_append]; have : (⟨#[120]⟩ : ByteArray).size = 1 := rfl; omega
  have r1 : ∀ W, Sem.run Tryd.prog (Op.stringOp .add (⟨(Lib.decDigits na).toArray⟩ : ByteArray) ⟨#[120]⟩) W = .ok (.string A1) W := fun W => by rw [hA1]; exact run_string_add_sum W _ _ (by have : (⟨#[120]⟩ : ByteArray).size = 1 := rfl; omega)
  have r2 : ∀ W, Sem.run Tryd.prog (Op.stringOp .add A1 ⟨(Lib.decDigits nb).toArray⟩) W = .ok (.string A2) W := fun W => by rw [hA2]; exact run_string_add_sum W _ _ (by omega)
  have ST := Lib.hid (show A2 = ⟨(Lib.decDigits na ++ 120 :: Lib.decDigits nb).toArray⟩ from by
    rw [hA2, hA1, show (⟨#[120]⟩ : ByteArray) = ⟨[120].toArray⟩ from rfl, dec.cat, dec.cat]
    simp)
  have CP := Lib.hid (fun W (hb : Below w.heap.size w W) => Pow.below c hb hB)
  have b0 : Below w.heap.size w (w.alloc (.cells #[.int .i64 (na : Int), .int .i64 (nb : Int), .int .i64 xc, .int .i64 xd] 49)) := bAl (Below.refl _ _) (Nat.le_refl _) _
  have B0 := Lib.hid b0
  have FK := Lib.hid (fun W (hb : Below (w.heap.size + 1) (w.alloc (.cells #[.int .i64 (na : Int), .int .i64 (nb : Int), .int .i64 xc, .int .i64 xd] 49)) W) => show W.cell? ⟨w.heap.size, 0, none⟩ = some (.int .i64 (na : Int)) ∧ W.cell? ⟨w.heap.size, 1, none⟩ = some (.int .i64 (nb : Int)) from ⟨box_cell hb 0 rfl, box_cell hb 1 rfl⟩)
  have z0 : (w.alloc (.cells #[.int .i64 (na : Int), .int .i64 (nb : Int), .int .i64 xc, .int .i64 xd] 49)).heap.size = w.heap.size + 1 := by simp only [sz_al]
  have X0 := Lib.hid (box_refl w (.cells #[.int .i64 (na : Int), .int .i64 (nb : Int), .int .i64 xc, .int .i64 xd] 49))
  clear hA1 hA2 h2 h3 g1 D1 D2 c b0
  go_enter Tryd.func37, Tryd.ntmps37
  go_wp2_with fail
  generalize w.alloc (.cells #[.int .i64 (na : Int), .int .i64 (nb : Int), .int .i64 xc, .int .i64 xd] 49) = W0 at B0 FK z0 X0 ⊢
  have F0 := Lib.hid (FK.out W0 X0.out)
  have FD := Lib.hid (FK.out W0.drew X0.out.drew)
  have BD := Lib.hid B0.out.drew
  have XD := Lib.hid X0.out.drew
  have zD : W0.drew.heap.size = w.heap.size + 1 := z0
  go_region_held3 (fun w' => w'.cell? ⟨w.heap.size, 0, none⟩ = some (.int .i64 (na : Int)) ∧ w'.cell? ⟨w.heap.size, 1, none⟩ = some (.int .i64 (nb : Int))) (first | exact F6.out | exact F5.out | exact FD.out | exact F0.out | go_keep)
    (first
      | (go_at_call 36; refine (fmtI nb w5 (by omega) (CP.out _ B5.out)).mono ?_; rintro e w6 ⟨rfl, b6⟩; have B6 := Lib.hid (B5.out.trans (b6.mono B5.out.size)); have F6 := Lib.hid (FK.out w6 (X5.out.trans (b6.mono (by have := X5.out.size; omega)))); clear b6)
      | (go_at_call 36; refine (fmtI na W0.drew (by omega) (CP.out _ BD.out)).mono ?_; rintro e w5 ⟨rfl, b5⟩; have B5 := Lib.hid (BD.out.trans (b5.mono BD.out.size)); have X5 := Lib.hid (XD.out.trans (b5.mono (by omega))); have F5 := Lib.hid (FK.out w5 X5.out); clear b5))
  all_goals
    go_wp2
    go_ret
    exact ⟨by rw [← ST.out]; rfl, B6.out⟩
end Go.Proofs.YtcpglphhhmgjkaaDoor.cm
