/-
  Plain helpers of this seat's proofs: contracts of the functions that draw texts. Conditions: none.
-/
import Derived.Test.YtibkoacphfdlkaaJDr
import Derived.Test.YtibkoacphfdlkaaFfr
import Derived.IntWalk
import Derived.Deep.RegionHeld3
import Derived.Deep.RegionWith
namespace Go.Proofs.Ytibkoacphfdlkaa.draw
open Go.ChangeShapes Go.WideShapes Go.ChangeAt Go.RowKit
theorem ext0 (l : List UInt8) (j : Nat) : (⟨l.toArray⟩ : ByteArray).extract 0 j = ⟨(l.take j).toArray⟩ := by rw [frm.ext]; rfl
theorem ext1 (l : List UInt8) (j : Nat) : (⟨l.toArray⟩ : ByteArray).extract j l.length = ⟨(l.drop j).toArray⟩ := by rw [frm.ext, List.take_of_length_le (Nat.le_refl _)]
/-- A drawn text. -/
def GotS (w : World) (b len n : Nat) (e : Ending) (w' : World) : Prop :=
  ∃ l : List UInt8, l.length ≤ n ∧ e = .returned (.string ⟨l.toArray⟩) ∧ Only b w w' ∧ Rd w' b len
theorem four {w : World} {g k : Nat} {v0 v1 v2 v3 : Value} (h : w.cell? ⟨g, k, none⟩ = #[v0, v1, v2, v3][k]?) (hk : k < 4) : ∃ v, w.cell? ⟨g, k, none⟩ = some v ∧ (v = v0 ∨ v = v1 ∨ v = v2 ∨ v = v3) := by
  rw [h]
  obtain rfl | rfl | rfl | rfl : k = 0 ∨ k = 1 ∨ k = 2 ∨ k = 3 := by omega
  all_goals simp

theorem pick (k : Nat) (h : k < 4) : ∃ c : UInt8, (#[Value.string ⟨#[0]⟩, Value.string ⟨#[55]⟩, Value.string ⟨#[255]⟩, Value.string ⟨#[32]⟩] : Array Value)[k]? = some (.string ⟨#[c]⟩) := by
  obtain rfl | rfl | rfl | rfl : k = 0 ∨ k = 1 ∨ k = 2 ∨ k = 3 := by omega
  all_goals exact ⟨_, rfl⟩
theorem pick_new {w : World} {k : Nat} {c : UInt8} (hy : (#[Value.string ⟨#[0]⟩, Value.string ⟨#[55]⟩, Value.string ⟨#[255]⟩, Value.string ⟨#[32]⟩] : Array Value)[k]? = some (.string ⟨#[c]⟩)) :
    (w.alloc (.cells #[Value.string ⟨#[0]⟩, Value.string ⟨#[55]⟩, Value.string ⟨#[255]⟩, Value.string ⟨#[32]⟩] 9)).cell? ⟨w.heap.size, k, none⟩ = some (.string ⟨#[c]⟩) := (World.cell?_alloc_new w _ _ k).trans hy

theorem pick_old {w w3 : World} {b k : Nat} {c : UInt8} (h : Only b (w.alloc (.cells #[Value.string ⟨#[0]⟩, Value.string ⟨#[55]⟩, Value.string ⟨#[255]⟩, Value.string ⟨#[32]⟩] 9)).drew w3) (hb : w.heap.size ≠ b) (hy : (#[Value.string ⟨#[0]⟩, Value.string ⟨#[55]⟩, Value.string ⟨#[255]⟩, Value.string ⟨#[32]⟩] : Array Value)[k]? = some (.string ⟨#[c]⟩)) :
    w3.cell? ⟨w.heap.size, k, none⟩ = some (.string ⟨#[c]⟩) := (h.cell (k := w.heap.size) (o := k) (by show _ < (w.heap.push _).size; simp) hb).trans (pick_new (w := w) hy)

theorem str3 (l : List UInt8) (j : Nat) (y : UInt8) : (⟨l.toArray⟩ : ByteArray).extract 0 j ++ ⟨#[y]⟩ ++ (⟨l.toArray⟩ : ByteArray).extract (j + 1) l.length = ⟨(l.take j ++ [y] ++ l.drop (j + 1)).toArray⟩ := by
  rw [ext0, ext1]
  show (⟨(l.take j).toArray⟩ : ByteArray) ++ (⟨[y].toArray⟩ : ByteArray) ++ (⟨(l.drop (j + 1)).toArray⟩ : ByteArray) = _
  rw [crc.cat, crc.cat]
theorem len3 {l : List UInt8} {j : Nat} {y : UInt8} (h : j + 1 ≤ l.length) : (l.take j ++ [y] ++ l.drop (j + 1)).length ≤ l.length + 1 := by
  simp
  omega

set_option maxHeartbeats 1000000 in
theorem hurt (w : World) (b len : Nat) (l : List UInt8) (r : Rd w b len) (hl : l.length ≤ 1000) : Calls Try.prog 20 #[.pointer (some ⟨b, 0, none⟩), .string ⟨l.toArray⟩] w (GotS w b len (l.length + 1)) := by
  have R := Lib.hid r
  clear r
  go_enter Try.func20, Try.ntmps20
  go_wp2_with fail
  refine (below w b len 6 R.out (by omega) (by omega)).mono ?_
  rintro e w1 ⟨x, x1, x2, rfl, b1, r1⟩
  have R1 := Lib.hid r1
  have B1 := Lib.hid b1
  clear r1 b1
  obtain rfl | rfl | rfl | hx : x = 1 ∨ x = 2 ∨ x = 3 ∨ ¬ (x = 1 ∨ x = 2 ∨ x = 3) := by omega
  · go_wp2_with fail
    refine (below w1 b len ((l.length : Int) + 1) R1.out (by omega) (by omega)).mono ?_
    rintro e w2 ⟨j, j1, j2, rfl, b2, r2⟩
    obtain ⟨j, rfl⟩ := Int.eq_ofNat_of_zero_le j1
    have R2 := Lib.hid r2
    have B2 := Lib.hid (B1.out.trans b2)
    have j3 : (j : Int) ≤ (l.length : Int) := by omega
    clear r2 b2 j1 j2
    go_wp2
    go_ret
    exact ⟨l.take j, by simp; omega, crc.ret_str (ext0 l j), B2.out, R2.out⟩
  · by_cases hz : l.length = 0
    · have z0 : decide ((0 : Int) < (l.length : Int)) = false := decide_eq_false (by omega)
      go_wp2
      go_ret
      exact ⟨l, by omega, rfl, B1.out, R1.out⟩
    · have z0 : decide ((0 : Int) < (l.length : Int)) = true := decide_eq_true (by omega)
      go_wp2_with fail
      refine (below w1 b len (l.length : Int) R1.out (by omega) (by omega)).mono ?_
      rintro e w2 ⟨j, j1, j2, rfl, b2, r2⟩
      obtain ⟨j, rfl⟩ := Int.eq_ofNat_of_zero_le j1
      have R2 := Lib.hid r2
      have B2 := Lib.hid (B1.out.trans b2)
      have j3 : (j : Int) < (l.length : Int) := by omega
      have ja : (0 : Int) ≤ (j : Int) := by omega
      have jb : (j : Int) ≤ (l.length : Int) := by omega
      have j4 : (j : Int) + 1 ≤ (l.length : Int) := by omega
      have j5 : (0 : Int) ≤ (j : Int) + 1 := by omega
      have j6 : ((j : Int) + 1).toNat = j + 1 := by omega
      have j7 : j + 1 ≤ l.length := by omega
      have j8 : j < l.length := by omega
      have ew : IntKind.i64.wrap ((j : Int) + 1) = (j : Int) + 1 := IntWalk.i64_in _ (by omega)
      clear r2 b2 j1 j2
      go_wp2_with fail
      go_region_with ((go_at_call 18; (refine (below _ b len 4 ?_ (by omega) (by omega)).mono ?_; (first | exact R2.out.drew | exact (R2.out.alloc _).drew); rintro e w3 ⟨x, x3, x4, rfl, b3, r3⟩; obtain ⟨k, rfl⟩ := Int.eq_ofNat_of_zero_le x3; have k1 : (k : Int) < 4 := (by omega); obtain ⟨y, hy⟩ := pick k (by omega); have hv := pick_new (w := w3) hy; (first | (have hu := pick_old b3 (by have := R2.out.lt; omega) hy) | skip); have HX := Lib.hid (And.intro b3 r3); clear b3 r3 x4 hy)))
      all_goals go_wp2
      all_goals go_ret
      all_goals first
        | exact ⟨l.take j ++ [y] ++ l.drop (j + 1), len3 j7, crc.ret_str (str3 l j y), (B2.out.trans (Only.drew (Only.alloc (Only.refl b w2) _))).trans HX.out.1, HX.out.2⟩
        | exact ⟨l.take j ++ [y] ++ l.drop (j + 1), len3 j7, crc.ret_str (str3 l j y), ((B2.out.trans (Only.drew (Only.refl b w2))).trans HX.out.1).alloc _, HX.out.2.alloc _⟩
  · go_wp2_with fail
    refine (below _ b len 4 (R1.out.alloc _) (by omega) (by omega)).mono ?_
    rintro e w2 ⟨x, x3, x4, rfl, b2, r2⟩
    obtain ⟨k, rfl⟩ := Int.eq_ofNat_of_zero_le x3
    have c0 := b2.cell (k := w1.heap.size) (o := k) (by simp) (by have := R1.out.lt; omega)
    rw [World.cell?_alloc_new] at c0
    obtain ⟨v, hv, hcase⟩ := four c0 (by omega)
    obtain ⟨y, rfl, y1⟩ : ∃ y : List UInt8, v = .string ⟨y.toArray⟩ ∧ y.length ≤ 1 := by
      rcases hcase with rfl | rfl | rfl | rfl
      all_goals exact ⟨[_], rfl, by simp⟩
    have k1 : (k : Int) < 4 := by omega
    have B2 := Lib.hid (B1.out.trans ((Only.alloc (Only.refl b w1) _).trans b2))
    have R2 := Lib.hid r2
    clear c0 hcase b2 r2
    go_wp2
    go_ret
    exact ⟨l ++ y, by rw [List.length_append]; omega, crc.ret_str (crc.cat l y), B2.out, R2.out⟩
  · have q1 : (x == 1) = false := by simp; omega
    have q2 : (x == 2) = false := by simp; omega
    have q3 : (x == 3) = false := by simp; omega
    go_wp2
    go_ret
    exact ⟨l, by omega, rfl, B1.out, R1.out⟩
theorem fiv {w : World} {g k : Nat} {v0 v1 v2 v3 v4 : Value} (h : w.cell? ⟨g, k, none⟩ = #[v0, v1, v2, v3, v4][k]?) (hk : k < 5) : ∃ v, w.cell? ⟨g, k, none⟩ = some v ∧ (v = v0 ∨ v = v1 ∨ v = v2 ∨ v = v3 ∨ v = v4) := by
  rw [h]
  obtain rfl | rfl | rfl | rfl | rfl : k = 0 ∨ k = 1 ∨ k = 2 ∨ k = 3 ∨ k = 4 := by omega
  all_goals simp
set_option maxHeartbeats 1000000 in
theorem text (w : World) (b len : Nat) (r : Rd w b len) : Calls Try.prog 19 #[.pointer (some ⟨b, 0, none⟩)] w (GotS w b len 3) := by
  have R := Lib.hid r
  clear r
  go_enter Try.func19, Try.ntmps19
  go_wp2_with fail
  refine (below _ b len 5 (R.out.alloc _) (by omega) (by omega)).mono ?_
  rintro e w2 ⟨x, x3, x4, rfl, b2, r2⟩
  obtain ⟨k, rfl⟩ := Int.eq_ofNat_of_zero_le x3
  have c0 := b2.cell (k := w.heap.size) (o := k) (by simp) (by have := R.out.lt; omega)
  rw [World.cell?_alloc_new] at c0
  obtain ⟨v, hv, hcase⟩ := fiv c0 (by omega)
  obtain ⟨y, rfl, y1⟩ : ∃ y : List UInt8, v = .string ⟨y.toArray⟩ ∧ y.length ≤ 3 := by
    rcases hcase with rfl | rfl | rfl | rfl | rfl
    · exact ⟨[], rfl, by simp⟩
    · exact ⟨[_], rfl, by simp⟩
    · exact ⟨[_, _], rfl, by simp⟩
    · exact ⟨[_, _, _], rfl, by simp⟩
    · exact ⟨[_], rfl, by simp⟩
  have k1 : (k : Int) < 5 := by omega
  have B2 := Lib.hid ((Only.alloc (Only.refl b w) _).trans b2)
  have R2 := Lib.hid r2
  clear c0 hcase b2 r2
  go_wp2
  go_ret
  exact ⟨y, y1, rfl, B2.out, R2.out⟩
theorem info5 : (Try.prog.info? 5).map (fun i => (i.zero, i.size, i.bytes)) = some (some (.int .u8 0), 1, 1) := by kernel_rfl
theorem own_only {w w' : World} {b B : Nat} {e : TypeId} {size : Nat} {v : Value} {n : Nat} {xs : List Value} (h : w.ownsRow B e size v n xs) (hb : Only b w w') (hB : b < B) : w'.ownsRow B e size v n xs := by
  obtain ⟨h1, h2⟩ := h
  refine ⟨h1, ?_⟩
  rcases h2 with h2 | ⟨g, cap, cur, hv, hg, hh, r⟩
  · exact Or.inl h2
  · exact Or.inr ⟨g, cap, cur, hv, hg, by rw [hb.block g (Array.getElem?_eq_some_iff.1 hh).1 (by omega)]; exact hh, r⟩
theorem own_new5 (w : World) : (w.alloc (.cells #[] 5)).ownsRow w.heap.size 5 1 (.slice (some ⟨w.heap.size, 0, none⟩) 0 0) 0 [] := by
  refine ⟨rfl, .inr ⟨w.heap.size, 0, #[], rfl, Nat.le_refl _, ?_, Nat.le_refl _, Nat.zero_le _, rfl, rfl⟩⟩
  show (w.heap.push _)[w.heap.size]? = _
  simp
/-- A list of bytes that the call itself made, made a text. -/
theorem conv_own {w : World} {B : Nat} {v : Value} {n : Nat} {ys : List Int} (hl : ys.length = n) (hy : ∀ y ∈ ys, 0 ≤ y ∧ y ≤ 255) (h : w.ownsRow B 5 1 v n (ys.map (Value.int .u8))) : Sem.run Try.prog (convert 22 9 v) w = .ok (.string ⟨(ys.map fun y => UInt8.ofNat y.toNat).toArray⟩) w := by
  obtain ⟨h1, h2⟩ := h
  rcases h2 with ⟨rfl, h2⟩ | ⟨g, cap, cur, rfl, hg, hh, hn, hm, hs, ht⟩
  · have e : ys = [] := List.eq_nil_of_length_eq_zero (by omega)
    subst e
    simp [convert, run_underlying Try.underlying22, run_underlying Try.underlying9, run_underlying Try.underlying5, Conv.bytesToString]
    rfl
  · have := run_convert_bytes_back (P := Try.prog) w 22 9 5 ⟨g, 0, none⟩ cap (ys.map fun y => UInt8.ofNat y.toNat) Try.underlying22 Try.underlying5 Try.underlying9 (fun j hj => by
      simp only [List.length_map] at hj
      have e : cur[j]? = some (.int .u8 ys[j]) := by
        have q : (cur.toList.take (n * 1))[j]? = (ys.map (Value.int .u8))[j]? := by rw [ht]
        rw [Nat.mul_one, List.getElem?_take, if_pos (by omega)] at q
        rw [← Array.getElem?_toList, q]
        simp [hj]
      have hb := hy ys[j] (List.getElem_mem hj)
      have e2 : w.cell? ((⟨g, 0, none⟩ : Addr).add j) = some (.int .u8 ys[j]) := by
        have fx : (⟨g, 0, none⟩ : Addr).add j = ⟨g, j, none⟩ := by
          unfold Addr.add
          by_cases hj : j = 0 <;> simp [hj]
        rw [fx]
        unfold World.cell?
        simp [hh, e]
      rw [e2]
      simp
      omega)
    rw [List.length_map, hl] at this
    exact this
set_option maxHeartbeats 1000000 in
theorem bytes (w : World) (b len : Nat) (m : Int) (r : Rd w b len) (h0 : 0 ≤ m) (h1 : m ≤ 100) : Calls Try.prog 25 #[.pointer (some ⟨b, 0, none⟩), .int .i64 m] w (GotS w b len 100) := by
  have R := Lib.hid r
  have lb := r.lt
  clear r
  obtain ⟨i5, hi, hz0, hz1, hz2⟩ := info_parts info5
  have ON := Lib.hid (own_new5 w)
  have OA := Lib.hid (Only.alloc (Only.refl b w) (.cells #[] 5))
  go_enter Try.func25, Try.ntmps25
  go_wp2_with fail
  refine (below _ b len (m + 1) (R.out.alloc _) (by omega) (by omega)).mono ?_
  rintro e w2 ⟨x, x3, x4, rfl, b2, r2⟩
  obtain ⟨q, rfl⟩ := Int.eq_ofNat_of_zero_le x3
  have B2 := Lib.hid (OA.out.trans b2)
  have R2 := Lib.hid r2
  have O2 := Lib.hid (own_only ON.out b2 lb)
  have qb : q ≤ 100 := by omega
  have z2 := B2.out.size
  clear b2 r2 x3 x4 ON OA
  go_wp2
  go_loopw [5, 6] (fun o i wr => Only b w wr ∧ Rd wr b len ∧ ∃ (j : Nat) (ys : List Int), j + ys.length = q ∧ i = .int .i64 j ∧ (∀ y ∈ ys, 0 ≤ y ∧ y ≤ 255) ∧ wr.ownsRow w.heap.size 5 1 o ys.length (ys.map (Value.int .u8))) (fun _ i _ => (intOf i).toNat)
  case atStart => exact ⟨B2.out, R2.out, q, [], by simp, rfl, by simp, O2.out⟩
  case round =>
    obtain ⟨hO, hR, j, ys, hj, rfl, hy, hown⟩ := hrel
    have OO := Lib.hid hO
    have RR := Lib.hid hR
    have YY := Lib.hid hy
    have OWN := Lib.hid hown
    have hsz := hO.size
    clear hO hR hy hown B2 R2 O2
    by_cases hlt : 0 < j
    · have u1 : decide (0 < j) = true := by simp; omega
      have u1' : decide ((0 : Int) < (j : Int)) = true := by simp; omega
      go_wp2_with fail
      refine (below wr b len 256 RR.out (by omega) (by omega)).mono ?_
      rintro e w3 ⟨y, y1, y2, rfl, b3, r3⟩
      have O3 := Lib.hid (OO.out.trans b3)
      have R3 := Lib.hid r3
      have OW3 := Lib.hid (own_only OWN.out b3 lb)
      have z3 := O3.out.size
      have e8 : IntKind.u8.wrap y = y := by rw [IntKind.wrap_u8']; omega
      have e8' : y % 256 = y := by omega
      have yb : ys.length + 1 ≤ 101 := by omega
      clear b3 r3
      go_wp2_with (at_builtin; refine wpList_append_own _ rfl _ _ 22 rfl w.heap.size 5 i5 (.int .u8 0) 1 1 Try.underlying22 hi hz0 hz1 hz2 rfl (by decide) _ _ _ rfl (OW3.out.alloc _) ⟨w3.heap.size, 0, none⟩ 1 1 [.int .u8 y] rfl rfl ?c1 ?c2 ?c3 ?c4 ?c5 ?_)
      case c1 =>
        intro j u hj
        match j, hj with
        | 0, hj => simp at hj; subst hj; simp [Addr.add]
      case c2 => intro u hu; simp at hu; subst hu; rfl
      case c3 => unfold maxLen; omega
      case c4 => omega
      case c5 => simp; omega
      intro v' w4 hown' hgrow _
      have OW4 := Lib.hid (show w4.ownsRow w.heap.size 5 1 v' (ys ++ [y]).length ((ys ++ [y]).map (Value.int .u8)) from by rw [List.length_append, List.map_append]; exact hown')
      have KK : ∀ c, c < w3.heap.size → c < w.heap.size → w4.heap[c]? = w3.heap[c]? := fun c h1 h2 => by
        rw [hgrow.block c (by simp; omega) (fun e => by
          rcases OW3.out.2 with ⟨rfl, _⟩ | ⟨g, cap, cur, rfl, hg, _⟩
          · cases e
          · cases e
            change g < w.heap.size at h2
            omega), Below.heap_alloc w3 _ c h1]
      have B4 : Below w.heap.size w3 w4 := ⟨hgrow.os, hgrow.tape, hgrow.output, by have := hgrow.size; simp at this; omega, fun c hc => KK c (by omega) hc⟩
      have R4 := Lib.hid (R3.out.below B4 lb)
      have O4 := Lib.hid (show Only b w w4 from ⟨B4.os.trans O3.out.os, B4.tape.trans O3.out.tape, B4.output.trans O3.out.output, Nat.le_trans O3.out.size B4.size, fun c hc hn => (B4.block c hc).trans (O3.out.block c hc hn)⟩)
      clear hown' hgrow
      go_wp2
      go_roundw
      case rel => exact ⟨O4.out, R4.out, j - 1, ys ++ [y], by rw [List.length_append]; simp; omega, by go_num, fun z hz => (List.mem_append.1 hz).elim (YY.out z) (fun hz => by rw [List.mem_singleton.1 hz]; omega), OW4.out⟩
      case measure => simp [intOf]; omega
    · have u1 : decide (0 < j) = false := by simp; omega
      have u1' : decide ((0 : Int) < (j : Int)) = false := by simp; omega
      have hcv := conv_own rfl YY.out OWN.out
      go_wp2
      go_ret
      exact ⟨ys.map fun y => UInt8.ofNat y.toNat, by simp; omega, rfl, OO.out, RR.out⟩
end Go.Proofs.Ytibkoacphfdlkaa.draw
