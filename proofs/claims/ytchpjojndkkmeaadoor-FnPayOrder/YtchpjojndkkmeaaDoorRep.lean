/-
  Plain helpers of this seat's proofs: a list of ones. Conditions: none.
-/
import Derived.Test.YtchpjojndkkmeaaDoorRws
import Derived.Test.YtchpjojndkkmeaaDoorShelf
import Derived.Laws.CopyOwn
import Derived.Deep.RegionLaw
namespace Go.Proofs.YtchpjojndkkmeaaDoor.rows
open Go.ChangeShapes Go.WideShapes Go.ChangeAt Go.RowKit
theorem cellOf {w : World} {g t j : Nat} {cl : List Value} {v : Value} (h : w.heap[g]? = some (.cells cl.toArray t (0, 0))) (hj : cl[j]? = some v) : w.cell? ⟨g, j, none⟩ = some v := by
  unfold World.cell?; simp [h, hj]
theorem frzOf {w : World} {g t j : Nat} {cl : List Value} (h : w.heap[g]? = some (.cells cl.toArray t (0, 0))) : w.frozen? ⟨g, j, none⟩ = false := by
  unfold World.frozen?; simp [h]
/-- The first m cells of block g hold ones. -/
structure On (B w : World) (g n m : Nat) (cl : List Value) : Prop where
  len : cl.length = n
  one : ∀ i, i < m → cl[i]? = some (.int .i64 1)
  hh : w.heap[g]? = some (.cells cl.toArray 2 (0, 0))
  bl : Below B.heap.size B w
theorem splice_one {cl : List Value} {n m k : Nat} (hl : cl.length = n) (h : ∀ i, i < m → cl[i]? = some (.int .i64 1)) (hk : m + k ≤ n) : (splice cl m (List.replicate k (.int .i64 1))).length = n ∧ ∀ i, i < m + k → (splice cl m (List.replicate k (.int .i64 1)))[i]? = some (.int .i64 1) := by
  unfold splice
  refine ⟨by simp; omega, fun i hi => ?_⟩
  by_cases h1 : i < m
  · rw [List.getElem?_append_left (by simp; omega), List.getElem?_take, if_pos h1]; exact h i h1
  · rw [List.getElem?_append_right (by simp; omega), List.getElem?_append_left (by simp; omega), List.getElem?_replicate, if_pos (by simp; omega)]
set_option maxRecDepth 40000 in
set_option maxHeartbeats 2000000 in
theorem repI (n : Nat) (hn0 : 1 ≤ n) (hn : n ≤ 24) (w : World) (b : Nat) (h1 : w.cell? ⟨b, 0, none⟩ = some (.int .i64 1)) :
    Calls Tryd.prog 26 #[.slice (some ⟨b, 0, none⟩) 1 1, .int .i64 (n : Int)] w fun e w' => ∃ g, e = .returned (.slice (some ⟨g, 0, none⟩) n n) ∧ Row w' (some ⟨g, 0, none⟩) n g (List.replicate n 1) ∧ w.heap.size ≤ g ∧ g < w'.heap.size ∧ Below w.heap.size w w' := by
  have mixed : Tryd.prog.follows .mixedOrders = true := Tryd.checked.mixed
  have M := Lib.hid (Tryd.bits_Mul 1 n (by omega) (by omega) w)
  have d1 : decide ((n : Int) < 0) = false := by simp
  obtain ⟨i2, hi2, hz20, hz21, hz22⟩ := info_parts info2
  go_enter Tryd.func26, Tryd.ntmps26
  go_wp2_with fail
  refine M.out.mono ?_
  rintro e w' ⟨rfl, rfl⟩
  rw [show 1 * n / 18446744073709551616 = 0 by omega, show 1 * n % 18446744073709551616 = n by omega]
  clear M
  go_wp2_with (at_make; first
    | refine wpList_make_full _ rfl _ _ 37 rfl w'.heap.size 2 i2 (.int .i64 0) 1 Tryd.underlying37 hi2 hz20 hz21 _ _ _ _ n rfl rfl rfl rfl ?b2 ?b3 (Nat.le_refl _) ?_)
  case b2 => (try rw [hz22]); omega
  case b3 => unfold maxLen; omega
  intro w0 hown0 hgrow0
  have sz0 := hgrow0.size
  have BL := Lib.hid ((Below.refl w'.heap.size w').grown hgrow0 (Nat.le_refl _) (fun k h => by cases h))
  obtain ⟨z1, hown⟩ := hown0
  rcases hown with ⟨h2, _⟩ | ⟨g', cap', cur, hv, hg, hh, hcn, hm, hs, ht⟩
  · cases h2
  injection hv with q1 q2 q3
  injection q1 with q1
  injection q1 with q1 _ _
  subst q1 q3
  clear q2 hg hcn hm ht z1 hgrow0
  obtain ⟨g, hgq⟩ : ∃ g, g = w'.heap.size := ⟨_, rfl⟩
  rw [← hgq] at hh ⊢
  have gB : w'.heap.size ≤ g := by omega
  have hs2 : (Tryd.prog.info? 2).map (·.size) = some 1 := by rw [hi2]; simp [hz21]
  have hb0 : w0.cell? ⟨b, 0, none⟩ = some (.int .i64 1) := by rw [World.cell?_of_block (w := w') (a := ⟨b, 0, none⟩) (BL.out.block b (World.block_lt_of_cell? w' _ h1))]; exact h1
  have hc0 : w0.heap[g]? = some (.cells cur.toList.toArray 2 (0, 0)) := by simpa using hh
  have l0 : cur.toList.length = n := by simpa using hs
  have BLh := BL.out
  clear hh hs h1 hi2 hz20 hz21 hz22 hgq BL
  generalize cur.toList = cl at hc0 l0
  have hsrc : ∀ (j : Nat) (v : Value), (List.replicate 1 (Value.int .i64 1))[j]? = some v → w0.cell? ((⟨b, 0, none⟩ : Addr).add j) = some v := by
    intro j v hj
    cases j with
    | zero => simp at hj; subst hj; simpa [Addr.add] using hb0
    | succ j => simp at hj
  have hnm : (List.replicate 1 (Value.int .i64 1)).length = Nat.min 1 n := by
    show 1 = Nat.min 1 n
    have : Nat.min 1 n = 1 := Nat.min_eq_left hn0
    omega
  have hone : ∀ v ∈ List.replicate 1 (Value.int .i64 1), v.oneCell' = true := by intro v hv; rw [List.eq_of_mem_replicate hv]; rfl
  have hfit : 0 + (List.replicate 1 (Value.int .i64 1)).length ≤ cl.length := by simp; omega
  go_wp2_with (refine wpList_copy_splice rfl (.tmp 31) (.tmp 32) 37 37 rfl 2 Tryd.underlying37 hs2 (some ⟨g, 0, none⟩) (some ⟨b, 0, none⟩) n n 1 1 rfl rfl g 0 cl 2 hc0 (List.replicate 1 (.int .i64 1)) hnm (fun _ => ⟨rfl, _, rfl, hsrc⟩) hfit hone w'.heap.size w' BLh gB ?_; intro w1 hg1 hb1)
  have O1 := Lib.hid (show On w' w1 g n 1 _ from ⟨(splice_one (m := 0) (k := 1) l0 (fun i h => by omega) (by omega)).1, fun i hi => (splice_one (m := 0) (k := 1) l0 (fun i h => by omega) (by omega)).2 i (by omega), hg1, hb1⟩)
  clear hc0 l0 hb0 BLh hg1 hb1
  obtain ⟨c1, O1⟩ : ∃ c1, On w' w1 g n 1 c1 := ⟨_, O1.out⟩
  have O1 := Lib.hid O1
  go_loopw [8] (fun i wr => ∃ (m : Nat) (c : List Value), 1 ≤ m ∧ m ≤ n ∧ i = .int .i64 (m : Int) ∧ On w' wr g n m c) (fun i _ => n - (intOf i).toNat)
  case atStart => exact ⟨1, c1, Nat.le_refl _, hn0, by go_num, O1.out⟩
  case round =>
    obtain ⟨m, c, m0, m1, rfl, o⟩ := hrel
    have OO := Lib.hid o
    clear o
    by_cases lt : m < n
    · have v1 : decide ((m : Int) < (n : Int)) = true := by simp; omega
      have z0 : (0 : Int) ≤ (m : Int) := by omega
      have z1 : (m : Int) ≤ (n : Int) := by omega
      obtain ⟨k, hk⟩ : ∃ k, k = Nat.min m (n - m) := ⟨_, rfl⟩
      have hk1 : k ≤ m := by rw [hk]; exact Nat.min_le_left _ _
      have hk2 : k ≤ n - m := by rw [hk]; exact Nat.min_le_right _ _
      have hkp : 1 ≤ k := by rw [hk]; exact Nat.le_min.2 ⟨m0, by omega⟩
      have hsrc : ∀ (j : Nat) (v : Value), (List.replicate k (Value.int .i64 1))[j]? = some v → wr.drew.cell? ((⟨g, 0, none⟩ : Addr).add j) = some v := by
        intro j v hj
        have hjk : j < k := by have := (List.getElem?_eq_some_iff.1 hj).1; simpa using this
        rw [List.getElem?_replicate, if_pos hjk] at hj
        cases hj
        have h9 := cellOf (w := wr.drew) OO.out.hh (OO.out.one j (by omega))
        cases j with
        | zero => simpa [Addr.add] using h9
        | succ j => simpa [Addr.add] using h9
      have hnm : (List.replicate k (Value.int .i64 1)).length = Nat.min m (n - m) := by simp [hk]
      have hone : ∀ v ∈ List.replicate k (Value.int .i64 1), v.oneCell' = true := by intro v hv; rw [List.eq_of_mem_replicate hv]; rfl
      have hfit : m + (List.replicate k (Value.int .i64 1)).length ≤ c.length := by rw [OO.out.len]; simp; omega
      have BD := OO.out.bl.drew
      have hgd : wr.drew.heap[g]? = some (.cells c.toArray 2 (0, 0)) := OO.out.hh
      clear hk
      go_wp2_with fail
      refine wp_region_any mixed ?_
      change wpAny _ _ _ _ _ _ _ wr.drew
      refine wpAny_take (i := 0) (oi := { dst := some 38, op := Op.move (Operand.tmp 8), type := 3, pos := "slices.go:528", after := #[], guard := none }) (v := .int .i64 (m : Int)) rfl (by kernel_rfl) (by kernel_rfl) (by kernel_rfl) (fun _ _ _ h => h) (Or.inl ⟨by rfl, fun w2 => by go_simp⟩) ?_
      simp only [Act.put, List.setIfInBounds_toArray, List.set_cons_zero, List.set_cons_succ]
      refine wpAny_take (i := 1) (oi := { dst := some 39, op := Op.move (Operand.tmp 7), type := 37, pos := "slices.go:528", after := #[], guard := none }) (v := .slice (some ⟨g, 0, none⟩) n n) rfl (by kernel_rfl) (by kernel_rfl) (by kernel_rfl) (fun _ _ _ h => h) (Or.inl ⟨by rfl, fun w2 => by go_simp⟩) ?_
      simp only [Act.put, List.setIfInBounds_toArray, List.set_cons_zero, List.set_cons_succ]
      refine wpAny_take (i := 2) (oi := { dst := some 40, op := Op.move (Operand.tmp 8), type := 3, pos := "slices.go:528", after := #[], guard := none }) (v := .int .i64 (m : Int)) rfl (by kernel_rfl) (by kernel_rfl) (by kernel_rfl) (fun _ _ _ h => h) (Or.inl ⟨by rfl, fun w2 => by go_simp⟩) ?_
      simp only [Act.put, List.setIfInBounds_toArray, List.set_cons_zero, List.set_cons_succ]
      refine wpAny_take (i := 3) (oi := { dst := some 41, op := Op.slice 37 (Operand.tmp 39) (some (Operand.tmp 40)) none none, type := 37, pos := "slices.go:528", after := #[{ on := 1, ground := Ground.data }, { on := 2, ground := Ground.data }], guard := none }) (v := .slice (some ⟨g, m, none⟩) (n - m) (n - m)) rfl (by kernel_rfl) (by kernel_rfl) (by kernel_rfl) (fun _ _ _ h => h) (Or.inl ⟨by rfl, fun w2 => by go_simp; omega⟩) ?_
      simp only [Act.put, List.setIfInBounds_toArray, List.set_cons_zero, List.set_cons_succ]
      refine wpAny_take (i := 4) (oi := { dst := some 42, op := Op.move (Operand.tmp 7), type := 37, pos := "slices.go:528", after := #[], guard := none }) (v := .slice (some ⟨g, 0, none⟩) n n) rfl (by kernel_rfl) (by kernel_rfl) (by kernel_rfl) (fun _ _ _ h => h) (Or.inl ⟨by rfl, fun w2 => by go_simp⟩) ?_
      simp only [Act.put, List.setIfInBounds_toArray, List.set_cons_zero, List.set_cons_succ]
      refine wpAny_take (i := 5) (oi := { dst := some 43, op := Op.move (Operand.tmp 8), type := 3, pos := "slices.go:528", after := #[], guard := none }) (v := .int .i64 (m : Int)) rfl (by kernel_rfl) (by kernel_rfl) (by kernel_rfl) (fun _ _ _ h => h) (Or.inl ⟨by rfl, fun w2 => by go_simp⟩) ?_
      simp only [Act.put, List.setIfInBounds_toArray, List.set_cons_zero, List.set_cons_succ]
      refine wpAny_take (i := 6) (oi := { dst := some 44, op := Op.slice 37 (Operand.tmp 42) none (some (Operand.tmp 43)) none, type := 37, pos := "slices.go:528", after := #[{ on := 4, ground := Ground.data }, { on := 5, ground := Ground.data }], guard := none }) (v := .slice (some ⟨g, 0, none⟩) m n) rfl (by kernel_rfl) (by kernel_rfl) (by kernel_rfl) (fun _ _ _ h => h) (Or.inl ⟨by rfl, fun w2 => by go_simp⟩) ?_
      simp only [Act.put, List.setIfInBounds_toArray, List.set_cons_zero, List.set_cons_succ]
      refine wpAny_ready (rs := [7]) (by kernel_rfl) (by simp) ?_
      refine AllReady.cons (o := { dst := some 45, op := Op.call { callee := Callee.builtin Builtin.copy, args := #[Operand.tmp 41, Operand.tmp 44], argTypes := #[37, 37] }, type := 3, pos := "slices.go:528", after := #[{ on := 3, ground := Ground.data }, { on := 6, ground := Ground.data }], guard := none }) rfl (fun K hK => ?_) AllReady.nil
      refine step_copy_splice rfl (.tmp 41) (.tmp 44) 37 37 rfl 2 Tryd.underlying37 hs2 (some ⟨g, m, none⟩) (some ⟨g, 0, none⟩) (n - m) (n - m) m n rfl rfl g m c 2 hgd (List.replicate k (.int .i64 1)) hnm (fun _ => ⟨rfl, _, rfl, hsrc⟩) hfit hone w'.heap.size w' BD gB ?_
      intro w2 hg2 hb2
      refine hK _ _ ?_
      clear hK K
      have O2 := Lib.hid (show On w' w2 g n (m + k) _ from ⟨(splice_one OO.out.len OO.out.one (show m + k ≤ n by omega)).1, (splice_one OO.out.len OO.out.one (show m + k ≤ n by omega)).2, hg2, hb2⟩)
      clear hg2 hb2 hsrc hnm hone hfit BD hgd
      simp only [List.length_replicate]
      simp only [Act.put, List.setIfInBounds_toArray, List.set_cons_zero, List.set_cons_succ]
      refine wpAny_take (i := 8) (oi := { dst := some 46, op := Op.binOp BinOp.add 3 (Operand.tmp 38) (Operand.tmp 45) 3, type := 3, pos := "slices.go:528", after := #[{ on := 0, ground := Ground.data }, { on := 7, ground := Ground.data }], guard := none }) (v := .int .i64 ((m : Int) + (k : Int))) rfl (by kernel_rfl) (by kernel_rfl) (by kernel_rfl) (fun _ _ _ h => h) (Or.inl ⟨by rfl, fun w2 => by go_simp; rw [IntKind.wrap_i64]; omega⟩) ?_
      simp only [Act.put, List.setIfInBounds_toArray, List.set_cons_zero, List.set_cons_succ]
      refine wpAny_take (i := 9) (oi := { dst := some 8, op := Op.assign (Operand.tmp 46), type := 3, pos := "slices.go:528", after := #[{ on := 8, ground := Ground.data }, { on := 7, ground := Ground.chain }, { on := 0, ground := Ground.phase }, { on := 1, ground := Ground.phase }, { on := 2, ground := Ground.phase }, { on := 3, ground := Ground.phase }, { on := 4, ground := Ground.phase }, { on := 5, ground := Ground.phase }, { on := 6, ground := Ground.phase }, { on := 7, ground := Ground.phase }, { on := 8, ground := Ground.phase }], guard := none }) (v := .int .i64 ((m : Int) + (k : Int))) rfl (by kernel_rfl) (by kernel_rfl) (by kernel_rfl) (fun _ _ _ h => h) (Or.inl ⟨by rfl, fun w2 => by go_simp⟩) ?_
      simp only [Act.put, List.setIfInBounds_toArray, List.set_cons_zero, List.set_cons_succ]
      refine wpAny_done (by kernel_rfl) ?_ _
      go_wp2
      go_roundw
      case rel => exact ⟨m + k, _, by omega, by omega, by go_num, O2.out⟩
      case measure => simp [intOf]; omega
    · have v1 : decide ((m : Int) < (n : Int)) = false := by simp; omega
      obtain rfl : m = n := by omega
      go_wp2
      go_ret
      exact ⟨g, rfl, ⟨fun _ => rfl, by simp, fun i hi => by simp at hi; rw [show (List.replicate m (1 : Int)).getD i 0 = 1 from by simp [List.getD_eq_getElem?_getD, hi]]; exact cellOf OO.out.hh (OO.out.one i hi), fun _ i => frzOf OO.out.hh⟩, gB, (Array.getElem?_eq_some_iff.1 OO.out.hh).1, OO.out.bl⟩
end Go.Proofs.YtchpjojndkkmeaaDoor.rows
