/-
  Plain helpers of this seat's proofs: the contract of the landed function that adds posts to the map of balances. Conditions: none.
-/
import Derived.Test.YtnkdjnfbllkgiaaMp
import Derived.Deep.RegionWith
namespace Go.Proofs.Ytnkdjnfbllkgiaa.mp
open Go.ChangeShapes Go.WideShapes Go.ChangeAt Go.RowKit
open Go.ChangeMaps (setBlock)
open led (F5 z5 nn wn same at4 addE Apart addK addAll)
open five (Row At)
/-- Posts that can be added: their places are 64-bit numbers, their numbers are not too great. -/
structure Fit (l : List F5) : Prop where
  wf : ∀ i, i < l.length → W4 (l.getD i z5)
  num : ∀ i, i < l.length → -1000000000000000 ≤ nn (l.getD i z5) ∧ nn (l.getD i z5) ≤ 1000000000000000
/-- Balances of m posts at most. -/
def Small (L : List F5) (m : Nat) : Prop := ∀ x ∈ L, -(1000000000000000 * (m : Int)) ≤ nn x ∧ nn x ≤ 1000000000000000 * (m : Int)
theorem at4_mem : ∀ (L : List F5) (p : F5), at4 L p = 0 ∨ ∃ x ∈ L, at4 L p = nn x
  | [], _ => .inl rfl
  | x :: l, p => by
    unfold at4
    split
    · exact .inr ⟨x, by simp, rfl⟩
    · rcases at4_mem l p with h | ⟨y, hy, h⟩
      · exact .inl h
      · exact .inr ⟨y, by simp [hy], h⟩
theorem at4_small {L l : List F5} {m : Nat} (hS : Small L m) (hF : Fit l) (hm : m + l.length ≤ 1000) {k : Nat} (hk : k ≤ l.length) (p : F5) : -1000000000000000000 ≤ at4 (addK L l k) p ∧ at4 (addK L l k) p ≤ 1000000000000000000 := by
  rcases at4_mem (addK L l k) p with h | ⟨x, hx, h⟩
  · rw [h]; omega
  · rw [h]
    have := led.addK_bound (m := 1000000000000000 * (m : Int)) (by omega) hS hF.num k hk x hx
    omega
theorem setBlock_below {B : Nat} {w a : World} {b : Nat} {o : Obj} (h : Below B w a) (hb : B ≤ b) : Below B w (setBlock a b o) :=
  ⟨h.os, h.tape, h.output, by simp [setBlock]; exact h.size, fun k hk => by
    have e : (setBlock a b o).heap[k]? = a.heap[k]? := by simp [setBlock, show b ≠ k by omega]
    rw [e]; exact h.block k hk⟩
theorem setBlock_at {w : World} {b c o : Nat} {x : F5} {ob : Obj} (h : At w c o x) (hn : c ≠ b) : At (setBlock w b ob) c o x := h.keep (by simp [setBlock, Ne.symm hn])
set_option maxRecDepth 40000 in
set_option maxHeartbeats 4000000 in
theorem addP (w0 w : World) (b m : Nat) (L : List F5) (a : Option Addr) (cap g : Nat) (l : List F5) (r : Row w0 a cap g l) (hw : Below w0.heap.size w0 w) (hb : w0.heap.size ≤ b) (hM : Is w b L) (hS : Small L m) (hF : Fit l) (hm : m + l.length ≤ 1000) :
    Calls Try.prog 55 #[.map (some b), .slice a l.length cap] w fun e w' => e = .returned (.tuple #[]) ∧ Is w' b (addAll L l) ∧ Below b w w' := by
  have R := Lib.hid r
  have e1 := r.addr
  have m1 := r.room
  have HW := Lib.hid hw
  have HM := Lib.hid hM
  have HS := Lib.hid hS
  have HF := Lib.hid hF
  clear r hw hM hS hF
  obtain ⟨n, hnz⟩ : ∃ n, n = l.length := ⟨_, rfl⟩
  rw [← hnz] at hm e1 m1 ⊢
  have HNZ := Lib.hid hnz
  clear hnz
  go_enter Try.func55, Try.ntmps55
  go_wp2
  go_loopw [8] (fun iv wr => ∃ k : Nat, k ≤ n ∧ iv = .int .i64 k ∧ Hid (Is wr b (addK L l k)) ∧ Hid (Below b w wr)) (fun iv _ => n - (intOf iv).toNat)
  case atStart => exact ⟨0, by omega, rfl, Lib.hid (by rw [led.addK_zero]; exact HM.out), Lib.hid (Below.refl _ _)⟩
  case round =>
    obtain ⟨k, hk, rfl, MM, BB⟩ := hrel
    by_cases hlt : k < n
    · have HLT := Lib.hid (show k < l.length from by rw [← HNZ.out]; exact hlt)
      obtain rfl := e1 (by omega)
      have gl := R.out.lt (by rw [← HNZ.out]; omega)
      have q1 := (R.out.cells k HLT.out).keep ((BB.out.block g (by omega)).trans (HW.out.block g gl))
      have NX := Lib.hid (led.addK_succ L HLT.out)
      have f0 := HF.out.num k HLT.out
      have W4x := Lib.hid (HF.out.wf k HLT.out)
      obtain ⟨x, hx⟩ : ∃ x, x = l.getD k z5 := ⟨_, rfl⟩
      rw [← hx] at q1 f0 W4x NX
      have f1 : -1000000000000000 ≤ x.2.2.2.2 := f0.1
      have f2 : x.2.2.2.2 ≤ 1000000000000000 := f0.2
      have sb := at4_small HS.out HF.out (by rw [← HNZ.out]; exact hm) (Nat.le_of_lt HLT.out) x
      obtain ⟨x1, x2, x3, x4, x5⟩ := q1
      have z1 : (k : Int) < (n : Int) := by omega
      have u1 : decide (k < n) = true := by simp; omega
      have bl : b < wr.heap.size := MM.out.lt
      clear hx f0 gl e1
      obtain ⟨W1, hW1⟩ : ∃ W1, W1 = wr.alloc (.cells #[.int .i64 x.1, .int .i64 x.2.1, .int .i64 x.2.2.1, .int .i64 x.2.2.2.1, .int .i64 x.2.2.2.2] 52) := ⟨_, rfl⟩
      have A1 := Lib.hid (show At W1.drew wr.heap.size 0 x from by rw [hW1]; exact (five.At.boxed wr x _).keep rfl)
      have M1 := Lib.hid (show Is W1.drew b (addK L l k) from MM.out.keep (by rw [hW1]; exact Below.heap_alloc wr _ b bl))
      have B1 := Lib.hid (show Below b w W1.drew from by rw [hW1]; exact (BB.out.alloc (Nat.le_of_lt bl) _).drew)
      go_wp2_with fail
      rw [← hW1]
      clear hW1 x1 x2 x3 x4 x5
      obtain ⟨st, W2, hent, M2, ⟨o2, hW2⟩, hst⟩ := entry M1.out W4x.out
      obtain ⟨W3, hsto, M3, o3, hW3⟩ := hst x.2.2.2.2
      have hlk := look M1.out W4x.out
      have hlk2 := look M2 W4x.out
      rw [at4_add0] at hlk2
      have A2 := Lib.hid (show At W2 wr.heap.size 0 x from by rw [hW2]; exact setBlock_at A1.out (by omega))
      have B3 := Lib.hid (show Below b w W3 from by rw [hW3]; exact setBlock_below B1.out (Nat.le_refl _))
      have M3h := Lib.hid (show Is W3 b (addK L l (k + 1)) from by rw [NX.out]; exact M3)
      obtain ⟨s, hs⟩ : ∃ s, s = at4 (addK L l k) x := ⟨_, rfl⟩
      rw [← hs] at hlk hlk2 hent hsto sb
      have s1 := sb.1
      have s2 := sb.2
      unfold kv at hlk hlk2 hent
      obtain ⟨c0, c1, c2, c3, c4⟩ := A1.out
      obtain ⟨d0, d1, d2, d3, d4⟩ := A2.out
      simp only [Nat.zero_add] at c0 c1 c2 c3 c4 d0 d1 d2 d3 d4
      clear hst M2 M3 hW2 hW3 hs sb A1 A2 M1 B1 MM BB NX W4x
      rw [show s + x.2.2.2.2 = IntKind.i64.wrap (s + x.2.2.2.2) from (IntWalk.i64_in _ (by omega)).symm] at hsto
      go_region_with (fail)
      all_goals (clear hlk hlk2 hent hsto c0 c1 c2 c3 c4 d0 d1 d2 d3 d4; go_wp2; go_roundw)
      all_goals first
        | exact ⟨k + 1, by omega, by go_num, M3h, B3⟩
        | (simp [intOf]; omega)
    · obtain rfl : k = n := by omega
      have u1 : decide (k < k) = false := by simp
      clear e1
      go_wp2
      go_end0
      exact ⟨rfl, by rw [← led.addK_all, ← HNZ.out]; exact MM.out, BB.out⟩
end Go.Proofs.Ytnkdjnfbllkgiaa.mp
