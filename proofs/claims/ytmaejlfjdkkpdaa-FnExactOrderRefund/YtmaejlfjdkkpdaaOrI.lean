/-
  Plain helpers of this seat's proofs: the outcomes of a refund of an order; the contract of the landed OrderRefund. Conditions: none.
-/
import Derived.Test.YtmaejlfjdkkpdaaSi
import Derived.Test.YtmaejlfjdkkpdaaFl7
import Derived.Test.YtmaejlfjdkkpdaaTkI
import Derived.Test.YtmaejlfjdkkpdaaOk6
import Derived.Test.YtmaejlfjdkkpdaaShr
import Derived.Test.YtmaejlfjdkkpdaaRs6
import Derived.Test.YtmaejlfjdkkpdaaCp6
import Derived.BigQuiet
namespace Go.Proofs.Ytmaejlfjdkkpdaa.four
open Go.ChangeShapes Go.WideShapes Go.ChangeAt Go.RowKit
open gen
theorem rowSet3 {w : World} {a : Option Addr} {cap g k : Nat} {l : List F4} {x : F4} (r : Row w a cap g l) (hk : k < l.length) (hx : l.getD k zz = x) (v : Int) : Row (w.setCell ⟨g, k * 4 + 3, none⟩ (.int .i64 v)) a cap g (l.set k (x.1, x.2.1, x.2.2.1, v)) := by
  refine ⟨fun h => r.addr (by simpa using h), by simpa using r.room, fun i hi => ?_, fun h i => by rw [World.frozen?_setCell]; exact r.free (by simpa using h) i⟩
  simp at hi
  by_cases e : i = k
  · subst e
    rw [show (l.set i (x.1, x.2.1, x.2.2.1, v)).getD i zz = (x.1, x.2.1, x.2.2.1, v) from by rw [List.getD_eq_getElem?_getD, List.getElem?_set_self hi]; rfl]
    have h0 := r.cells i hi
    rw [hx] at h0
    constructor
    · exact (World.cell?_setCell_other w ⟨g, i * 4 + 3, none⟩ ⟨g, i * 4, none⟩ (.int .i64 v) (fun q => by injection q with q1 q2; omega)).trans h0.c0
    · exact (World.cell?_setCell_other w ⟨g, i * 4 + 3, none⟩ ⟨g, i * 4 + 1, none⟩ (.int .i64 v) (fun q => by injection q with q1 q2; omega)).trans h0.c1
    · exact (World.cell?_setCell_other w ⟨g, i * 4 + 3, none⟩ ⟨g, i * 4 + 2, none⟩ (.int .i64 v) (fun q => by injection q with q1 q2; omega)).trans h0.c2
    · exact World.cell?_setCell_same' w ⟨g, i * 4 + 3, none⟩ (.int .i64 v) (by rw [h0.c3]; rfl)
  · rw [show (l.set k (x.1, x.2.1, x.2.2.1, v)).getD i zz = l.getD i zz from by rw [List.getD_eq_getElem?_getD, List.getElem?_set_ne (Ne.symm e), ← List.getD_eq_getElem?_getD]]
    have h0 := r.cells i hi
    constructor
    · exact (World.cell?_setCell_other w ⟨g, k * 4 + 3, none⟩ ⟨g, i * 4, none⟩ (.int .i64 v) (fun q => by injection q with q1 q2; omega)).trans h0.c0
    · exact (World.cell?_setCell_other w ⟨g, k * 4 + 3, none⟩ ⟨g, i * 4 + 1, none⟩ (.int .i64 v) (fun q => by injection q with q1 q2; omega)).trans h0.c1
    · exact (World.cell?_setCell_other w ⟨g, k * 4 + 3, none⟩ ⟨g, i * 4 + 2, none⟩ (.int .i64 v) (fun q => by injection q with q1 q2; omega)).trans h0.c2
    · exact (World.cell?_setCell_other w ⟨g, k * 4 + 3, none⟩ ⟨g, i * 4 + 3, none⟩ (.int .i64 v) (fun q => by injection q with q1 q2; omega)).trans h0.c3
end Go.Proofs.Ytmaejlfjdkkpdaa.four
namespace Go.Proofs.Ytmaejlfjdkkpdaa.ob
open Go.ChangeShapes Go.WideShapes Go.ChangeAt Go.RowKit
open gen
open four (F4)
open ord (Sc iok)
set_option maxRecDepth 40000 in
set_option maxHeartbeats 4000000 in
theorem itNo (i : Int) (w : World) (b : Nat) (s : Sc) (ai : Option Addr) (n ci : Nat) (ap : Option Addr) (np cp : Nat) (h : OB w b s ai n ci ap np cp) (hi : ¬ (0 ≤ i ∧ i < (n : Int))) :
    Calls Try.prog 109 #[.pointer (some ⟨b, 0, none⟩), .int .i64 i] w fun e w' => e = .returned (.pointer none) ∧ w = w' := by
  have y9 := h.c9
  clear h
  go_enter Try.func109, Try.ntmps109
  by_cases q : i < 0
  · have d1 : decide (i < 0) = true := by simp; omega
    go_wp2
    go_ret
    exact ⟨rfl, rfl⟩
  · have d1 : decide (i < 0) = false := by simp; omega
    have d2 : decide ((n : Int) ≤ i) = true := by simp; omega
    go_wp2
    go_ret
    exact ⟨rfl, rfl⟩
set_option maxRecDepth 40000 in
set_option maxHeartbeats 4000000 in
theorem itYes (k : Nat) (w : World) (b : Nat) (s : Sc) (gi n ci : Nat) (ap : Option Addr) (np cp : Nat) (h : OB w b s (some ⟨gi, 0, none⟩) n ci ap np cp) (hk : k < n) :
    Calls Try.prog 109 #[.pointer (some ⟨b, 0, none⟩), .int .i64 (k : Int)] w fun e w' => e = .returned (.pointer (some ⟨gi, k * 4, none⟩)) ∧ w = w' := by
  have y9 := h.c9
  clear h
  have d1 : decide ((k : Int) < 0) = false := by simp
  have d2 : decide ((n : Int) ≤ (k : Int)) = false := by simp; omega
  have d3 : decide (n ≤ k) = false := by simp; omega
  have z1 : (k : Int) < (n : Int) := by omega
  go_enter Try.func109, Try.ntmps109
  go_wp2
  go_ret
  exact ⟨rfl, rfl⟩
end Go.Proofs.Ytmaejlfjdkkpdaa.ob

namespace Go.Proofs.Ytmaejlfjdkkpdaa.ob
open Go.ChangeShapes Go.WideShapes Go.ChangeAt Go.RowKit
open gen
open seven (F7 zz Row At)
open four (F4)
open pl (inR)
open pls (nth Pls OL)
open ord (Sc iok)
theorem bdn (w : World) (n : Nat) : Below w.heap.size w (w.drewN n) := have h := Below.refl w.heap.size w
  ⟨h.os, h.tape, h.output, h.size, h.block⟩
set_option maxRecDepth 40000 in
set_option maxHeartbeats 4000000 in
theorem rf2 (i q : Int) (w : World) (b : Nat) (s : Sc) (ai : Option Addr) (n ci : Nat) (ap : Option Addr) (np cp : Nat) (h : OB w b s ai n ci ap np cp) (hi : ¬ (0 ≤ i ∧ i < (n : Int))) :
    Calls Try.prog 73 #[.pointer (some ⟨b, 0, none⟩), .int .i64 i, .int .i64 q] w fun e w' => e = .returned (.tuple #[.int .i64 0, .int .i64 0, .int .i64 2]) ∧ Below w.heap.size w w' := by
  have C := itNo i w b s ai n ci ap np cp h hi
  clear h hi
  go_enter Try.func73, Try.ntmps73
  go_wp2_with fail
  refine C.mono ?_
  rintro e w' ⟨rfl, rfl⟩
  go_wp2_with fail
  refine bodyPost_ret (v := .tuple #[.int .i64 0, .int .i64 0, .int .i64 2]) (by simp [results, Try.f73, go_sem]) rfl ⟨rfl, Below.refl _ _⟩
set_option maxRecDepth 40000 in
set_option maxHeartbeats 4000000 in
theorem rf3 (k : Nat) (q : Int) (w : World) (b : Nat) (s : Sc) (gi ci : Nat) (l : List F4) (ap : Option Addr) (np cp : Nat) (h : OB w b s (some ⟨gi, 0, none⟩) l.length ci ap np cp) (r : four.Row w (some ⟨gi, 0, none⟩) ci gi l) (hk : k < l.length) (hv : ord.Iin (l.getD k four.zz)) (hq : ¬ (1 ≤ q ∧ q ≤ (l.getD k four.zz).2.2.1 - (l.getD k four.zz).2.2.2)) :
    Calls Try.prog 73 #[.pointer (some ⟨b, 0, none⟩), .int .i64 (k : Int), .int .i64 q] w fun e w' => e = .returned (.tuple #[.int .i64 0, .int .i64 0, .int .i64 3]) ∧ Below w.heap.size w w' := by
  have C := itYes k w b s gi l.length ci ap np cp h hk
  have A := r.cells k hk
  generalize l.getD k four.zz = x at A hv hq
  obtain ⟨x1, x2, x3, x4⟩ := x
  obtain ⟨a0, a1, a2, a3⟩ := A
  obtain ⟨v1, v2, v3, v4, v5, v6, v7, v8⟩ := hv
  dsimp only at a0 a1 a2 a3 v1 v2 v3 v4 v5 v6 v7 v8 hq
  clear h r hk
  go_enter Try.func73, Try.ntmps73
  go_wp2_with fail
  refine C.mono ?_
  rintro e w' ⟨rfl, rfl⟩
  clear C
  by_cases t : q < 1
  · have d1 : decide (q < 1) = true := by simp; omega
    clear hq
    go_wp2_with fail
    go_quiet (fail)
    go_wp2_with fail
    refine bodyPost_ret (v := .tuple #[.int .i64 0, .int .i64 0, .int .i64 3]) (by simp [results, Try.f73, go_sem]) rfl ⟨rfl, bdn _ _⟩
  · have d1 : decide (q < 1) = false := by simp; omega
    have d2 : decide (x3 - x4 < q) = true := by simp; omega
    clear hq
    go_wp2_with fail
    go_quiet (fail)
    go_wp2_with fail
    refine bodyPost_ret (v := .tuple #[.int .i64 0, .int .i64 0, .int .i64 3]) (by simp [results, Try.f73, go_sem]) rfl ⟨rfl, bdn _ _⟩
theorem mul_in {x q : Int} (h1 : 1 ≤ x) (h2 : x ≤ 1000000) (h3 : 1 ≤ q) (h4 : q ≤ 1000) : 1 ≤ x * q ∧ x * q ≤ 1000000000 := by
  have a : x * 1 ≤ x * q := Int.mul_le_mul_of_nonneg_left h3 (by omega)
  have b : x * q ≤ x * 1000 := Int.mul_le_mul_of_nonneg_left h4 (by omega)
  have c : x * 1000 ≤ 1000000 * 1000 := Int.mul_le_mul_of_nonneg_right h2 (by omega)
  omega
set_option maxRecDepth 40000 in
set_option maxHeartbeats 4000000 in
theorem rf5 (k : Nat) (q : Int) (w : World) (b : Nat) (s : Sc) (gi ci : Nat) (l : List F4) (cp gp : Nat) (p : List (List F7)) (gs cs : Nat → Nat) (h : OB w b s (some ⟨gi, 0, none⟩) l.length ci (some ⟨gp, 0, none⟩) p.length cp) (r : four.Row w (some ⟨gi, 0, none⟩) ci gi l) (rp : Pls w (some ⟨gp, 0, none⟩) cp gp p gs cs) (hk : k < l.length) {x1 x2 x3 x4 : Int} (hx : l.getD k four.zz = (x1, x2, x3, x4)) (hv : ord.Iin (x1, x2, x3, x4)) (q1 : 1 ≤ q) (q2 : q ≤ x3 - x4) (p8 : p.length ≤ 8) (hm : ∀ i, i < p.length → (nth p i).length ≤ 1048577) {V : Int} (hV : x2 * q = V) (hP : (ord.ps p p.length).2.1 < V) :
    Calls Try.prog 73 #[.pointer (some ⟨b, 0, none⟩), .int .i64 (k : Int), .int .i64 q] w fun e w' => e = .returned (.tuple #[.int .i64 0, .int .i64 0, .int .i64 5]) ∧ Below w.heap.size w w' := by
  have C := itYes k w b s gi l.length ci (some ⟨gp, 0, none⟩) p.length cp h hk
  have A := r.cells k hk
  rw [hx] at A
  obtain ⟨a0, a1, a2, a3⟩ := A
  obtain ⟨v1, v2, v3, v4, v5, v6, v7, v8⟩ := hv
  dsimp only at a0 a1 a2 a3 v1 v2 v3 v4 v5 v6 v7 v8
  obtain ⟨V0, V1⟩ := mul_in v3 v4 q1 (show q ≤ 1000 by omega)
  rw [hV] at V0 V1
  have m0 : IntKind.i64.wrap (x2 * q) = V := by rw [hV, IntKind.wrap_i64]; omega
  have d1 : decide (q < 1) = false := by simp; omega
  have d2 : decide (x3 - x4 < q) = false := by simp; omega
  have OBh := Lib.hid h
  have Rh := Lib.hid r
  have Ph := Lib.hid rp
  have SU := fun (wd : World) (bd : Below w.heap.size w wd) => sumsI wd b s _ _ ci _ cp gp p gs cs (h.keep (bd.block b h.lt)) (rp.below bd) p8 hm
  obtain ⟨Q, hQ⟩ : ∃ Q, Q = ord.ps p p.length := ⟨_, rfl⟩
  rw [← hQ] at SU hP
  clear hQ
  obtain ⟨Q0, Q1, Q2, Q3, Q4, Q5, Q6⟩ := Q
  dsimp only at SU hP
  have d3 : decide (Q1 < V) = true := by simp; omega
  clear h r rp hx hV hm Rh Ph OBh
  go_enter Try.func73, Try.ntmps73
  go_wp2_with fail
  refine C.mono ?_
  rintro e w' ⟨rfl, rfl⟩
  clear C
  go_wp2_with fail
  go_quiet (fail)
  generalize hd : w.drewN nq = wd
  have bd : Below w.heap.size w wd := by rw [← hd]; exact bdn _ _
  replace SU := SU wd bd
  replace a1 := pls.cell_keep a1 (bd.block gi (pls.cell_lt a1))
  replace a3 := pls.cell_keep a3 (bd.block gi (pls.cell_lt a3))
  clear hd a0 a2
  have fF : ∀ w0, (Instr.field 37 (.agg #[.int .i64 Q0, .int .i64 Q1, .int .i64 Q2, .int .i64 Q3, .int .i64 Q4, .int .i64 Q5, .int .i64 Q6]) 1).run Try.prog w0 = .ok (.int .i64 Q1) w0 := fun _ => rfl
  go_wp2_with fail
  refine SU.mono ?_
  rintro e w1 ⟨rfl, b1⟩
  have B := Lib.hid (bd.trans (b1.mono bd.size))
  clear b1 bd
  go_wp2_with fail
  refine bodyPost_ret (v := .tuple #[.int .i64 0, .int .i64 0, .int .i64 5]) (by simp [results, Try.f73, go_sem]) rfl ⟨rfl, B.out⟩
set_option maxRecDepth 40000 in
set_option maxHeartbeats 4000000 in
theorem rfY (k : Nat) (q : Int) (w : World) (b : Nat) (s : Sc) (gi ci : Nat) (l : List F4) (cp gp : Nat) (p : List (List F7)) (gs cs : Nat → Nat) (h : OB w b s (some ⟨gi, 0, none⟩) l.length ci (some ⟨gp, 0, none⟩) p.length cp) (r : four.Row w (some ⟨gi, 0, none⟩) ci gi l) (rp : Pls w (some ⟨gp, 0, none⟩) cp gp p gs cs) (hk : k < l.length) {x1 x2 x3 x4 : Int} (hx : l.getD k four.zz = (x1, x2, x3, x4)) (hv : ord.Iin (x1, x2, x3, x4)) (q1 : 1 ≤ q) (q2 : q ≤ x3 - x4) (p8 : p.length ≤ 8) (pv : ord.PVs p) (hbi : b ≠ gi) (hbp : b ≠ gp) (hip : gi ≠ gp) (his : ∀ i, i < p.length → gs i ≠ gi) (hgp : gp < w.heap.size) {V : Int} (hV : x2 * q = V) (hP : V ≤ (ord.ps p p.length).2.1) {N : Int} (hN : tkN p V = N) :
    Calls Try.prog 73 #[.pointer (some ⟨b, 0, none⟩), .int .i64 (k : Int), .int .i64 q] w fun e w' => ∃ w1 gs' cs', e = .returned (.tuple #[.int .i64 V, .int .i64 N, .int .i64 0]) ∧ Below w.heap.size w w1 ∧ base.Turned gp (w1.setCell ⟨gi, k * 4 + 3, none⟩ (.int .i64 (x4 + q))) w' ∧ Pls w' (some ⟨gp, 0, none⟩) cp gp (tkL p V) gs' cs' ∧ (∀ i, i < p.length → w.heap.size ≤ gs' i) := by
  have hm : ∀ i, i < p.length → (nth p i).length ≤ 1048577 := fun i hi => Nat.le_trans (show (nth p i).length ≤ 24 from (pl.pv_iff.1 (pv i hi)).1) (by omega)
  have PVh := Lib.hid pv
  have HP := Lib.hid hP
  have C := itYes k w b s gi l.length ci (some ⟨gp, 0, none⟩) p.length cp h hk
  have A := r.cells k hk
  rw [hx] at A
  obtain ⟨a0, a1, a2, a3⟩ := A
  obtain ⟨v1, v2, v3, v4, v5, v6, v7, v8⟩ := hv
  dsimp only at a0 a1 a2 a3 v1 v2 v3 v4 v5 v6 v7 v8
  obtain ⟨V0, V1⟩ := mul_in v3 v4 q1 (show q ≤ 1000 by omega)
  rw [hV] at V0 V1
  have m0 : IntKind.i64.wrap (x2 * q) = V := by rw [hV, IntKind.wrap_i64]; omega
  have d1 : decide (q < 1) = false := by simp; omega
  have d2 : decide (x3 - x4 < q) = false := by simp; omega
  have OBh := Lib.hid h
  have Rh := Lib.hid r
  have Ph := Lib.hid rp
  have SU := fun (wd : World) (bd : Below w.heap.size w wd) => sumsI wd b s _ _ ci _ cp gp p gs cs (h.keep (bd.block b h.lt)) (rp.below bd) p8 hm
  obtain ⟨Q, hQ⟩ : ∃ Q, Q = ord.ps p p.length := ⟨_, rfl⟩
  rw [← hQ] at SU hP
  clear hQ
  obtain ⟨Q0, Q1, Q2, Q3, Q4, Q5, Q6⟩ := Q
  dsimp only at SU hP
  have d3 : decide (Q1 < V) = false := by simp; omega
  have gl := r.lt (Nat.lt_of_le_of_lt (Nat.zero_le _) hk)
  have ff := r.free (Nat.lt_of_le_of_lt (Nat.zero_le _) hk) (k * 4 + 3)
  have HN := Lib.hid hN
  have HIS := Lib.hid his
  have bl := h.lt
  clear h r rp hx hV hm pv hN his
  go_enter Try.func73, Try.ntmps73
  go_wp2_with fail
  refine C.mono ?_
  rintro e w' ⟨rfl, rfl⟩
  clear C
  go_wp2_with fail
  go_quiet (fail)
  generalize hd : w.drewN nq = wd
  have bd : Below w.heap.size w wd := by rw [← hd]; exact bdn _ _
  replace SU := SU wd bd
  replace a1 := pls.cell_keep a1 (bd.block gi (pls.cell_lt a1))
  replace a3 := pls.cell_keep a3 (bd.block gi (pls.cell_lt a3))
  clear hd a0 a2
  have fF : ∀ w0, (Instr.field 37 (.agg #[.int .i64 Q0, .int .i64 Q1, .int .i64 Q2, .int .i64 Q3, .int .i64 Q4, .int .i64 Q5, .int .i64 Q6]) 1).run Try.prog w0 = .ok (.int .i64 Q1) w0 := fun _ => rfl
  go_wp2_with fail
  refine SU.mono ?_
  rintro e w1 ⟨rfl, b1⟩
  have B := Lib.hid (bd.trans (b1.mono bd.size))
  have c1 := pls.cell_keep a1 (b1.block gi (pls.cell_lt a1))
  have c3 := pls.cell_keep a3 (b1.block gi (pls.cell_lt a3))
  have f3 : w1.frozen? ⟨gi, k * 4 + 3, none⟩ = false := by rw [World.frozen?_of_block (w := w) (a := ⟨gi, k * 4 + 3, none⟩) (B.out.block gi gl)]; exact ff
  have sz := B.out.size
  have O1 := (OBh.out.keep (B.out.block b bl)).keep (w' := w1.setCell ⟨gi, k * 4 + 3, none⟩ (.int .i64 (x4 + q))) (Below.heap_setCell _ _ _ _ hbi)
  have P1 := (Ph.out.below B.out).keep (w' := w1.setCell ⟨gi, k * 4 + 3, none⟩ (.int .i64 (x4 + q))) (fun _ => Below.heap_setCell _ _ _ _ (Ne.symm hip)) (fun i hi => Below.heap_setCell _ _ _ _ (HIS.out i hi)) (by simp [World.setCell])
  have TK := Lib.hid (tkI V (w1.setCell ⟨gi, k * 4 + 3, none⟩ (.int .i64 (x4 + q))) b s _ _ ci cp gp p gs cs O1 P1 (by simp [World.setCell]; omega) hbp PVh.out p8 (by omega) (by omega) HP.out)
  clear b1 bd a1 a3 O1 P1 SU
  go_wp2_with fail
  refine TK.out.mono ?_
  rintro e w2 ⟨gs2, cs2, rfl, r2, f2, T2⟩
  have R2 := Lib.hid r2
  have F2 := Lib.hid (show ∀ i, i < p.length → w.heap.size ≤ gs2 i from fun i hi => Nat.le_trans sz (by have := f2 i hi; simpa [World.setCell] using this))
  have T2h := Lib.hid T2
  clear r2 f2 T2 TK
  rw [HN.out]
  go_wp2_with fail
  refine bodyPost_ret (v := .tuple #[.int .i64 V, .int .i64 N, .int .i64 0]) (by simp [results, Try.f73, go_sem]) rfl ⟨w1, gs2, cs2, rfl, B.out, T2h.out, R2.out, F2.out⟩
end Go.Proofs.Ytmaejlfjdkkpdaa.ob

namespace Go.Proofs.Ytmaejlfjdkkpdaa.ob
open Go.ChangeShapes Go.WideShapes Go.ChangeAt Go.RowKit
open gen
open seven (F7 zz Row At)
open four (F4)
open pl (inR)
open pls (nth Pls OL NewO)
open ord (Sc iok)
/-- Why nothing is refunded. -/
def refB (l : List F4) (p : List (List F7)) (i q C : Int) : Prop :=
  (¬ (0 ≤ i ∧ i < (l.length : Int)) ∧ 2 = C) ∨
  (∃ (k : Nat) (x1 x2 x3 x4 : Int), (k : Int) = i ∧ k < l.length ∧ l.getD k four.zz = (x1, x2, x3, x4) ∧ ¬ (1 ≤ q ∧ q ≤ x3 - x4) ∧ 3 = C) ∨
  (∃ (k : Nat) (x1 x2 x3 x4 : Int), (k : Int) = i ∧ k < l.length ∧ l.getD k four.zz = (x1, x2, x3, x4) ∧ 1 ≤ q ∧ q ≤ x3 - x4 ∧ (ord.ps p p.length).2.1 < x2 * q ∧ 5 = C)
/-- The outcomes of a refund. -/
def refR (s : Sc) (l : List F4) (p : List (List F7)) (i q : Int) (S0 S1 C : Int) (s' : Sc) (l' : List F4) (p' : List (List F7)) : Prop :=
  (ord.ok s l p = false ∧ 0 = S0 ∧ 0 = S1 ∧ 1 = C ∧ zs = s' ∧ [] = l' ∧ [] = p') ∨
  (ord.ok s l p = true ∧ refB l p i q C ∧ 0 = S0 ∧ 0 = S1 ∧ zs = s' ∧ [] = l' ∧ [] = p') ∨
  (ord.ok s l p = true ∧ ∃ (k : Nat) (x1 x2 x3 x4 : Int), (k : Int) = i ∧ k < l.length ∧ l.getD k four.zz = (x1, x2, x3, x4) ∧ 1 ≤ q ∧ q ≤ x3 - x4 ∧ x2 * q ≤ (ord.ps p p.length).2.1 ∧ x2 * q = S0 ∧ tkN p (x2 * q) = S1 ∧ 0 = C ∧ s = s' ∧ l.set k (x1, x2, x3, x4 + q) = l' ∧ tkL p (x2 * q) = p')
theorem refR_ex (s : Sc) (l : List F4) (p : List (List F7)) (i q : Int) : ∃ S0 S1 C s' l' p', refR s l p i q S0 S1 C s' l' p' := by
  cases hk : ord.ok s l p with
  | false => exact ⟨0, 0, 1, zs, [], [], Or.inl ⟨hk, rfl, rfl, rfl, rfl, rfl, rfl⟩⟩
  | true =>
    by_cases c1 : 0 ≤ i ∧ i < (l.length : Int)
    · obtain ⟨k, rfl⟩ := Int.eq_ofNat_of_zero_le c1.1
      have hkl : k < l.length := by omega
      obtain ⟨x, hx⟩ : ∃ x, l.getD k four.zz = x := ⟨_, rfl⟩
      obtain ⟨x1, x2, x3, x4⟩ := x
      by_cases c2 : 1 ≤ q ∧ q ≤ x3 - x4
      · by_cases c3 : x2 * q ≤ (ord.ps p p.length).2.1
        · exact ⟨_, _, 0, s, _, _, Or.inr (Or.inr ⟨hk, k, x1, x2, x3, x4, rfl, hkl, hx, c2.1, c2.2, c3, rfl, rfl, rfl, rfl, rfl, rfl⟩)⟩
        · exact ⟨0, 0, 5, zs, [], [], Or.inr (Or.inl ⟨hk, Or.inr (Or.inr ⟨k, x1, x2, x3, x4, rfl, hkl, hx, c2.1, c2.2, by omega, rfl⟩), rfl, rfl, rfl, rfl, rfl⟩)⟩
      · exact ⟨0, 0, 3, zs, [], [], Or.inr (Or.inl ⟨hk, Or.inr (Or.inl ⟨k, x1, x2, x3, x4, rfl, hkl, hx, c2, rfl⟩), rfl, rfl, rfl, rfl, rfl⟩)⟩
    · exact ⟨0, 0, 2, zs, [], [], Or.inr (Or.inl ⟨hk, Or.inl ⟨c1, rfl⟩, rfl, rfl, rfl, rfl, rfl⟩)⟩
theorem refR_short {s : Sc} {l : List F4} {p : List (List F7)} {i q S0 S1 C : Int} {s' : Sc} {l' : List F4} {p' : List (List F7)} (h : refR s l p i q S0 S1 C s' l' p') : Short l' p' := by
  rcases h with ⟨_, _, _, _, _, rfl, rfl⟩ | ⟨_, _, _, _, _, rfl, rfl⟩ | ⟨hk, k, x1, x2, x3, x4, _, _, _, _, _, _, _, _, _, _, rfl, rfl⟩
  · exact short_nil
  · exact short_nil
  · have o := ord.ok_iff.1 hk
    refine short_24 (by rw [List.length_set]; exact o.i1) (by rw [tkL_len]; exact o.p1) fun i hi => ?_
    rw [tkL_len] at hi
    unfold tkL
    exact dL_short (fun i hi => dL_short (fun i hi => (pl.pv_iff.1 (o.pv i hi)).1) i (by rw [dL_len] at hi; exact hi)) i (by rw [dL_len]; exact hi)
theorem refB_nz {l : List F4} {p : List (List F7)} {i q C : Int} (h : refB l p i q C) : (C != 0) = true := by
  rcases h with ⟨_, rfl⟩ | ⟨_, _, _, _, _, _, _, _, _, rfl⟩ | ⟨_, _, _, _, _, _, _, _, _, _, _, rfl⟩ <;> rfl
theorem rfB {i q C : Int} {w : World} {b : Nat} {s : Sc} {gi ci : Nat} {l : List F4} {cp gp : Nat} {p : List (List F7)} {gs cs : Nat → Nat} (h : OB w b s (some ⟨gi, 0, none⟩) l.length ci (some ⟨gp, 0, none⟩) p.length cp) (r : four.Row w (some ⟨gi, 0, none⟩) ci gi l) (rp : Pls w (some ⟨gp, 0, none⟩) cp gp p gs cs) (hv : ord.IV l) (p8 : p.length ≤ 8) (hm : ∀ i, i < p.length → (nth p i).length ≤ 1048577) (hB : refB l p i q C) :
    Calls Try.prog 73 #[.pointer (some ⟨b, 0, none⟩), .int .i64 i, .int .i64 q] w fun e w' => e = .returned (.tuple #[.int .i64 0, .int .i64 0, .int .i64 C]) ∧ Below w.heap.size w w' := by
  rcases hB with ⟨hi, rfl⟩ | ⟨k, x1, x2, x3, x4, rfl, hk, hx, hq, rfl⟩ | ⟨k, x1, x2, x3, x4, rfl, hk, hx, q1, q2, hP, rfl⟩
  · exact rf2 i q w b s _ _ _ _ _ _ h hi
  · exact rf3 k q w b s gi ci l _ _ _ h r hk (ord.iok_iff.1 (hv k hk)) (by rw [hx]; exact hq)
  · exact rf5 k q w b s gi ci l cp gp p gs cs h r rp hk hx (by rw [← hx]; exact ord.iok_iff.1 (hv k hk)) q1 q2 p8 hm rfl hP
set_option maxRecDepth 100000 in
set_option maxHeartbeats 8000000 in
theorem orI (i q : Int) (w : World) (B : Nat) (s : Sc) (ci gi : Nat) (l : List F4) (cp gp : Nat) (p : List (List F7)) (gs cs : Nat → Nat) (h : OL w B l p (some ⟨gi, 0, none⟩) ci gi (some ⟨gp, 0, none⟩) cp gp gs cs) (hl : l.length ≤ 1048576) (hn : p.length ≤ 1048576) (hm : ∀ i, i < p.length → (nth p i).length ≤ 1048576) {S0 S1 C : Int} {s' : Sc} {l' : List F4} {p' : List (List F7)} (hr : refR s l p i q S0 S1 C s' l' p') :
    Calls Try.prog 37 #[.agg #[.int .i64 s.id, .int .i64 s.co, .int .i64 s.me, .int .i64 s.cu, .int .i64 s.da, .int .i64 s.nn, .int .i64 s.ra, .int .i64 s.nu, .int .i64 s.de, .slice (some ⟨gi, 0, none⟩) l.length ci, .slice (some ⟨gp, 0, none⟩) p.length cp, .int .i64 s.op, .int .i64 s.up], .int .i64 i, .int .i64 q] w fun e w' => ∃ v, e = .returned (.tuple #[v, .int .i64 S0, .int .i64 S1, .int .i64 C]) ∧ Res w s' l' p' v w' := by
  have b0 : Below w.heap.size w ((w.alloc (.cells #[.int .i64 s.id, .int .i64 s.co, .int .i64 s.me, .int .i64 s.cu, .int .i64 s.da, .int .i64 s.nn, .int .i64 s.ra, .int .i64 s.nu, .int .i64 s.de, .slice (some ⟨gi, 0, none⟩) l.length ci, .slice (some ⟨gp, 0, none⟩) p.length cp, .int .i64 s.op, .int .i64 s.up] 31)).alloc (.cells #[.int .i64 0, .int .i64 0, .int .i64 0, .int .i64 0, .int .i64 0, .int .i64 0, .int .i64 0, .int .i64 0, .int .i64 0, .slice none 0 0, .slice none 0 0, .int .i64 0, .int .i64 0] 31)) := bAl (bAl (Below.refl _ _) (Nat.le_refl _) _) (Nat.le_refl _) _
  have B0 := Lib.hid b0
  have O0 := Lib.hid ((OB.new w s (some ⟨gi, 0, none⟩) l.length ci (some ⟨gp, 0, none⟩) p.length cp 31).keep (w' := (w.alloc (.cells #[.int .i64 s.id, .int .i64 s.co, .int .i64 s.me, .int .i64 s.cu, .int .i64 s.da, .int .i64 s.nn, .int .i64 s.ra, .int .i64 s.nu, .int .i64 s.de, .slice (some ⟨gi, 0, none⟩) l.length ci, .slice (some ⟨gp, 0, none⟩) p.length cp, .int .i64 s.op, .int .i64 s.up] 31)).alloc (.cells #[.int .i64 0, .int .i64 0, .int .i64 0, .int .i64 0, .int .i64 0, .int .i64 0, .int .i64 0, .int .i64 0, .int .i64 0, .slice none 0 0, .slice none 0 0, .int .i64 0, .int .i64 0] 31)) (Below.heap_alloc _ _ _ (by simp)))
  have X0 := Blk.new (w.alloc (.cells #[.int .i64 s.id, .int .i64 s.co, .int .i64 s.me, .int .i64 s.cu, .int .i64 s.da, .int .i64 s.nn, .int .i64 s.ra, .int .i64 s.nu, .int .i64 s.de, .slice (some ⟨gi, 0, none⟩) l.length ci, .slice (some ⟨gp, 0, none⟩) p.length cp, .int .i64 s.op, .int .i64 s.up] 31)) #[.int .i64 0, .int .i64 0, .int .i64 0, .int .i64 0, .int .i64 0, .int .i64 0, .int .i64 0, .int .i64 0, .int .i64 0, .slice none 0 0, .slice none 0 0, .int .i64 0, .int .i64 0] 31 13 rfl
  have z0 : ((w.alloc (.cells #[.int .i64 s.id, .int .i64 s.co, .int .i64 s.me, .int .i64 s.cu, .int .i64 s.da, .int .i64 s.nn, .int .i64 s.ra, .int .i64 s.nu, .int .i64 s.de, .slice (some ⟨gi, 0, none⟩) l.length ci, .slice (some ⟨gp, 0, none⟩) p.length cp, .int .i64 s.op, .int .i64 s.up] 31)).alloc (.cells #[.int .i64 0, .int .i64 0, .int .i64 0, .int .i64 0, .int .i64 0, .int .i64 0, .int .i64 0, .int .i64 0, .int .i64 0, .slice none 0 0, .slice none 0 0, .int .i64 0, .int .i64 0] 31)).heap.size = w.heap.size + 1 + 1 := by simp only [sz_al]
  simp only [sz_al] at X0
  have X0 := Lib.hid X0
  have hm' : ∀ i, i < p.length → (nth p i).length ≤ 1048577 := fun i hi => Nat.le_trans (hm i hi) (by omega)
  have CK := okI ((w.alloc (.cells #[.int .i64 s.id, .int .i64 s.co, .int .i64 s.me, .int .i64 s.cu, .int .i64 s.da, .int .i64 s.nn, .int .i64 s.ra, .int .i64 s.nu, .int .i64 s.de, .slice (some ⟨gi, 0, none⟩) l.length ci, .slice (some ⟨gp, 0, none⟩) p.length cp, .int .i64 s.op, .int .i64 s.up] 31)).alloc (.cells #[.int .i64 0, .int .i64 0, .int .i64 0, .int .i64 0, .int .i64 0, .int .i64 0, .int .i64 0, .int .i64 0, .int .i64 0, .slice none 0 0, .slice none 0 0, .int .i64 0, .int .i64 0] 31)) B s _ ci gi l _ cp gp p gs cs (h.below b0) (by omega) (by omega) hm'
  have L := Lib.hid h
  have HM := Lib.hid hm'
  clear h hm hm' b0
  rcases hr with ⟨hk, rfl, rfl, rfl, rfl, rfl, rfl⟩ | ⟨hk, hB, rfl, rfl, rfl, rfl, rfl⟩ | ⟨hk, k, x1, x2, x3, x4, rfl, hkl, hx, q1, q2, hP, hV, hN, rfl, rfl, rfl, rfl⟩
  · rw [hk] at CK
    go_enter Try.func37, Try.ntmps37
    go_wp2_with fail
    generalize (w.alloc (.cells #[.int .i64 s.id, .int .i64 s.co, .int .i64 s.me, .int .i64 s.cu, .int .i64 s.da, .int .i64 s.nn, .int .i64 s.ra, .int .i64 s.nu, .int .i64 s.de, .slice (some ⟨gi, 0, none⟩) l.length ci, .slice (some ⟨gp, 0, none⟩) p.length cp, .int .i64 s.op, .int .i64 s.up] 31)).alloc (.cells #[.int .i64 0, .int .i64 0, .int .i64 0, .int .i64 0, .int .i64 0, .int .i64 0, .int .i64 0, .int .i64 0, .int .i64 0, .slice none 0 0, .slice none 0 0, .int .i64 0, .int .i64 0] 31) = W2 at B0 O0 X0 z0 CK ⊢
    refine CK.mono ?_
    rintro e w1 ⟨rfl, b1⟩
    have B1 := Lib.hid (B0.out.trans (b1.mono B0.out.size))
    have O1 := Lib.hid (O0.out.keep (b1.block w.heap.size (by omega)))
    have X1 := Lib.hid (X0.out.below b1 X0.out.lt)
    have z1 := b1.size
    clear b1 O0 X0 B0
    have x0 : w1.cell? ⟨w.heap.size + 1, 0, none⟩ = some (.int .i64 0) := X1.out.cell 0 (by decide)
    have x1 : w1.cell? ⟨w.heap.size + 1, 1, none⟩ = some (.int .i64 0) := X1.out.cell 1 (by decide)
    have x2 : w1.cell? ⟨w.heap.size + 1, 2, none⟩ = some (.int .i64 0) := X1.out.cell 2 (by decide)
    have x3 : w1.cell? ⟨w.heap.size + 1, 3, none⟩ = some (.int .i64 0) := X1.out.cell 3 (by decide)
    have x4 : w1.cell? ⟨w.heap.size + 1, 4, none⟩ = some (.int .i64 0) := X1.out.cell 4 (by decide)
    have x5 : w1.cell? ⟨w.heap.size + 1, 5, none⟩ = some (.int .i64 0) := X1.out.cell 5 (by decide)
    have x6 : w1.cell? ⟨w.heap.size + 1, 6, none⟩ = some (.int .i64 0) := X1.out.cell 6 (by decide)
    have x7 : w1.cell? ⟨w.heap.size + 1, 7, none⟩ = some (.int .i64 0) := X1.out.cell 7 (by decide)
    have x8 : w1.cell? ⟨w.heap.size + 1, 8, none⟩ = some (.int .i64 0) := X1.out.cell 8 (by decide)
    have x9 : w1.cell? ⟨w.heap.size + 1, 9, none⟩ = some (.slice none 0 0) := X1.out.cell 9 (by decide)
    have x10 : w1.cell? ⟨w.heap.size + 1, 10, none⟩ = some (.slice none 0 0) := X1.out.cell 10 (by decide)
    have x11 : w1.cell? ⟨w.heap.size + 1, 11, none⟩ = some (.int .i64 0) := X1.out.cell 11 (by decide)
    have x12 : w1.cell? ⟨w.heap.size + 1, 12, none⟩ = some (.int .i64 0) := X1.out.cell 12 (by decide)
    have f0 := X1.out.free 0
    have f1 := X1.out.free 1
    have f2 := X1.out.free 2
    have f3 := X1.out.free 3
    have f4 := X1.out.free 4
    have f5 := X1.out.free 5
    have f6 := X1.out.free 6
    have f7 := X1.out.free 7
    have f8 := X1.out.free 8
    have f9 := X1.out.free 9
    have f10 := X1.out.free 10
    have f11 := X1.out.free 11
    have f12 := X1.out.free 12
    have Y := Lib.hid (((((((((((((X1.out.set (k := 0) (by decide) (.int .i64 0)).set (k := 1) (by decide) (.int .i64 0)).set (k := 2) (by decide) (.int .i64 0)).set (k := 3) (by decide) (.int .i64 0)).set (k := 4) (by decide) (.int .i64 0)).set (k := 5) (by decide) (.int .i64 0)).set (k := 6) (by decide) (.int .i64 0)).set (k := 7) (by decide) (.int .i64 0)).set (k := 8) (by decide) (.int .i64 0)).set (k := 9) (by decide) (.slice none 0 0)).set (k := 10) (by decide) (.slice none 0 0)).set (k := 11) (by decide) (.int .i64 0)).set (k := 12) (by decide) (.int .i64 0))
    have BF := Lib.hid (show Below w.heap.size w (((((((((((((w1.setCell ⟨w.heap.size + 1, 0, none⟩ (.int .i64 0)).setCell ⟨w.heap.size + 1, 1, none⟩ (.int .i64 0)).setCell ⟨w.heap.size + 1, 2, none⟩ (.int .i64 0)).setCell ⟨w.heap.size + 1, 3, none⟩ (.int .i64 0)).setCell ⟨w.heap.size + 1, 4, none⟩ (.int .i64 0)).setCell ⟨w.heap.size + 1, 5, none⟩ (.int .i64 0)).setCell ⟨w.heap.size + 1, 6, none⟩ (.int .i64 0)).setCell ⟨w.heap.size + 1, 7, none⟩ (.int .i64 0)).setCell ⟨w.heap.size + 1, 8, none⟩ (.int .i64 0)).setCell ⟨w.heap.size + 1, 9, none⟩ (.slice none 0 0)).setCell ⟨w.heap.size + 1, 10, none⟩ (.slice none 0 0)).setCell ⟨w.heap.size + 1, 11, none⟩ (.int .i64 0)).setCell ⟨w.heap.size + 1, 12, none⟩ (.int .i64 0)) from (((((((((((((B1.out.setCell (p := ⟨w.heap.size + 1, 0, none⟩) (show w.heap.size ≤ w.heap.size + 1 by omega) (.int .i64 0)).setCell (p := ⟨w.heap.size + 1, 1, none⟩) (show w.heap.size ≤ w.heap.size + 1 by omega) (.int .i64 0)).setCell (p := ⟨w.heap.size + 1, 2, none⟩) (show w.heap.size ≤ w.heap.size + 1 by omega) (.int .i64 0)).setCell (p := ⟨w.heap.size + 1, 3, none⟩) (show w.heap.size ≤ w.heap.size + 1 by omega) (.int .i64 0)).setCell (p := ⟨w.heap.size + 1, 4, none⟩) (show w.heap.size ≤ w.heap.size + 1 by omega) (.int .i64 0)).setCell (p := ⟨w.heap.size + 1, 5, none⟩) (show w.heap.size ≤ w.heap.size + 1 by omega) (.int .i64 0)).setCell (p := ⟨w.heap.size + 1, 6, none⟩) (show w.heap.size ≤ w.heap.size + 1 by omega) (.int .i64 0)).setCell (p := ⟨w.heap.size + 1, 7, none⟩) (show w.heap.size ≤ w.heap.size + 1 by omega) (.int .i64 0)).setCell (p := ⟨w.heap.size + 1, 8, none⟩) (show w.heap.size ≤ w.heap.size + 1 by omega) (.int .i64 0)).setCell (p := ⟨w.heap.size + 1, 9, none⟩) (show w.heap.size ≤ w.heap.size + 1 by omega) (.slice none 0 0)).setCell (p := ⟨w.heap.size + 1, 10, none⟩) (show w.heap.size ≤ w.heap.size + 1 by omega) (.slice none 0 0)).setCell (p := ⟨w.heap.size + 1, 11, none⟩) (show w.heap.size ≤ w.heap.size + 1 by omega) (.int .i64 0)).setCell (p := ⟨w.heap.size + 1, 12, none⟩) (show w.heap.size ≤ w.heap.size + 1 by omega) (.int .i64 0)))
    go_wp2
    change bodyPost _ _ _ _ _ (((((((((((((w1.setCell ⟨w.heap.size + 1, 0, none⟩ (.int .i64 0)).setCell ⟨w.heap.size + 1, 1, none⟩ (.int .i64 0)).setCell ⟨w.heap.size + 1, 2, none⟩ (.int .i64 0)).setCell ⟨w.heap.size + 1, 3, none⟩ (.int .i64 0)).setCell ⟨w.heap.size + 1, 4, none⟩ (.int .i64 0)).setCell ⟨w.heap.size + 1, 5, none⟩ (.int .i64 0)).setCell ⟨w.heap.size + 1, 6, none⟩ (.int .i64 0)).setCell ⟨w.heap.size + 1, 7, none⟩ (.int .i64 0)).setCell ⟨w.heap.size + 1, 8, none⟩ (.int .i64 0)).setCell ⟨w.heap.size + 1, 9, none⟩ (.slice none 0 0)).setCell ⟨w.heap.size + 1, 10, none⟩ (.slice none 0 0)).setCell ⟨w.heap.size + 1, 11, none⟩ (.int .i64 0)).setCell ⟨w.heap.size + 1, 12, none⟩ (.int .i64 0))
    generalize ((((((((((((w1.setCell ⟨w.heap.size + 1, 0, none⟩ (.int .i64 0)).setCell ⟨w.heap.size + 1, 1, none⟩ (.int .i64 0)).setCell ⟨w.heap.size + 1, 2, none⟩ (.int .i64 0)).setCell ⟨w.heap.size + 1, 3, none⟩ (.int .i64 0)).setCell ⟨w.heap.size + 1, 4, none⟩ (.int .i64 0)).setCell ⟨w.heap.size + 1, 5, none⟩ (.int .i64 0)).setCell ⟨w.heap.size + 1, 6, none⟩ (.int .i64 0)).setCell ⟨w.heap.size + 1, 7, none⟩ (.int .i64 0)).setCell ⟨w.heap.size + 1, 8, none⟩ (.int .i64 0)).setCell ⟨w.heap.size + 1, 9, none⟩ (.slice none 0 0)).setCell ⟨w.heap.size + 1, 10, none⟩ (.slice none 0 0)).setCell ⟨w.heap.size + 1, 11, none⟩ (.int .i64 0)).setCell ⟨w.heap.size + 1, 12, none⟩ (.int .i64 0) = W9 at Y BF ⊢
    have y0 : W9.cell? ⟨w.heap.size + 1, 0, none⟩ = some (.int .i64 0) := Y.out.cell 0 (by decide)
    have y1 : W9.cell? ⟨w.heap.size + 1, 1, none⟩ = some (.int .i64 0) := Y.out.cell 1 (by decide)
    have y2 : W9.cell? ⟨w.heap.size + 1, 2, none⟩ = some (.int .i64 0) := Y.out.cell 2 (by decide)
    have y3 : W9.cell? ⟨w.heap.size + 1, 3, none⟩ = some (.int .i64 0) := Y.out.cell 3 (by decide)
    have y4 : W9.cell? ⟨w.heap.size + 1, 4, none⟩ = some (.int .i64 0) := Y.out.cell 4 (by decide)
    have y5 : W9.cell? ⟨w.heap.size + 1, 5, none⟩ = some (.int .i64 0) := Y.out.cell 5 (by decide)
    have y6 : W9.cell? ⟨w.heap.size + 1, 6, none⟩ = some (.int .i64 0) := Y.out.cell 6 (by decide)
    have y7 : W9.cell? ⟨w.heap.size + 1, 7, none⟩ = some (.int .i64 0) := Y.out.cell 7 (by decide)
    have y8 : W9.cell? ⟨w.heap.size + 1, 8, none⟩ = some (.int .i64 0) := Y.out.cell 8 (by decide)
    have y9 : W9.cell? ⟨w.heap.size + 1, 9, none⟩ = some (.slice none 0 0) := Y.out.cell 9 (by decide)
    have y10 : W9.cell? ⟨w.heap.size + 1, 10, none⟩ = some (.slice none 0 0) := Y.out.cell 10 (by decide)
    have y11 : W9.cell? ⟨w.heap.size + 1, 11, none⟩ = some (.int .i64 0) := Y.out.cell 11 (by decide)
    have y12 : W9.cell? ⟨w.heap.size + 1, 12, none⟩ = some (.int .i64 0) := Y.out.cell 12 (by decide)
    exact bodyPost_ret (v := .tuple #[.agg #[.int .i64 0, .int .i64 0, .int .i64 0, .int .i64 0, .int .i64 0, .int .i64 0, .int .i64 0, .int .i64 0, .int .i64 0, .slice none 0 0, .slice none 0 0, .int .i64 0, .int .i64 0], .int .i64 0, .int .i64 0, .int .i64 1]) (by simp [results, Try.results37, go_sem, y0, y1, y2, y3, y4, y5, y6, y7, y8, y9, y10, y11, y12]) rfl ⟨_, rfl, res_no BF.out⟩
  · rw [hk] at CK
    have OKV := ord.ok_iff.1 hk
    have p8 := OKV.p1
    have IVh := Lib.hid OKV.iv
    have dC := refB_nz hB
    have HB := Lib.hid hB
    clear OKV hk hB
    go_enter Try.func37, Try.ntmps37
    go_wp2_with fail
    generalize (w.alloc (.cells #[.int .i64 s.id, .int .i64 s.co, .int .i64 s.me, .int .i64 s.cu, .int .i64 s.da, .int .i64 s.nn, .int .i64 s.ra, .int .i64 s.nu, .int .i64 s.de, .slice (some ⟨gi, 0, none⟩) l.length ci, .slice (some ⟨gp, 0, none⟩) p.length cp, .int .i64 s.op, .int .i64 s.up] 31)).alloc (.cells #[.int .i64 0, .int .i64 0, .int .i64 0, .int .i64 0, .int .i64 0, .int .i64 0, .int .i64 0, .int .i64 0, .int .i64 0, .slice none 0 0, .slice none 0 0, .int .i64 0, .int .i64 0] 31) = W2 at B0 O0 X0 z0 CK ⊢
    refine CK.mono ?_
    rintro e w1 ⟨rfl, b1⟩
    have B1 := Lib.hid (B0.out.trans (b1.mono B0.out.size))
    have O1 := Lib.hid (O0.out.keep (b1.block w.heap.size (by omega)))
    have X1 := Lib.hid (X0.out.below b1 X0.out.lt)
    have z1 := b1.size
    clear b1 O0 X0 B0
    have CC := copI w1 B w.heap.size s ci gi l cp gp p gs cs O1.out (L.out.below B1.out) hl hn HM.out
    go_wp2_with fail
    refine CC.mono ?_
    rintro e w2 ⟨v, rfl, ci', gi', cp', gp', gs', cs', rfl, ol, a1, a2, a3, a4, ne, b2⟩
    have B3 := Lib.hid ((B1.out.trans (b2.mono B1.out.size)).alloc (B1.out.trans (b2.mono B1.out.size)).size (.cells #[.int .i64 s.id, .int .i64 s.co, .int .i64 s.me, .int .i64 s.cu, .int .i64 s.da, .int .i64 s.nn, .int .i64 s.ra, .int .i64 s.nu, .int .i64 s.de, .slice (some ⟨gi', 0, none⟩) l.length ci', .slice (some ⟨gp', 0, none⟩) p.length cp', .int .i64 s.op, .int .i64 s.up] 31))
    have al := fun c hc => Below.heap_alloc w2 (.cells #[.int .i64 s.id, .int .i64 s.co, .int .i64 s.me, .int .i64 s.cu, .int .i64 s.da, .int .i64 s.nn, .int .i64 s.ra, .int .i64 s.nu, .int .i64 s.de, .slice (some ⟨gi', 0, none⟩) l.length ci', .slice (some ⟨gp', 0, none⟩) p.length cp', .int .i64 s.op, .int .i64 s.up] 31) c hc
    have N2 := Lib.hid (Blk.new w2 #[.int .i64 s.id, .int .i64 s.co, .int .i64 s.me, .int .i64 s.cu, .int .i64 s.da, .int .i64 s.nn, .int .i64 s.ra, .int .i64 s.nu, .int .i64 s.de, .slice (some ⟨gi', 0, none⟩) l.length ci', .slice (some ⟨gp', 0, none⟩) p.length cp', .int .i64 s.op, .int .i64 s.up] 31 13 rfl)
    have NO2 := Lib.hid (OB.new w2 s (some ⟨gi', 0, none⟩) l.length ci' (some ⟨gp', 0, none⟩) p.length cp' 31)
    have L2 := Lib.hid (ol.below ((Below.refl w2.heap.size w2).alloc (Nat.le_refl _) (.cells #[.int .i64 s.id, .int .i64 s.co, .int .i64 s.me, .int .i64 s.cu, .int .i64 s.da, .int .i64 s.nn, .int .i64 s.ra, .int .i64 s.nu, .int .i64 s.de, .slice (some ⟨gi', 0, none⟩) l.length ci', .slice (some ⟨gp', 0, none⟩) p.length cp', .int .i64 s.op, .int .i64 s.up] 31)))
    have X3 := Lib.hid ((X1.out.below b2 X1.out.lt).keep (w' := w2.alloc (.cells #[.int .i64 s.id, .int .i64 s.co, .int .i64 s.me, .int .i64 s.cu, .int .i64 s.da, .int .i64 s.nn, .int .i64 s.ra, .int .i64 s.nu, .int .i64 s.de, .slice (some ⟨gi', 0, none⟩) l.length ci', .slice (some ⟨gp', 0, none⟩) p.length cp', .int .i64 s.op, .int .i64 s.up] 31)) (al _ (X1.out.below b2 X1.out.lt).lt) (by simp))
    have z3 := b2.size
    have z3' : (w2.alloc (.cells #[.int .i64 s.id, .int .i64 s.co, .int .i64 s.me, .int .i64 s.cu, .int .i64 s.da, .int .i64 s.nn, .int .i64 s.ra, .int .i64 s.nu, .int .i64 s.de, .slice (some ⟨gi', 0, none⟩) l.length ci', .slice (some ⟨gp', 0, none⟩) p.length cp', .int .i64 s.op, .int .i64 s.up] 31)).heap.size = w2.heap.size + 1 := by simp only [sz_al]
    have DD := Lib.hid (show w.heap.size + 1 + 1 ≤ w1.heap.size ∧ w1.heap.size ≤ gi' ∧ gi' < w2.heap.size ∧ w1.heap.size ≤ gp' ∧ gp' < w2.heap.size ∧ gi' ≠ gp' from ⟨by omega, a1, a2, a3, a4, ne⟩)
    clear b2 al ol a1 a2 a3 a4 ne CC O1 X1 B1
    go_wp2_with fail
    obtain ⟨nb, hnb⟩ : ∃ nb, nb = w2.heap.size := ⟨_, rfl⟩
    have HNB := Lib.hid hnb
    rw [← hnb] at N2 NO2 z3' ⊢
    generalize w2.alloc (.cells #[.int .i64 s.id, .int .i64 s.co, .int .i64 s.me, .int .i64 s.cu, .int .i64 s.da, .int .i64 s.nn, .int .i64 s.ra, .int .i64 s.nu, .int .i64 s.de, .slice (some ⟨gi', 0, none⟩) l.length ci', .slice (some ⟨gp', 0, none⟩) p.length cp', .int .i64 s.op, .int .i64 s.up] 31) = W3 at B3 N2 NO2 L2 X3 z3' ⊢
    clear hnb
    have CL := rfB NO2.out L2.out.items L2.out.plans IVh.out p8 HM.out HB.out
    refine CL.mono ?_
    rintro e w4 ⟨rfl, b4⟩
    have B5 := Lib.hid (B3.out.trans (b4.mono B3.out.size))
    have X5 := Lib.hid (X3.out.below b4 X3.out.lt)
    clear b4 B3 X3 N2 NO2 L2 CL
    have x0 : w4.cell? ⟨w.heap.size + 1, 0, none⟩ = some (.int .i64 0) := X5.out.cell 0 (by decide)
    have x1 : w4.cell? ⟨w.heap.size + 1, 1, none⟩ = some (.int .i64 0) := X5.out.cell 1 (by decide)
    have x2 : w4.cell? ⟨w.heap.size + 1, 2, none⟩ = some (.int .i64 0) := X5.out.cell 2 (by decide)
    have x3 : w4.cell? ⟨w.heap.size + 1, 3, none⟩ = some (.int .i64 0) := X5.out.cell 3 (by decide)
    have x4 : w4.cell? ⟨w.heap.size + 1, 4, none⟩ = some (.int .i64 0) := X5.out.cell 4 (by decide)
    have x5 : w4.cell? ⟨w.heap.size + 1, 5, none⟩ = some (.int .i64 0) := X5.out.cell 5 (by decide)
    have x6 : w4.cell? ⟨w.heap.size + 1, 6, none⟩ = some (.int .i64 0) := X5.out.cell 6 (by decide)
    have x7 : w4.cell? ⟨w.heap.size + 1, 7, none⟩ = some (.int .i64 0) := X5.out.cell 7 (by decide)
    have x8 : w4.cell? ⟨w.heap.size + 1, 8, none⟩ = some (.int .i64 0) := X5.out.cell 8 (by decide)
    have x9 : w4.cell? ⟨w.heap.size + 1, 9, none⟩ = some (.slice none 0 0) := X5.out.cell 9 (by decide)
    have x10 : w4.cell? ⟨w.heap.size + 1, 10, none⟩ = some (.slice none 0 0) := X5.out.cell 10 (by decide)
    have x11 : w4.cell? ⟨w.heap.size + 1, 11, none⟩ = some (.int .i64 0) := X5.out.cell 11 (by decide)
    have x12 : w4.cell? ⟨w.heap.size + 1, 12, none⟩ = some (.int .i64 0) := X5.out.cell 12 (by decide)
    have f0 := X5.out.free 0
    have f1 := X5.out.free 1
    have f2 := X5.out.free 2
    have f3 := X5.out.free 3
    have f4 := X5.out.free 4
    have f5 := X5.out.free 5
    have f6 := X5.out.free 6
    have f7 := X5.out.free 7
    have f8 := X5.out.free 8
    have f9 := X5.out.free 9
    have f10 := X5.out.free 10
    have f11 := X5.out.free 11
    have f12 := X5.out.free 12
    have Y := Lib.hid (((((((((((((X5.out.set (k := 0) (by decide) (.int .i64 0)).set (k := 1) (by decide) (.int .i64 0)).set (k := 2) (by decide) (.int .i64 0)).set (k := 3) (by decide) (.int .i64 0)).set (k := 4) (by decide) (.int .i64 0)).set (k := 5) (by decide) (.int .i64 0)).set (k := 6) (by decide) (.int .i64 0)).set (k := 7) (by decide) (.int .i64 0)).set (k := 8) (by decide) (.int .i64 0)).set (k := 9) (by decide) (.slice none 0 0)).set (k := 10) (by decide) (.slice none 0 0)).set (k := 11) (by decide) (.int .i64 0)).set (k := 12) (by decide) (.int .i64 0))
    have BF := Lib.hid (show Below w.heap.size w (((((((((((((w4.setCell ⟨w.heap.size + 1, 0, none⟩ (.int .i64 0)).setCell ⟨w.heap.size + 1, 1, none⟩ (.int .i64 0)).setCell ⟨w.heap.size + 1, 2, none⟩ (.int .i64 0)).setCell ⟨w.heap.size + 1, 3, none⟩ (.int .i64 0)).setCell ⟨w.heap.size + 1, 4, none⟩ (.int .i64 0)).setCell ⟨w.heap.size + 1, 5, none⟩ (.int .i64 0)).setCell ⟨w.heap.size + 1, 6, none⟩ (.int .i64 0)).setCell ⟨w.heap.size + 1, 7, none⟩ (.int .i64 0)).setCell ⟨w.heap.size + 1, 8, none⟩ (.int .i64 0)).setCell ⟨w.heap.size + 1, 9, none⟩ (.slice none 0 0)).setCell ⟨w.heap.size + 1, 10, none⟩ (.slice none 0 0)).setCell ⟨w.heap.size + 1, 11, none⟩ (.int .i64 0)).setCell ⟨w.heap.size + 1, 12, none⟩ (.int .i64 0)) from (((((((((((((B5.out.setCell (p := ⟨w.heap.size + 1, 0, none⟩) (show w.heap.size ≤ w.heap.size + 1 by omega) (.int .i64 0)).setCell (p := ⟨w.heap.size + 1, 1, none⟩) (show w.heap.size ≤ w.heap.size + 1 by omega) (.int .i64 0)).setCell (p := ⟨w.heap.size + 1, 2, none⟩) (show w.heap.size ≤ w.heap.size + 1 by omega) (.int .i64 0)).setCell (p := ⟨w.heap.size + 1, 3, none⟩) (show w.heap.size ≤ w.heap.size + 1 by omega) (.int .i64 0)).setCell (p := ⟨w.heap.size + 1, 4, none⟩) (show w.heap.size ≤ w.heap.size + 1 by omega) (.int .i64 0)).setCell (p := ⟨w.heap.size + 1, 5, none⟩) (show w.heap.size ≤ w.heap.size + 1 by omega) (.int .i64 0)).setCell (p := ⟨w.heap.size + 1, 6, none⟩) (show w.heap.size ≤ w.heap.size + 1 by omega) (.int .i64 0)).setCell (p := ⟨w.heap.size + 1, 7, none⟩) (show w.heap.size ≤ w.heap.size + 1 by omega) (.int .i64 0)).setCell (p := ⟨w.heap.size + 1, 8, none⟩) (show w.heap.size ≤ w.heap.size + 1 by omega) (.int .i64 0)).setCell (p := ⟨w.heap.size + 1, 9, none⟩) (show w.heap.size ≤ w.heap.size + 1 by omega) (.slice none 0 0)).setCell (p := ⟨w.heap.size + 1, 10, none⟩) (show w.heap.size ≤ w.heap.size + 1 by omega) (.slice none 0 0)).setCell (p := ⟨w.heap.size + 1, 11, none⟩) (show w.heap.size ≤ w.heap.size + 1 by omega) (.int .i64 0)).setCell (p := ⟨w.heap.size + 1, 12, none⟩) (show w.heap.size ≤ w.heap.size + 1 by omega) (.int .i64 0)))
    go_wp2
    change bodyPost _ _ _ _ _ (((((((((((((w4.setCell ⟨w.heap.size + 1, 0, none⟩ (.int .i64 0)).setCell ⟨w.heap.size + 1, 1, none⟩ (.int .i64 0)).setCell ⟨w.heap.size + 1, 2, none⟩ (.int .i64 0)).setCell ⟨w.heap.size + 1, 3, none⟩ (.int .i64 0)).setCell ⟨w.heap.size + 1, 4, none⟩ (.int .i64 0)).setCell ⟨w.heap.size + 1, 5, none⟩ (.int .i64 0)).setCell ⟨w.heap.size + 1, 6, none⟩ (.int .i64 0)).setCell ⟨w.heap.size + 1, 7, none⟩ (.int .i64 0)).setCell ⟨w.heap.size + 1, 8, none⟩ (.int .i64 0)).setCell ⟨w.heap.size + 1, 9, none⟩ (.slice none 0 0)).setCell ⟨w.heap.size + 1, 10, none⟩ (.slice none 0 0)).setCell ⟨w.heap.size + 1, 11, none⟩ (.int .i64 0)).setCell ⟨w.heap.size + 1, 12, none⟩ (.int .i64 0))
    generalize ((((((((((((w4.setCell ⟨w.heap.size + 1, 0, none⟩ (.int .i64 0)).setCell ⟨w.heap.size + 1, 1, none⟩ (.int .i64 0)).setCell ⟨w.heap.size + 1, 2, none⟩ (.int .i64 0)).setCell ⟨w.heap.size + 1, 3, none⟩ (.int .i64 0)).setCell ⟨w.heap.size + 1, 4, none⟩ (.int .i64 0)).setCell ⟨w.heap.size + 1, 5, none⟩ (.int .i64 0)).setCell ⟨w.heap.size + 1, 6, none⟩ (.int .i64 0)).setCell ⟨w.heap.size + 1, 7, none⟩ (.int .i64 0)).setCell ⟨w.heap.size + 1, 8, none⟩ (.int .i64 0)).setCell ⟨w.heap.size + 1, 9, none⟩ (.slice none 0 0)).setCell ⟨w.heap.size + 1, 10, none⟩ (.slice none 0 0)).setCell ⟨w.heap.size + 1, 11, none⟩ (.int .i64 0)).setCell ⟨w.heap.size + 1, 12, none⟩ (.int .i64 0) = W9 at Y BF ⊢
    have y0 : W9.cell? ⟨w.heap.size + 1, 0, none⟩ = some (.int .i64 0) := Y.out.cell 0 (by decide)
    have y1 : W9.cell? ⟨w.heap.size + 1, 1, none⟩ = some (.int .i64 0) := Y.out.cell 1 (by decide)
    have y2 : W9.cell? ⟨w.heap.size + 1, 2, none⟩ = some (.int .i64 0) := Y.out.cell 2 (by decide)
    have y3 : W9.cell? ⟨w.heap.size + 1, 3, none⟩ = some (.int .i64 0) := Y.out.cell 3 (by decide)
    have y4 : W9.cell? ⟨w.heap.size + 1, 4, none⟩ = some (.int .i64 0) := Y.out.cell 4 (by decide)
    have y5 : W9.cell? ⟨w.heap.size + 1, 5, none⟩ = some (.int .i64 0) := Y.out.cell 5 (by decide)
    have y6 : W9.cell? ⟨w.heap.size + 1, 6, none⟩ = some (.int .i64 0) := Y.out.cell 6 (by decide)
    have y7 : W9.cell? ⟨w.heap.size + 1, 7, none⟩ = some (.int .i64 0) := Y.out.cell 7 (by decide)
    have y8 : W9.cell? ⟨w.heap.size + 1, 8, none⟩ = some (.int .i64 0) := Y.out.cell 8 (by decide)
    have y9 : W9.cell? ⟨w.heap.size + 1, 9, none⟩ = some (.slice none 0 0) := Y.out.cell 9 (by decide)
    have y10 : W9.cell? ⟨w.heap.size + 1, 10, none⟩ = some (.slice none 0 0) := Y.out.cell 10 (by decide)
    have y11 : W9.cell? ⟨w.heap.size + 1, 11, none⟩ = some (.int .i64 0) := Y.out.cell 11 (by decide)
    have y12 : W9.cell? ⟨w.heap.size + 1, 12, none⟩ = some (.int .i64 0) := Y.out.cell 12 (by decide)
    exact bodyPost_ret (v := .tuple #[.agg #[.int .i64 0, .int .i64 0, .int .i64 0, .int .i64 0, .int .i64 0, .int .i64 0, .int .i64 0, .int .i64 0, .int .i64 0, .slice none 0 0, .slice none 0 0, .int .i64 0, .int .i64 0], .int .i64 0, .int .i64 0, .int .i64 C]) (by simp [results, Try.results37, go_sem, y0, y1, y2, y3, y4, y5, y6, y7, y8, y9, y10, y11, y12]) rfl ⟨_, rfl, res_no BF.out⟩
  · rw [hk] at CK
    have OKV := ord.ok_iff.1 hk
    have p8 := OKV.p1
    have PVh := Lib.hid OKV.pv
    have hv : ord.Iin (x1, x2, x3, x4) := by rw [← hx]; exact ord.iok_iff.1 (OKV.iv k hkl)
    have HH := Lib.hid (show 1 ≤ q ∧ q ≤ x3 - x4 ∧ x2 * q ≤ (ord.ps p p.length).2.1 from ⟨q1, q2, hP⟩)
    obtain ⟨V0, V1⟩ := mul_in hv.p0 hv.p1 q1 (show q ≤ 1000 by have h1 := hv.q1; have h2 := hv.s1; have h3 := hv.r0; dsimp only at h1 h2 h3; omega)
    rw [hV] at V0 V1
    rw [hV] at hN
    have HV := Lib.hid hV
    have HN := Lib.hid hN
    have HX := Lib.hid hx
    have HI := Lib.hid hv
    have HL := Lib.hid hkl
    rw [hV]
    clear OKV hk hV hN hx hv q1 q2 hP hkl
    go_enter Try.func37, Try.ntmps37
    go_wp2_with fail
    generalize (w.alloc (.cells #[.int .i64 s.id, .int .i64 s.co, .int .i64 s.me, .int .i64 s.cu, .int .i64 s.da, .int .i64 s.nn, .int .i64 s.ra, .int .i64 s.nu, .int .i64 s.de, .slice (some ⟨gi, 0, none⟩) l.length ci, .slice (some ⟨gp, 0, none⟩) p.length cp, .int .i64 s.op, .int .i64 s.up] 31)).alloc (.cells #[.int .i64 0, .int .i64 0, .int .i64 0, .int .i64 0, .int .i64 0, .int .i64 0, .int .i64 0, .int .i64 0, .int .i64 0, .slice none 0 0, .slice none 0 0, .int .i64 0, .int .i64 0] 31) = W2 at B0 O0 X0 z0 CK ⊢
    refine CK.mono ?_
    rintro e w1 ⟨rfl, b1⟩
    have B1 := Lib.hid (B0.out.trans (b1.mono B0.out.size))
    have O1 := Lib.hid (O0.out.keep (b1.block w.heap.size (by omega)))
    have X1 := Lib.hid (X0.out.below b1 X0.out.lt)
    have z1 := b1.size
    clear b1 O0 X0 B0
    have CC := copI w1 B w.heap.size s ci gi l cp gp p gs cs O1.out (L.out.below B1.out) hl hn HM.out
    go_wp2_with fail
    refine CC.mono ?_
    rintro e w2 ⟨v, rfl, ci', gi', cp', gp', gs', cs', rfl, ol, a1, a2, a3, a4, ne, b2⟩
    have B3 := Lib.hid ((B1.out.trans (b2.mono B1.out.size)).alloc (B1.out.trans (b2.mono B1.out.size)).size (.cells #[.int .i64 s.id, .int .i64 s.co, .int .i64 s.me, .int .i64 s.cu, .int .i64 s.da, .int .i64 s.nn, .int .i64 s.ra, .int .i64 s.nu, .int .i64 s.de, .slice (some ⟨gi', 0, none⟩) l.length ci', .slice (some ⟨gp', 0, none⟩) p.length cp', .int .i64 s.op, .int .i64 s.up] 31))
    have al := fun c hc => Below.heap_alloc w2 (.cells #[.int .i64 s.id, .int .i64 s.co, .int .i64 s.me, .int .i64 s.cu, .int .i64 s.da, .int .i64 s.nn, .int .i64 s.ra, .int .i64 s.nu, .int .i64 s.de, .slice (some ⟨gi', 0, none⟩) l.length ci', .slice (some ⟨gp', 0, none⟩) p.length cp', .int .i64 s.op, .int .i64 s.up] 31) c hc
    have N2 := Lib.hid (Blk.new w2 #[.int .i64 s.id, .int .i64 s.co, .int .i64 s.me, .int .i64 s.cu, .int .i64 s.da, .int .i64 s.nn, .int .i64 s.ra, .int .i64 s.nu, .int .i64 s.de, .slice (some ⟨gi', 0, none⟩) l.length ci', .slice (some ⟨gp', 0, none⟩) p.length cp', .int .i64 s.op, .int .i64 s.up] 31 13 rfl)
    have NO2 := Lib.hid (OB.new w2 s (some ⟨gi', 0, none⟩) l.length ci' (some ⟨gp', 0, none⟩) p.length cp' 31)
    have L2 := Lib.hid (ol.below ((Below.refl w2.heap.size w2).alloc (Nat.le_refl _) (.cells #[.int .i64 s.id, .int .i64 s.co, .int .i64 s.me, .int .i64 s.cu, .int .i64 s.da, .int .i64 s.nn, .int .i64 s.ra, .int .i64 s.nu, .int .i64 s.de, .slice (some ⟨gi', 0, none⟩) l.length ci', .slice (some ⟨gp', 0, none⟩) p.length cp', .int .i64 s.op, .int .i64 s.up] 31)))
    have X3 := Lib.hid ((X1.out.below b2 X1.out.lt).keep (w' := w2.alloc (.cells #[.int .i64 s.id, .int .i64 s.co, .int .i64 s.me, .int .i64 s.cu, .int .i64 s.da, .int .i64 s.nn, .int .i64 s.ra, .int .i64 s.nu, .int .i64 s.de, .slice (some ⟨gi', 0, none⟩) l.length ci', .slice (some ⟨gp', 0, none⟩) p.length cp', .int .i64 s.op, .int .i64 s.up] 31)) (al _ (X1.out.below b2 X1.out.lt).lt) (by simp))
    have z3 := b2.size
    have z3' : (w2.alloc (.cells #[.int .i64 s.id, .int .i64 s.co, .int .i64 s.me, .int .i64 s.cu, .int .i64 s.da, .int .i64 s.nn, .int .i64 s.ra, .int .i64 s.nu, .int .i64 s.de, .slice (some ⟨gi', 0, none⟩) l.length ci', .slice (some ⟨gp', 0, none⟩) p.length cp', .int .i64 s.op, .int .i64 s.up] 31)).heap.size = w2.heap.size + 1 := by simp only [sz_al]
    have DD := Lib.hid (show w.heap.size + 1 + 1 ≤ w1.heap.size ∧ w1.heap.size ≤ gi' ∧ gi' < w2.heap.size ∧ w1.heap.size ≤ gp' ∧ gp' < w2.heap.size ∧ gi' ≠ gp' from ⟨by omega, a1, a2, a3, a4, ne⟩)
    clear b2 al ol a1 a2 a3 a4 ne CC O1 X1 B1
    go_wp2_with fail
    obtain ⟨nb, hnb⟩ : ∃ nb, nb = w2.heap.size := ⟨_, rfl⟩
    have HNB := Lib.hid hnb
    rw [← hnb] at N2 NO2 z3' ⊢
    generalize w2.alloc (.cells #[.int .i64 s.id, .int .i64 s.co, .int .i64 s.me, .int .i64 s.cu, .int .i64 s.da, .int .i64 s.nn, .int .i64 s.ra, .int .i64 s.nu, .int .i64 s.de, .slice (some ⟨gi', 0, none⟩) l.length ci', .slice (some ⟨gp', 0, none⟩) p.length cp', .int .i64 s.op, .int .i64 s.up] 31) = W3 at B3 N2 NO2 L2 X3 z3' ⊢
    clear hnb
    have CL := rfY k q W3 nb s gi' ci' l cp' gp' p gs' cs' NO2.out L2.out.items L2.out.plans HL.out HX.out HI.out HH.out.1 HH.out.2.1 p8 PVh.out (by have := DD.out; have := HNB.out; omega) (by have := DD.out; have := HNB.out; omega) DD.out.2.2.2.2.2 (fun i hi => L2.out.is_ i hi (Nat.lt_of_le_of_lt (Nat.zero_le _) HL.out)) (by have := DD.out; have := HNB.out; omega) HV.out (by rw [← HV.out]; exact HH.out.2.2) HN.out
    refine CL.mono ?_
    rintro e w4 ⟨w1x, gs2, cs2, rfl, bB, T, pl4, fr⟩
    have PLEN := Lib.hid (tkL_len p S0)
    have RI := Lib.hid ((four.rowSet3 (L2.out.items.keep (fun h => bB.block gi' (L2.out.gi1 h))) HL.out HX.out (x4 + q)).keep (w' := w4) (fun h => T.2 gi' DD.out.2.2.2.2.2 (by have := bB.size; have := DD.out; have := HNB.out; simp [World.setCell]; omega)))
    have BC := Lib.hid ((B3.out.trans (bB.mono B3.out.size)).setCell (p := ⟨gi', k * 4 + 3, none⟩) (show w.heap.size ≤ gi' by have := DD.out; omega) (.int .i64 (x4 + q)))
    have B6 := Lib.hid (BC.out.trans (T.1.mono (show w.heap.size ≤ gp' by have := DD.out; omega)))
    have szx : (w1x.setCell ⟨gi', k * 4 + 3, none⟩ (.int .i64 (x4 + q))).heap.size = w1x.heap.size := by simp [World.setCell]
    have X6 := Lib.hid (((X3.out.below bB X3.out.lt).keep (w' := w1x.setCell ⟨gi', k * 4 + 3, none⟩ (.int .i64 (x4 + q))) (Below.heap_setCell _ _ _ _ (show w.heap.size + 1 ≠ gi' by have := DD.out; omega)) (by omega)).keep (w' := w4) (T.2 _ (by have := DD.out; omega) (by have := X3.out.lt; have := bB.size; omega)) T.1.size)
    have N6 := Lib.hid (((N2.out.below bB N2.out.lt).keep (w' := w1x.setCell ⟨gi', k * 4 + 3, none⟩ (.int .i64 (x4 + q))) (Below.heap_setCell _ _ _ _ (show nb ≠ gi' by have := DD.out; have := HNB.out; omega)) (by omega)).keep (w' := w4) (T.2 _ (by have := DD.out; have := HNB.out; omega) (by have := N2.out.lt; have := bB.size; omega)) T.1.size)
    have L6 := Lib.hid (show OL w4 (w.heap.size + 1 + 1) (l.set k (x1, x2, x3, x4 + q)) (tkL p S0) (some ⟨gi', 0, none⟩) ci' gi' (some ⟨gp', 0, none⟩) cp' gp' gs2 cs2 from
      ⟨RI.out, pl4, fun _ => by have := DD.out; omega, fun _ => by have := DD.out; omega, fun i hi => by have := fr i (by rw [← PLEN.out]; exact hi); have := DD.out; have := HNB.out; omega, fun _ _ => DD.out.2.2.2.2.2, fun i hi _ => by have := fr i (by rw [← PLEN.out]; exact hi); have := DD.out; have := HNB.out; omega⟩)
    clear T pl4 fr B3 N2 NO2 L2 X3 CL bB RI BC szx
    have x0_ : w4.cell? ⟨w.heap.size + 1, 0, none⟩ = some (.int .i64 0) := X6.out.cell 0 (by decide)
    have x1_ : w4.cell? ⟨w.heap.size + 1, 1, none⟩ = some (.int .i64 0) := X6.out.cell 1 (by decide)
    have x2_ : w4.cell? ⟨w.heap.size + 1, 2, none⟩ = some (.int .i64 0) := X6.out.cell 2 (by decide)
    have x3_ : w4.cell? ⟨w.heap.size + 1, 3, none⟩ = some (.int .i64 0) := X6.out.cell 3 (by decide)
    have x4_ : w4.cell? ⟨w.heap.size + 1, 4, none⟩ = some (.int .i64 0) := X6.out.cell 4 (by decide)
    have x5_ : w4.cell? ⟨w.heap.size + 1, 5, none⟩ = some (.int .i64 0) := X6.out.cell 5 (by decide)
    have x6_ : w4.cell? ⟨w.heap.size + 1, 6, none⟩ = some (.int .i64 0) := X6.out.cell 6 (by decide)
    have x7_ : w4.cell? ⟨w.heap.size + 1, 7, none⟩ = some (.int .i64 0) := X6.out.cell 7 (by decide)
    have x8_ : w4.cell? ⟨w.heap.size + 1, 8, none⟩ = some (.int .i64 0) := X6.out.cell 8 (by decide)
    have x9_ : w4.cell? ⟨w.heap.size + 1, 9, none⟩ = some (.slice none 0 0) := X6.out.cell 9 (by decide)
    have x10_ : w4.cell? ⟨w.heap.size + 1, 10, none⟩ = some (.slice none 0 0) := X6.out.cell 10 (by decide)
    have x11_ : w4.cell? ⟨w.heap.size + 1, 11, none⟩ = some (.int .i64 0) := X6.out.cell 11 (by decide)
    have x12_ : w4.cell? ⟨w.heap.size + 1, 12, none⟩ = some (.int .i64 0) := X6.out.cell 12 (by decide)
    have f0_ := X6.out.free 0
    have f1_ := X6.out.free 1
    have f2_ := X6.out.free 2
    have f3_ := X6.out.free 3
    have f4_ := X6.out.free 4
    have f5_ := X6.out.free 5
    have f6_ := X6.out.free 6
    have f7_ := X6.out.free 7
    have f8_ := X6.out.free 8
    have f9_ := X6.out.free 9
    have f10_ := X6.out.free 10
    have f11_ := X6.out.free 11
    have f12_ := X6.out.free 12
    have n0_ : w4.cell? ⟨nb, 0, none⟩ = some (.int .i64 s.id) := N6.out.cell 0 (by decide)
    have n1_ : w4.cell? ⟨nb, 1, none⟩ = some (.int .i64 s.co) := N6.out.cell 1 (by decide)
    have n2_ : w4.cell? ⟨nb, 2, none⟩ = some (.int .i64 s.me) := N6.out.cell 2 (by decide)
    have n3_ : w4.cell? ⟨nb, 3, none⟩ = some (.int .i64 s.cu) := N6.out.cell 3 (by decide)
    have n4_ : w4.cell? ⟨nb, 4, none⟩ = some (.int .i64 s.da) := N6.out.cell 4 (by decide)
    have n5_ : w4.cell? ⟨nb, 5, none⟩ = some (.int .i64 s.nn) := N6.out.cell 5 (by decide)
    have n6_ : w4.cell? ⟨nb, 6, none⟩ = some (.int .i64 s.ra) := N6.out.cell 6 (by decide)
    have n7_ : w4.cell? ⟨nb, 7, none⟩ = some (.int .i64 s.nu) := N6.out.cell 7 (by decide)
    have n8_ : w4.cell? ⟨nb, 8, none⟩ = some (.int .i64 s.de) := N6.out.cell 8 (by decide)
    have n9_ : w4.cell? ⟨nb, 9, none⟩ = some (.slice (some ⟨gi', 0, none⟩) l.length ci') := N6.out.cell 9 (by decide)
    have n10_ : w4.cell? ⟨nb, 10, none⟩ = some (.slice (some ⟨gp', 0, none⟩) p.length cp') := N6.out.cell 10 (by decide)
    have n11_ : w4.cell? ⟨nb, 11, none⟩ = some (.int .i64 s.op) := N6.out.cell 11 (by decide)
    have n12_ : w4.cell? ⟨nb, 12, none⟩ = some (.int .i64 s.up) := N6.out.cell 12 (by decide)
    have Y := Lib.hid (((((((((((((X6.out.set (k := 0) (by decide) (.int .i64 s.id)).set (k := 1) (by decide) (.int .i64 s.co)).set (k := 2) (by decide) (.int .i64 s.me)).set (k := 3) (by decide) (.int .i64 s.cu)).set (k := 4) (by decide) (.int .i64 s.da)).set (k := 5) (by decide) (.int .i64 s.nn)).set (k := 6) (by decide) (.int .i64 s.ra)).set (k := 7) (by decide) (.int .i64 s.nu)).set (k := 8) (by decide) (.int .i64 s.de)).set (k := 9) (by decide) (.slice (some ⟨gi', 0, none⟩) l.length ci')).set (k := 10) (by decide) (.slice (some ⟨gp', 0, none⟩) p.length cp')).set (k := 11) (by decide) (.int .i64 s.op)).set (k := 12) (by decide) (.int .i64 s.up))
    have BF := Lib.hid (show Below w.heap.size w (((((((((((((w4.setCell ⟨w.heap.size + 1, 0, none⟩ (.int .i64 s.id)).setCell ⟨w.heap.size + 1, 1, none⟩ (.int .i64 s.co)).setCell ⟨w.heap.size + 1, 2, none⟩ (.int .i64 s.me)).setCell ⟨w.heap.size + 1, 3, none⟩ (.int .i64 s.cu)).setCell ⟨w.heap.size + 1, 4, none⟩ (.int .i64 s.da)).setCell ⟨w.heap.size + 1, 5, none⟩ (.int .i64 s.nn)).setCell ⟨w.heap.size + 1, 6, none⟩ (.int .i64 s.ra)).setCell ⟨w.heap.size + 1, 7, none⟩ (.int .i64 s.nu)).setCell ⟨w.heap.size + 1, 8, none⟩ (.int .i64 s.de)).setCell ⟨w.heap.size + 1, 9, none⟩ (.slice (some ⟨gi', 0, none⟩) l.length ci')).setCell ⟨w.heap.size + 1, 10, none⟩ (.slice (some ⟨gp', 0, none⟩) p.length cp')).setCell ⟨w.heap.size + 1, 11, none⟩ (.int .i64 s.op)).setCell ⟨w.heap.size + 1, 12, none⟩ (.int .i64 s.up)) from (((((((((((((B6.out.setCell (p := ⟨w.heap.size + 1, 0, none⟩) (show w.heap.size ≤ w.heap.size + 1 by omega) (.int .i64 s.id)).setCell (p := ⟨w.heap.size + 1, 1, none⟩) (show w.heap.size ≤ w.heap.size + 1 by omega) (.int .i64 s.co)).setCell (p := ⟨w.heap.size + 1, 2, none⟩) (show w.heap.size ≤ w.heap.size + 1 by omega) (.int .i64 s.me)).setCell (p := ⟨w.heap.size + 1, 3, none⟩) (show w.heap.size ≤ w.heap.size + 1 by omega) (.int .i64 s.cu)).setCell (p := ⟨w.heap.size + 1, 4, none⟩) (show w.heap.size ≤ w.heap.size + 1 by omega) (.int .i64 s.da)).setCell (p := ⟨w.heap.size + 1, 5, none⟩) (show w.heap.size ≤ w.heap.size + 1 by omega) (.int .i64 s.nn)).setCell (p := ⟨w.heap.size + 1, 6, none⟩) (show w.heap.size ≤ w.heap.size + 1 by omega) (.int .i64 s.ra)).setCell (p := ⟨w.heap.size + 1, 7, none⟩) (show w.heap.size ≤ w.heap.size + 1 by omega) (.int .i64 s.nu)).setCell (p := ⟨w.heap.size + 1, 8, none⟩) (show w.heap.size ≤ w.heap.size + 1 by omega) (.int .i64 s.de)).setCell (p := ⟨w.heap.size + 1, 9, none⟩) (show w.heap.size ≤ w.heap.size + 1 by omega) (.slice (some ⟨gi', 0, none⟩) l.length ci')).setCell (p := ⟨w.heap.size + 1, 10, none⟩) (show w.heap.size ≤ w.heap.size + 1 by omega) (.slice (some ⟨gp', 0, none⟩) p.length cp')).setCell (p := ⟨w.heap.size + 1, 11, none⟩) (show w.heap.size ≤ w.heap.size + 1 by omega) (.int .i64 s.op)).setCell (p := ⟨w.heap.size + 1, 12, none⟩) (show w.heap.size ≤ w.heap.size + 1 by omega) (.int .i64 s.up)))
    have LF := Lib.hid (show OL (((((((((((((w4.setCell ⟨w.heap.size + 1, 0, none⟩ (.int .i64 s.id)).setCell ⟨w.heap.size + 1, 1, none⟩ (.int .i64 s.co)).setCell ⟨w.heap.size + 1, 2, none⟩ (.int .i64 s.me)).setCell ⟨w.heap.size + 1, 3, none⟩ (.int .i64 s.cu)).setCell ⟨w.heap.size + 1, 4, none⟩ (.int .i64 s.da)).setCell ⟨w.heap.size + 1, 5, none⟩ (.int .i64 s.nn)).setCell ⟨w.heap.size + 1, 6, none⟩ (.int .i64 s.ra)).setCell ⟨w.heap.size + 1, 7, none⟩ (.int .i64 s.nu)).setCell ⟨w.heap.size + 1, 8, none⟩ (.int .i64 s.de)).setCell ⟨w.heap.size + 1, 9, none⟩ (.slice (some ⟨gi', 0, none⟩) l.length ci')).setCell ⟨w.heap.size + 1, 10, none⟩ (.slice (some ⟨gp', 0, none⟩) p.length cp')).setCell ⟨w.heap.size + 1, 11, none⟩ (.int .i64 s.op)).setCell ⟨w.heap.size + 1, 12, none⟩ (.int .i64 s.up)) w.heap.size (l.set k (x1, x2, x3, x4 + q)) (tkL p S0) (some ⟨gi', 0, none⟩) ci' gi' (some ⟨gp', 0, none⟩) cp' gp' gs2 cs2 from ⟨L6.out.items.keep fun _ => (((((((((((((Below.heap_setCell _ _ _ _ (show gi' ≠ w.heap.size + 1 by have := DD.out; omega)).trans (Below.heap_setCell _ _ _ _ (show gi' ≠ w.heap.size + 1 by have := DD.out; omega))).trans (Below.heap_setCell _ _ _ _ (show gi' ≠ w.heap.size + 1 by have := DD.out; omega))).trans (Below.heap_setCell _ _ _ _ (show gi' ≠ w.heap.size + 1 by have := DD.out; omega))).trans (Below.heap_setCell _ _ _ _ (show gi' ≠ w.heap.size + 1 by have := DD.out; omega))).trans (Below.heap_setCell _ _ _ _ (show gi' ≠ w.heap.size + 1 by have := DD.out; omega))).trans (Below.heap_setCell _ _ _ _ (show gi' ≠ w.heap.size + 1 by have := DD.out; omega))).trans (Below.heap_setCell _ _ _ _ (show gi' ≠ w.heap.size + 1 by have := DD.out; omega))).trans (Below.heap_setCell _ _ _ _ (show gi' ≠ w.heap.size + 1 by have := DD.out; omega))).trans (Below.heap_setCell _ _ _ _ (show gi' ≠ w.heap.size + 1 by have := DD.out; omega))).trans (Below.heap_setCell _ _ _ _ (show gi' ≠ w.heap.size + 1 by have := DD.out; omega))).trans (Below.heap_setCell _ _ _ _ (show gi' ≠ w.heap.size + 1 by have := DD.out; omega))).trans (Below.heap_setCell _ _ _ _ (show gi' ≠ w.heap.size + 1 by have := DD.out; omega))), L6.out.plans.keep (fun _ => (((((((((((((Below.heap_setCell _ _ _ _ (show gp' ≠ w.heap.size + 1 by have := DD.out; omega)).trans (Below.heap_setCell _ _ _ _ (show gp' ≠ w.heap.size + 1 by have := DD.out; omega))).trans (Below.heap_setCell _ _ _ _ (show gp' ≠ w.heap.size + 1 by have := DD.out; omega))).trans (Below.heap_setCell _ _ _ _ (show gp' ≠ w.heap.size + 1 by have := DD.out; omega))).trans (Below.heap_setCell _ _ _ _ (show gp' ≠ w.heap.size + 1 by have := DD.out; omega))).trans (Below.heap_setCell _ _ _ _ (show gp' ≠ w.heap.size + 1 by have := DD.out; omega))).trans (Below.heap_setCell _ _ _ _ (show gp' ≠ w.heap.size + 1 by have := DD.out; omega))).trans (Below.heap_setCell _ _ _ _ (show gp' ≠ w.heap.size + 1 by have := DD.out; omega))).trans (Below.heap_setCell _ _ _ _ (show gp' ≠ w.heap.size + 1 by have := DD.out; omega))).trans (Below.heap_setCell _ _ _ _ (show gp' ≠ w.heap.size + 1 by have := DD.out; omega))).trans (Below.heap_setCell _ _ _ _ (show gp' ≠ w.heap.size + 1 by have := DD.out; omega))).trans (Below.heap_setCell _ _ _ _ (show gp' ≠ w.heap.size + 1 by have := DD.out; omega))).trans (Below.heap_setCell _ _ _ _ (show gp' ≠ w.heap.size + 1 by have := DD.out; omega)))) (fun i hi => (((((((((((((Below.heap_setCell _ _ _ _ (show gs2 i ≠ w.heap.size + 1 by have := L6.out.gs0 i hi; omega)).trans (Below.heap_setCell _ _ _ _ (show gs2 i ≠ w.heap.size + 1 by have := L6.out.gs0 i hi; omega))).trans (Below.heap_setCell _ _ _ _ (show gs2 i ≠ w.heap.size + 1 by have := L6.out.gs0 i hi; omega))).trans (Below.heap_setCell _ _ _ _ (show gs2 i ≠ w.heap.size + 1 by have := L6.out.gs0 i hi; omega))).trans (Below.heap_setCell _ _ _ _ (show gs2 i ≠ w.heap.size + 1 by have := L6.out.gs0 i hi; omega))).trans (Below.heap_setCell _ _ _ _ (show gs2 i ≠ w.heap.size + 1 by have := L6.out.gs0 i hi; omega))).trans (Below.heap_setCell _ _ _ _ (show gs2 i ≠ w.heap.size + 1 by have := L6.out.gs0 i hi; omega))).trans (Below.heap_setCell _ _ _ _ (show gs2 i ≠ w.heap.size + 1 by have := L6.out.gs0 i hi; omega))).trans (Below.heap_setCell _ _ _ _ (show gs2 i ≠ w.heap.size + 1 by have := L6.out.gs0 i hi; omega))).trans (Below.heap_setCell _ _ _ _ (show gs2 i ≠ w.heap.size + 1 by have := L6.out.gs0 i hi; omega))).trans (Below.heap_setCell _ _ _ _ (show gs2 i ≠ w.heap.size + 1 by have := L6.out.gs0 i hi; omega))).trans (Below.heap_setCell _ _ _ _ (show gs2 i ≠ w.heap.size + 1 by have := L6.out.gs0 i hi; omega))).trans (Below.heap_setCell _ _ _ _ (show gs2 i ≠ w.heap.size + 1 by have := L6.out.gs0 i hi; omega)))) (by simp only [sz_set]; exact Nat.le_refl _), fun h => Nat.le_trans (show w.heap.size ≤ w.heap.size + 1 + 1 by omega) (L6.out.gi0 h), fun h => Nat.le_trans (show w.heap.size ≤ w.heap.size + 1 + 1 by omega) (L6.out.gp0 h), fun i h => Nat.le_trans (show w.heap.size ≤ w.heap.size + 1 + 1 by omega) (L6.out.gs0 i h), L6.out.ip, L6.out.is_⟩)
    clear X6 N6 L6 B6
    go_wp2
    change bodyPost _ _ _ _ _ (((((((((((((w4.setCell ⟨w.heap.size + 1, 0, none⟩ (.int .i64 s.id)).setCell ⟨w.heap.size + 1, 1, none⟩ (.int .i64 s.co)).setCell ⟨w.heap.size + 1, 2, none⟩ (.int .i64 s.me)).setCell ⟨w.heap.size + 1, 3, none⟩ (.int .i64 s.cu)).setCell ⟨w.heap.size + 1, 4, none⟩ (.int .i64 s.da)).setCell ⟨w.heap.size + 1, 5, none⟩ (.int .i64 s.nn)).setCell ⟨w.heap.size + 1, 6, none⟩ (.int .i64 s.ra)).setCell ⟨w.heap.size + 1, 7, none⟩ (.int .i64 s.nu)).setCell ⟨w.heap.size + 1, 8, none⟩ (.int .i64 s.de)).setCell ⟨w.heap.size + 1, 9, none⟩ (.slice (some ⟨gi', 0, none⟩) l.length ci')).setCell ⟨w.heap.size + 1, 10, none⟩ (.slice (some ⟨gp', 0, none⟩) p.length cp')).setCell ⟨w.heap.size + 1, 11, none⟩ (.int .i64 s.op)).setCell ⟨w.heap.size + 1, 12, none⟩ (.int .i64 s.up))
    generalize ((((((((((((w4.setCell ⟨w.heap.size + 1, 0, none⟩ (.int .i64 s.id)).setCell ⟨w.heap.size + 1, 1, none⟩ (.int .i64 s.co)).setCell ⟨w.heap.size + 1, 2, none⟩ (.int .i64 s.me)).setCell ⟨w.heap.size + 1, 3, none⟩ (.int .i64 s.cu)).setCell ⟨w.heap.size + 1, 4, none⟩ (.int .i64 s.da)).setCell ⟨w.heap.size + 1, 5, none⟩ (.int .i64 s.nn)).setCell ⟨w.heap.size + 1, 6, none⟩ (.int .i64 s.ra)).setCell ⟨w.heap.size + 1, 7, none⟩ (.int .i64 s.nu)).setCell ⟨w.heap.size + 1, 8, none⟩ (.int .i64 s.de)).setCell ⟨w.heap.size + 1, 9, none⟩ (.slice (some ⟨gi', 0, none⟩) l.length ci')).setCell ⟨w.heap.size + 1, 10, none⟩ (.slice (some ⟨gp', 0, none⟩) p.length cp')).setCell ⟨w.heap.size + 1, 11, none⟩ (.int .i64 s.op)).setCell ⟨w.heap.size + 1, 12, none⟩ (.int .i64 s.up) = W9 at Y BF LF ⊢
    have y0 : W9.cell? ⟨w.heap.size + 1, 0, none⟩ = some (.int .i64 s.id) := Y.out.cell 0 (by decide)
    have y1 : W9.cell? ⟨w.heap.size + 1, 1, none⟩ = some (.int .i64 s.co) := Y.out.cell 1 (by decide)
    have y2 : W9.cell? ⟨w.heap.size + 1, 2, none⟩ = some (.int .i64 s.me) := Y.out.cell 2 (by decide)
    have y3 : W9.cell? ⟨w.heap.size + 1, 3, none⟩ = some (.int .i64 s.cu) := Y.out.cell 3 (by decide)
    have y4 : W9.cell? ⟨w.heap.size + 1, 4, none⟩ = some (.int .i64 s.da) := Y.out.cell 4 (by decide)
    have y5 : W9.cell? ⟨w.heap.size + 1, 5, none⟩ = some (.int .i64 s.nn) := Y.out.cell 5 (by decide)
    have y6 : W9.cell? ⟨w.heap.size + 1, 6, none⟩ = some (.int .i64 s.ra) := Y.out.cell 6 (by decide)
    have y7 : W9.cell? ⟨w.heap.size + 1, 7, none⟩ = some (.int .i64 s.nu) := Y.out.cell 7 (by decide)
    have y8 : W9.cell? ⟨w.heap.size + 1, 8, none⟩ = some (.int .i64 s.de) := Y.out.cell 8 (by decide)
    have y9 : W9.cell? ⟨w.heap.size + 1, 9, none⟩ = some (.slice (some ⟨gi', 0, none⟩) l.length ci') := Y.out.cell 9 (by decide)
    have y10 : W9.cell? ⟨w.heap.size + 1, 10, none⟩ = some (.slice (some ⟨gp', 0, none⟩) p.length cp') := Y.out.cell 10 (by decide)
    have y11 : W9.cell? ⟨w.heap.size + 1, 11, none⟩ = some (.int .i64 s.op) := Y.out.cell 11 (by decide)
    have y12 : W9.cell? ⟨w.heap.size + 1, 12, none⟩ = some (.int .i64 s.up) := Y.out.cell 12 (by decide)
    refine bodyPost_ret (v := .tuple #[.agg #[.int .i64 s.id, .int .i64 s.co, .int .i64 s.me, .int .i64 s.cu, .int .i64 s.da, .int .i64 s.nn, .int .i64 s.ra, .int .i64 s.nu, .int .i64 s.de, .slice (some ⟨gi', 0, none⟩) l.length ci', .slice (some ⟨gp', 0, none⟩) p.length cp', .int .i64 s.op, .int .i64 s.up], .int .i64 S0, .int .i64 S1, .int .i64 0]) (by simp [results, Try.results37, go_sem, y0, y1, y2, y3, y4, y5, y6, y7, y8, y9, y10, y11, y12]) rfl ⟨_, rfl, _, _, _, _, _, _, _, _, ?_, LF.out, BF.out⟩
    rw [PLEN.out, List.length_set]
end Go.Proofs.Ytmaejlfjdkkpdaa.ob
