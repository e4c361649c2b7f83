/-
  Plain helpers of this seat's proofs: the contract of the landed method that copies an order. Conditions: none.
-/
import Derived.Test.YtmaejlfjdkkpdaaNwO
import Derived.Test.YtmaejlfjdkkpdaaSi
import Derived.Test.YtmaejlfjdkkpdaaFlI4
import Derived.Test.YtmaejlfjdkkpdaaFl7
import Derived.Test.YtmaejlfjdkkpdaaBxs
import Derived.Deep.RegionHeld3
namespace Go.Proofs.Ytmaejlfjdkkpdaa.ob
open Go.ChangeShapes Go.WideShapes Go.ChangeAt Go.RowKit
open gen
open seven (F7 zz Row At)
open four (F4)
open pl (inR)
open pls (nth Pls OL Pq NewO)
open ord (Sc iok)
set_option maxRecDepth 100000 in
set_option maxHeartbeats 8000000 in
theorem copI (w : World) (B b : Nat) (s : Sc) (ci gi : Nat) (l : List F4) (cp gp : Nat) (p : List (List F7)) (gs cs : Nat → Nat) (hb : OB w b s (some ⟨gi, 0, none⟩) l.length ci (some ⟨gp, 0, none⟩) p.length cp)
    (h : OL w B l p (some ⟨gi, 0, none⟩) ci gi (some ⟨gp, 0, none⟩) cp gp gs cs) (hl : l.length ≤ 1048576) (hn : p.length ≤ 1048576) (hm : ∀ i, i < p.length → (nth p i).length ≤ 1048577) :
    Calls Try.prog 65 #[.pointer (some ⟨b, 0, none⟩)] w fun e w' => ∃ v, e = .returned v ∧ NewO w s l p v w' := by
  have L := Lib.hid h
  have OBh := Lib.hid hb
  have HM := Lib.hid hm
  have bl := hb.lt
  have rp := h.plans.room
  have B2 := Lib.hid (show Below w.heap.size w ((w.alloc (.cells #[.int .i64 0, .int .i64 0, .int .i64 0, .int .i64 0, .int .i64 0, .int .i64 0, .int .i64 0, .int .i64 0, .int .i64 0, .slice none 0 0, .slice none 0 0, .int .i64 0, .int .i64 0] 31)).alloc (.cells #[.int .i64 s.id, .int .i64 s.co, .int .i64 s.me, .int .i64 s.cu, .int .i64 s.da, .int .i64 s.nn, .int .i64 s.ra, .int .i64 s.nu, .int .i64 s.de, .slice (some ⟨gi, 0, none⟩) l.length ci, .slice (some ⟨gp, 0, none⟩) p.length cp, .int .i64 s.op, .int .i64 s.up] 31)) from bAl (bAl (Below.refl _ _) (Nat.le_refl _) _) (Nat.le_refl _) _)
  have X0 := Lib.hid ((Blk.new w #[.int .i64 0, .int .i64 0, .int .i64 0, .int .i64 0, .int .i64 0, .int .i64 0, .int .i64 0, .int .i64 0, .int .i64 0, .slice none 0 0, .slice none 0 0, .int .i64 0, .int .i64 0] 31 13 rfl).al (.cells #[.int .i64 s.id, .int .i64 s.co, .int .i64 s.me, .int .i64 s.cu, .int .i64 s.da, .int .i64 s.nn, .int .i64 s.ra, .int .i64 s.nu, .int .i64 s.de, .slice (some ⟨gi, 0, none⟩) l.length ci, .slice (some ⟨gp, 0, none⟩) p.length cp, .int .i64 s.op, .int .i64 s.up] 31))
  have X1 := Blk.new (w.alloc (.cells #[.int .i64 0, .int .i64 0, .int .i64 0, .int .i64 0, .int .i64 0, .int .i64 0, .int .i64 0, .int .i64 0, .int .i64 0, .slice none 0 0, .slice none 0 0, .int .i64 0, .int .i64 0] 31)) #[.int .i64 s.id, .int .i64 s.co, .int .i64 s.me, .int .i64 s.cu, .int .i64 s.da, .int .i64 s.nn, .int .i64 s.ra, .int .i64 s.nu, .int .i64 s.de, .slice (some ⟨gi, 0, none⟩) l.length ci, .slice (some ⟨gp, 0, none⟩) p.length cp, .int .i64 s.op, .int .i64 s.up] 31 13 rfl
  have z2 : ((w.alloc (.cells #[.int .i64 0, .int .i64 0, .int .i64 0, .int .i64 0, .int .i64 0, .int .i64 0, .int .i64 0, .int .i64 0, .int .i64 0, .slice none 0 0, .slice none 0 0, .int .i64 0, .int .i64 0] 31)).alloc (.cells #[.int .i64 s.id, .int .i64 s.co, .int .i64 s.me, .int .i64 s.cu, .int .i64 s.da, .int .i64 s.nn, .int .i64 s.ra, .int .i64 s.nu, .int .i64 s.de, .slice (some ⟨gi, 0, none⟩) l.length ci, .slice (some ⟨gp, 0, none⟩) p.length cp, .int .i64 s.op, .int .i64 s.up] 31)).heap.size = w.heap.size + 1 + 1 := by simp only [sz_al]
  simp only [sz_al] at X1
  have X1 := Lib.hid X1
  obtain ⟨y0, y1, y2, y3, y4, y5, y6, y7, y8, y9, y10, y11, y12⟩ := hb
  clear h hm
  obtain ⟨i0, hi, hz0, hz1, hz2⟩ := info_parts pls.infoP
  go_enter Try.func65, Try.ntmps65
  go_wp2_with fail
  generalize (w.alloc (.cells #[.int .i64 0, .int .i64 0, .int .i64 0, .int .i64 0, .int .i64 0, .int .i64 0, .int .i64 0, .int .i64 0, .int .i64 0, .slice none 0 0, .slice none 0 0, .int .i64 0, .int .i64 0] 31)).alloc (.cells #[.int .i64 s.id, .int .i64 s.co, .int .i64 s.me, .int .i64 s.cu, .int .i64 s.da, .int .i64 s.nn, .int .i64 s.ra, .int .i64 s.nu, .int .i64 s.de, .slice (some ⟨gi, 0, none⟩) l.length ci, .slice (some ⟨gp, 0, none⟩) p.length cp, .int .i64 s.op, .int .i64 s.up] 31) = W2 at B2 X0 X1 z2 ⊢
  have CI := four.cpI W2 gi ci l (L.out.below B2.out).items (by omega)
  clear y0 y1 y2 y3 y4 y5 y6 y7 y8 y9 y10 y11 y12
  refine CI.mono ?_
  rintro e w3 ⟨v3, rfl, c1, g1, rfl, r3, l3, k3, b3⟩
  have B3 := Lib.hid (B2.out.trans (b3.mono B2.out.size))
  have R3 := Lib.hid r3
  have Y0 := Lib.hid (X0.out.below b3 X0.out.lt)
  have Y1 := Lib.hid (X1.out.below b3 X1.out.lt)
  have L3 := Lib.hid (show w.heap.size + 1 + 1 ≤ g1 ∧ g1 < w3.heap.size from by omega)
  have O3 := OBh.out.keep (B3.out.block b bl)
  have y10 := O3.c10
  have a9 : w3.cell? ⟨w.heap.size + 1, 9, none⟩ = some (.slice (some ⟨gi, 0, none⟩) l.length ci) := Y1.out.cell 9 (by decide)
  have f9 := Y1.out.free 9
  clear r3 l3 k3 b3 O3 CI X0 X1
  go_wp2_with (at_make; refine wpList_make_full _ rfl _ _ 29 rfl w3.heap.size 62 i0 (.agg #[.slice none 0 0]) 1 Try.underlying29 hi hz0 hz1 _ _ _ _ p.length rfl rfl rfl rfl ?b2 ?b3 ?b4 ?_)
  case b2 => (try rw [hz2]); omega
  case b3 => unfold maxLen; omega
  case b4 => exact Nat.le_of_eq (sz_set _ _ _).symm
  have B3' := Lib.hid (B3.out.setCell (p := ⟨w.heap.size + 1, 9, none⟩) (show w.heap.size ≤ w.heap.size + 1 by omega) (.slice (some ⟨g1, 0, none⟩) l.length c1))
  have Z0 := Lib.hid (Y0.out.other (k := 9) (g' := w.heap.size + 1) (by omega) (.slice (some ⟨g1, 0, none⟩) l.length c1))
  have Z1 := Lib.hid (Y1.out.set (k := 9) (by decide) (.slice (some ⟨g1, 0, none⟩) l.length c1))
  have R3' := Lib.hid (R3.out.keep (w' := w3.setCell ⟨w.heap.size + 1, 9, none⟩ (.slice (some ⟨g1, 0, none⟩) l.length c1)) fun _ => Below.heap_setCell _ _ _ _ (show g1 ≠ w.heap.size + 1 by have := L3.out; omega))
  have L3' := Lib.hid (show w.heap.size + 1 + 1 ≤ g1 ∧ g1 < (w3.setCell ⟨w.heap.size + 1, 9, none⟩ (.slice (some ⟨g1, 0, none⟩) l.length c1)).heap.size from by rw [sz_set]; exact L3.out)
  have y10' : (w3.setCell ⟨w.heap.size + 1, 9, none⟩ (.slice (some ⟨g1, 0, none⟩) l.length c1)).cell? ⟨b, 10, none⟩ = some (.slice (some ⟨gp, 0, none⟩) p.length cp) := pls.cell_keep y10 (Below.heap_setCell _ _ _ _ (show b ≠ w.heap.size + 1 by omega))
  clear B3 Y0 Y1 R3 L3 y10 a9 f9
  intro w4 hown0 hgrow0
  have z33 : (w3.setCell ⟨w.heap.size + 1, 9, none⟩ (.slice (some ⟨g1, 0, none⟩) l.length c1)).heap.size = w3.heap.size := sz_set _ _ _
  generalize w3.setCell ⟨w.heap.size + 1, 9, none⟩ (.slice (some ⟨g1, 0, none⟩) l.length c1) = W3 at B3' Z0 Z1 R3' L3' y10' hown0 hgrow0 z33 ⊢
  obtain ⟨⟨A0, hA0, _⟩, hg0, _⟩ := Blk.of_owns hown0
  rw [Nat.mul_one] at hA0
  have BL0 := Lib.hid hA0
  have bb : Below W3.heap.size W3 w4 := (Below.refl W3.heap.size W3).grown hgrow0 (Nat.le_refl _) (fun k h => by cases h)
  have B4 := Lib.hid (B3'.out.trans (bb.mono B3'.out.size))
  have Y0 := Lib.hid (Z0.out.below bb Z0.out.lt)
  have Y1 := Lib.hid (Z1.out.below bb Z1.out.lt)
  have R4 := Lib.hid (R3'.out.keep (w' := w4) fun _ => bb.block g1 L3'.out.2)
  have L4 := Lib.hid (show w.heap.size + 1 + 1 ≤ g1 ∧ g1 < w3.heap.size ∧ w3.heap.size < w4.heap.size from ⟨L3'.out.1, by have := L3'.out.2; omega, BL0.out.lt⟩)
  have y10 : w4.cell? ⟨b, 10, none⟩ = some (.slice (some ⟨gp, 0, none⟩) p.length cp) := pls.cell_keep y10' (bb.block b (pls.cell_lt y10'))
  have a10 : w4.cell? ⟨w.heap.size + 1, 10, none⟩ = some (.slice (some ⟨gp, 0, none⟩) p.length cp) := Y1.out.cell 10 (by decide)
  have f10 := Y1.out.free 10
  clear hown0 hgrow0 hA0 hg0 hi hz0 hz1 hz2 bb B3' Z0 Z1 R3' L3' y10' z33
  obtain ⟨g2, hg2⟩ : ∃ g2, g2 = w3.heap.size := ⟨_, rfl⟩
  rw [← hg2] at BL0 L4 ⊢
  clear hg2
  have bl2 : b ≠ w.heap.size + 1 := by omega
  go_wp2_with fail
  have B5 := Lib.hid (B4.out.setCell (p := ⟨w.heap.size + 1, 10, none⟩) (show w.heap.size ≤ w.heap.size + 1 by omega) (.slice (some ⟨g2, 0, none⟩) p.length p.length))
  have Z0 := Lib.hid (Y0.out.other (k := 10) (g' := w.heap.size + 1) (by omega) (.slice (some ⟨g2, 0, none⟩) p.length p.length))
  have Z1 := Lib.hid ((Y1.out.set (k := 10) (by decide) (.slice (some ⟨g2, 0, none⟩) p.length p.length)).same (A' := cf #[.int .i64 s.id, .int .i64 s.co, .int .i64 s.me, .int .i64 s.cu, .int .i64 s.da, .int .i64 s.nn, .int .i64 s.ra, .int .i64 s.nu, .int .i64 s.de, .slice (some ⟨g1, 0, none⟩) l.length c1, .slice (some ⟨g2, 0, none⟩) p.length p.length, .int .i64 s.op, .int .i64 s.up]) (fun k hk => by
    match k, hk with
    | 0, _ => rfl
    | 1, _ => rfl
    | 2, _ => rfl
    | 3, _ => rfl
    | 4, _ => rfl
    | 5, _ => rfl
    | 6, _ => rfl
    | 7, _ => rfl
    | 8, _ => rfl
    | 9, _ => rfl
    | 10, _ => rfl
    | 11, _ => rfl
    | 12, _ => rfl))
  have R5 := Lib.hid (R4.out.keep (w' := w4.setCell ⟨w.heap.size + 1, 10, none⟩ (.slice (some ⟨g2, 0, none⟩) p.length p.length)) fun _ => Below.heap_setCell _ _ _ _ (show g1 ≠ w.heap.size + 1 by have := L4.out; omega))
  have Q5 := Lib.hid (show Pq (w4.setCell ⟨w.heap.size + 1, 10, none⟩ (.slice (some ⟨g2, 0, none⟩) p.length p.length)) g2 p.length A0 p (fun _ => 0) (fun _ => 0) 0 from ⟨BL0.out.other (by have := L4.out; omega) _, fun j h => by omega, fun j h => by omega, fun j h => by omega, fun j h => by omega, fun i j _ h => by omega⟩)
  have L5 := Lib.hid (show w.heap.size + 1 + 1 ≤ g1 ∧ g1 < g2 from ⟨L4.out.1, L4.out.2.1⟩)
  clear B4 Y0 Y1 R4 L4 BL0 y10 a10 f10
  generalize w4.setCell ⟨w.heap.size + 1, 10, none⟩ (.slice (some ⟨g2, 0, none⟩) p.length p.length) = W5 at B5 Z0 Z1 R5 Q5 ⊢
  have HN : p.length ≤ 1048576 := hn
  obtain ⟨n, hnz⟩ : ∃ n, n = p.length := ⟨_, rfl⟩
  rw [← hnz] at HN hn rp Z1 Q5 ⊢
  have HNZ := Lib.hid hnz
  clear hnz
  go_loopw [27] (fun i wr => Below w.heap.size w wr ∧ Blk wr w.heap.size 13 (cf #[.int .i64 0, .int .i64 0, .int .i64 0, .int .i64 0, .int .i64 0, .int .i64 0, .int .i64 0, .int .i64 0, .int .i64 0, .slice none 0 0, .slice none 0 0, .int .i64 0, .int .i64 0]) ∧ Blk wr (w.heap.size + 1) 13 (cf #[.int .i64 s.id, .int .i64 s.co, .int .i64 s.me, .int .i64 s.cu, .int .i64 s.da, .int .i64 s.nn, .int .i64 s.ra, .int .i64 s.nu, .int .i64 s.de, .slice (some ⟨g1, 0, none⟩) l.length c1, .slice (some ⟨g2, 0, none⟩) n n, .int .i64 s.op, .int .i64 s.up]) ∧ four.Row wr (some ⟨g1, 0, none⟩) c1 g1 l ∧ ∃ (k : Nat) (A : Nat → Value) (gs' cs' : Nat → Nat), k ≤ n ∧ i = .int .i64 k ∧ Pq wr g2 n A p gs' cs' k) (fun i _ => n - (intOf i).toNat)
  case atStart => exact ⟨B5.out, Z0.out, Z1.out, R5.out, 0, A0, _, _, by omega, rfl, Q5.out⟩
  case round =>
    obtain ⟨hB, hX, hY, hR, k, A, gs', cs', hk, rfl, hP⟩ := hrel
    have BB := Lib.hid hB
    clear B5 Z0 Z1 R5 Q5
    by_cases hlt : k < n
    · have HLT := Lib.hid (show k < p.length from by rw [← HNZ.out]; exact hlt)
      have XX := Lib.hid hX
      have YY := Lib.hid hY
      have RR := Lib.hid hR
      have PP := Lib.hid hP
      have q1 := (L.out.below hB).plans.cells k HLT.out
      have CC := Lib.hid (fun W (hb : Below w.heap.size w W) => seven.cpI W _ _ (nth p k) ((L.out.below hb).plans.rows k HLT.out) (HM.out k HLT.out))
      have a10 : wr.cell? ⟨w.heap.size + 1, 10, none⟩ = some (.slice (some ⟨g2, 0, none⟩) n n) := hY.cell 10 (by decide)
      have lr1 := hY.lt
      have z1 : (k : Int) < (n : Int) := by omega
      have v1 : decide (k < n) = true := by simp; omega
      obtain ⟨q, hq⟩ : ∃ q, q = nth p k := ⟨_, rfl⟩
      rw [← hq] at q1 CC
      have HQ := Lib.hid hq
      clear hB hX hY hR hP hq
      generalize gs k = gk at q1 CC
      generalize cs k = ck at q1 CC
      have BA := Lib.hid (BB.out.alloc BB.out.size (.cells #[.slice (some ⟨gk, 0, none⟩) q.length ck] 62))
      have b10 : (wr.alloc (.cells #[.slice (some ⟨gk, 0, none⟩) q.length ck] 62)).cell? ⟨w.heap.size + 1, 10, none⟩ = some (.slice (some ⟨g2, 0, none⟩) n n) := pls.cell_keep a10 (Below.heap_alloc _ _ _ lr1)
      have b0 : (wr.alloc (.cells #[.slice (some ⟨gk, 0, none⟩) q.length ck] 62)).cell? ⟨wr.heap.size, 0, none⟩ = some (.slice (some ⟨gk, 0, none⟩) q.length ck) := box_cell (box_refl wr _) 0 rfl
      have z6 : (wr.alloc (.cells #[.slice (some ⟨gk, 0, none⟩) q.length ck] 62)).heap.size = wr.heap.size + 1 := by simp only [sz_al]
      have al := Lib.hid (fun c hc => Below.heap_alloc wr (.cells #[.slice (some ⟨gk, 0, none⟩) q.length ck] 62) c hc)
      go_wp2_with fail
      obtain ⟨pb, hpb⟩ : ∃ pb, pb = wr.heap.size := ⟨_, rfl⟩
      have HPB := Lib.hid hpb
      rw [← hpb] at b0 z6 ⊢
      generalize wr.alloc (.cells #[.slice (some ⟨gk, 0, none⟩) q.length ck] 62) = W6 at BA b10 b0 z6 al ⊢
      clear hpb a10
      have BD := Lib.hid BA.out.drew
      have SD := Lib.hid (show W6.drew.cell? ⟨w.heap.size + 1, 10, none⟩ = some (.slice (some ⟨g2, 0, none⟩) n n) ∧ W6.drew.cell? ⟨pb, 0, none⟩ = some (.slice (some ⟨gk, 0, none⟩) q.length ck) from ⟨b10, b0⟩)
      have l1 : w.heap.size + 1 < W6.heap.size := by have := HPB.out; omega
      have l2 : pb < W6.heap.size := by omega
      have n1 : g2 ≠ w.heap.size + 1 := by have := L5.out; omega
      have n2 : g2 ≠ pb := by have := PP.out.blk.lt; have := HPB.out; omega
      go_region_held3 (fun w' => w'.cell? ⟨w.heap.size + 1, 10, none⟩ = some (.slice (some ⟨g2, 0, none⟩) n n) ∧ w'.cell? ⟨pb, 0, none⟩ = some (.slice (some ⟨gk, 0, none⟩) q.length ck)) (first | exact SK.out _ | exact S7.out | exact SD.out | exact ⟨b10, b0⟩ | go_keep)
        (first | (go_at_call 100; refine (CC.out _ BD.out).mono ?_; rintro e w7 ⟨v7, rfl, c7, g7, rfl, r7, l7, k7, b7⟩; have B7 := Lib.hid (BD.out.trans (b7.mono BD.out.size)); have R7 := Lib.hid r7; have L7 := Lib.hid (show W6.heap.size ≤ g7 ∧ g7 < w7.heap.size from ⟨l7, k7⟩); have K7 := Lib.hid b7; have S7 := Lib.hid (show w7.cell? ⟨w.heap.size + 1, 10, none⟩ = some (.slice (some ⟨g2, 0, none⟩) n n) ∧ w7.cell? ⟨pb, 0, none⟩ = some (.slice (some ⟨gk, 0, none⟩) q.length ck) from ⟨(b7.cell (p := ⟨w.heap.size + 1, 10, none⟩) l1).trans b10, (b7.cell (p := ⟨pb, 0, none⟩) l2).trans b0⟩); have kp := Lib.hid (show ∀ c, c < wr.heap.size → w7.heap[c]? = wr.heap[c]? from fun c hc => (b7.block c (show c < W6.heap.size by have := HPB.out; omega)).trans (al.out c hc)); have P7 := Lib.hid (PP.out.keep (w1 := w7) (fun c _ hc => kp.out c hc) (by have := b7.size; have := HPB.out; simp only [World.drew] at *; omega)); have y7 := P7.out.blk.cell k hlt; have f7 := P7.out.blk.free k; have SK := Lib.hid (show ∀ v, (w7.setCell ⟨g2, k, none⟩ v).cell? ⟨w.heap.size + 1, 10, none⟩ = some (.slice (some ⟨g2, 0, none⟩) n n) ∧ (w7.setCell ⟨g2, k, none⟩ v).cell? ⟨pb, 0, none⟩ = some (.slice (some ⟨gk, 0, none⟩) q.length ck) from fun v => ⟨(World.cell?_setCell_other w7 ⟨g2, k, none⟩ ⟨w.heap.size + 1, 10, none⟩ v (fun q => by injection q with q1 q2; omega)).trans S7.out.1, (World.cell?_setCell_other w7 ⟨g2, k, none⟩ ⟨pb, 0, none⟩ v (fun q => by injection q with q1 q2; omega)).trans S7.out.2⟩); clear r7 l7 k7 b7))
      all_goals
        have ST := Lib.hid (P7.out.step (c1 := c7) (g1 := g7) hlt (by rw [← HQ.out]; exact R7.out) (by have := PP.out.blk.lt; have := L7.out; have := HPB.out; omega) (fun i hi => by have := PP.out.lt i hi; have := L7.out; have := HPB.out; omega) L7.out.2)
        rw [← HQ.out] at ST
        have OT := Lib.hid (show ∀ c, c < wr.heap.size → c ≠ g2 → (w7.setCell ⟨g2, k, none⟩ (.slice (some ⟨g7, 0, none⟩) q.length c7)).heap[c]? = wr.heap[c]? from fun c hc hn => (Below.heap_setCell _ _ _ _ hn).trans (kp.out c hc))
        have GS := Lib.hid (show wr.heap.size ≤ w7.heap.size from by have := L7.out; have := HPB.out; omega)
        clear y7 f7 b10 b0 q1
        go_wp2
        go_roundw
        case rel =>
          exact ⟨B7.out.setCell (p := ⟨g2, k, none⟩) (show w.heap.size ≤ g2 by have := L5.out; omega) _, XX.out.keep (OT.out _ XX.out.lt (by have := L5.out; omega)) (by rw [sz_set]; exact GS.out), YY.out.keep (OT.out _ YY.out.lt (by have := L5.out; omega)) (by rw [sz_set]; exact GS.out), RR.out.keep (fun h => OT.out _ (RR.out.lt h) (by have := L5.out; omega)), k + 1, _, _, _, by omega, by go_num, ST.out⟩
        case measure => simp [intOf]; omega
    · have v1 : decide (k < n) = false := by simp; omega
      obtain rfl : k = n := by omega
      have a0 : wr.cell? ⟨w.heap.size + 1, 0, none⟩ = some (.int .i64 s.id) := hY.cell 0 (by decide)
      have a1 : wr.cell? ⟨w.heap.size + 1, 1, none⟩ = some (.int .i64 s.co) := hY.cell 1 (by decide)
      have a2 : wr.cell? ⟨w.heap.size + 1, 2, none⟩ = some (.int .i64 s.me) := hY.cell 2 (by decide)
      have a3 : wr.cell? ⟨w.heap.size + 1, 3, none⟩ = some (.int .i64 s.cu) := hY.cell 3 (by decide)
      have a4 : wr.cell? ⟨w.heap.size + 1, 4, none⟩ = some (.int .i64 s.da) := hY.cell 4 (by decide)
      have a5 : wr.cell? ⟨w.heap.size + 1, 5, none⟩ = some (.int .i64 s.nn) := hY.cell 5 (by decide)
      have a6 : wr.cell? ⟨w.heap.size + 1, 6, none⟩ = some (.int .i64 s.ra) := hY.cell 6 (by decide)
      have a7 : wr.cell? ⟨w.heap.size + 1, 7, none⟩ = some (.int .i64 s.nu) := hY.cell 7 (by decide)
      have a8 : wr.cell? ⟨w.heap.size + 1, 8, none⟩ = some (.int .i64 s.de) := hY.cell 8 (by decide)
      have a9 : wr.cell? ⟨w.heap.size + 1, 9, none⟩ = some (.slice (some ⟨g1, 0, none⟩) l.length c1) := hY.cell 9 (by decide)
      have a10 : wr.cell? ⟨w.heap.size + 1, 10, none⟩ = some (.slice (some ⟨g2, 0, none⟩) k k) := hY.cell 10 (by decide)
      have a11 : wr.cell? ⟨w.heap.size + 1, 11, none⟩ = some (.int .i64 s.op) := hY.cell 11 (by decide)
      have a12 : wr.cell? ⟨w.heap.size + 1, 12, none⟩ = some (.int .i64 s.up) := hY.cell 12 (by decide)
      have x0 : wr.cell? ⟨w.heap.size, 0, none⟩ = some (.int .i64 0) := hX.cell 0 (by decide)
      have x1 : wr.cell? ⟨w.heap.size, 1, none⟩ = some (.int .i64 0) := hX.cell 1 (by decide)
      have x2 : wr.cell? ⟨w.heap.size, 2, none⟩ = some (.int .i64 0) := hX.cell 2 (by decide)
      have x3 : wr.cell? ⟨w.heap.size, 3, none⟩ = some (.int .i64 0) := hX.cell 3 (by decide)
      have x4 : wr.cell? ⟨w.heap.size, 4, none⟩ = some (.int .i64 0) := hX.cell 4 (by decide)
      have x5 : wr.cell? ⟨w.heap.size, 5, none⟩ = some (.int .i64 0) := hX.cell 5 (by decide)
      have x6 : wr.cell? ⟨w.heap.size, 6, none⟩ = some (.int .i64 0) := hX.cell 6 (by decide)
      have x7 : wr.cell? ⟨w.heap.size, 7, none⟩ = some (.int .i64 0) := hX.cell 7 (by decide)
      have x8 : wr.cell? ⟨w.heap.size, 8, none⟩ = some (.int .i64 0) := hX.cell 8 (by decide)
      have x9 : wr.cell? ⟨w.heap.size, 9, none⟩ = some (.slice none 0 0) := hX.cell 9 (by decide)
      have x10 : wr.cell? ⟨w.heap.size, 10, none⟩ = some (.slice none 0 0) := hX.cell 10 (by decide)
      have x11 : wr.cell? ⟨w.heap.size, 11, none⟩ = some (.int .i64 0) := hX.cell 11 (by decide)
      have x12 : wr.cell? ⟨w.heap.size, 12, none⟩ = some (.int .i64 0) := hX.cell 12 (by decide)
      have f0 := hX.free 0
      have f1 := hX.free 1
      have f2 := hX.free 2
      have f3 := hX.free 3
      have f4 := hX.free 4
      have f5 := hX.free 5
      have f6 := hX.free 6
      have f7 := hX.free 7
      have f8 := hX.free 8
      have f9 := hX.free 9
      have f10 := hX.free 10
      have f11 := hX.free 11
      have f12 := hX.free 12
      have Y := Lib.hid (((((((((((((hX.set (k := 0) (by decide) (.int .i64 s.id)).set (k := 1) (by decide) (.int .i64 s.co)).set (k := 2) (by decide) (.int .i64 s.me)).set (k := 3) (by decide) (.int .i64 s.cu)).set (k := 4) (by decide) (.int .i64 s.da)).set (k := 5) (by decide) (.int .i64 s.nn)).set (k := 6) (by decide) (.int .i64 s.ra)).set (k := 7) (by decide) (.int .i64 s.nu)).set (k := 8) (by decide) (.int .i64 s.de)).set (k := 9) (by decide) (.slice (some ⟨g1, 0, none⟩) l.length c1)).set (k := 10) (by decide) (.slice (some ⟨g2, 0, none⟩) k k)).set (k := 11) (by decide) (.int .i64 s.op)).set (k := 12) (by decide) (.int .i64 s.up))
      have BF := Lib.hid (show Below w.heap.size w (((((((((((((wr.setCell ⟨w.heap.size, 0, none⟩ (.int .i64 s.id)).setCell ⟨w.heap.size, 1, none⟩ (.int .i64 s.co)).setCell ⟨w.heap.size, 2, none⟩ (.int .i64 s.me)).setCell ⟨w.heap.size, 3, none⟩ (.int .i64 s.cu)).setCell ⟨w.heap.size, 4, none⟩ (.int .i64 s.da)).setCell ⟨w.heap.size, 5, none⟩ (.int .i64 s.nn)).setCell ⟨w.heap.size, 6, none⟩ (.int .i64 s.ra)).setCell ⟨w.heap.size, 7, none⟩ (.int .i64 s.nu)).setCell ⟨w.heap.size, 8, none⟩ (.int .i64 s.de)).setCell ⟨w.heap.size, 9, none⟩ (.slice (some ⟨g1, 0, none⟩) l.length c1)).setCell ⟨w.heap.size, 10, none⟩ (.slice (some ⟨g2, 0, none⟩) k k)).setCell ⟨w.heap.size, 11, none⟩ (.int .i64 s.op)).setCell ⟨w.heap.size, 12, none⟩ (.int .i64 s.up)) from (((((((((((((hB.setCell (p := ⟨w.heap.size, 0, none⟩) (Nat.le_refl _) (.int .i64 s.id)).setCell (p := ⟨w.heap.size, 1, none⟩) (Nat.le_refl _) (.int .i64 s.co)).setCell (p := ⟨w.heap.size, 2, none⟩) (Nat.le_refl _) (.int .i64 s.me)).setCell (p := ⟨w.heap.size, 3, none⟩) (Nat.le_refl _) (.int .i64 s.cu)).setCell (p := ⟨w.heap.size, 4, none⟩) (Nat.le_refl _) (.int .i64 s.da)).setCell (p := ⟨w.heap.size, 5, none⟩) (Nat.le_refl _) (.int .i64 s.nn)).setCell (p := ⟨w.heap.size, 6, none⟩) (Nat.le_refl _) (.int .i64 s.ra)).setCell (p := ⟨w.heap.size, 7, none⟩) (Nat.le_refl _) (.int .i64 s.nu)).setCell (p := ⟨w.heap.size, 8, none⟩) (Nat.le_refl _) (.int .i64 s.de)).setCell (p := ⟨w.heap.size, 9, none⟩) (Nat.le_refl _) (.slice (some ⟨g1, 0, none⟩) l.length c1)).setCell (p := ⟨w.heap.size, 10, none⟩) (Nat.le_refl _) (.slice (some ⟨g2, 0, none⟩) k k)).setCell (p := ⟨w.heap.size, 11, none⟩) (Nat.le_refl _) (.int .i64 s.op)).setCell (p := ⟨w.heap.size, 12, none⟩) (Nat.le_refl _) (.int .i64 s.up)))
      have RF := Lib.hid (hR.keep (w' := ((((((((((((wr.setCell ⟨w.heap.size, 0, none⟩ (.int .i64 s.id)).setCell ⟨w.heap.size, 1, none⟩ (.int .i64 s.co)).setCell ⟨w.heap.size, 2, none⟩ (.int .i64 s.me)).setCell ⟨w.heap.size, 3, none⟩ (.int .i64 s.cu)).setCell ⟨w.heap.size, 4, none⟩ (.int .i64 s.da)).setCell ⟨w.heap.size, 5, none⟩ (.int .i64 s.nn)).setCell ⟨w.heap.size, 6, none⟩ (.int .i64 s.ra)).setCell ⟨w.heap.size, 7, none⟩ (.int .i64 s.nu)).setCell ⟨w.heap.size, 8, none⟩ (.int .i64 s.de)).setCell ⟨w.heap.size, 9, none⟩ (.slice (some ⟨g1, 0, none⟩) l.length c1)).setCell ⟨w.heap.size, 10, none⟩ (.slice (some ⟨g2, 0, none⟩) k k)).setCell ⟨w.heap.size, 11, none⟩ (.int .i64 s.op)).setCell ⟨w.heap.size, 12, none⟩ (.int .i64 s.up)) fun _ => (((((((((((((Below.heap_setCell _ _ _ _ (show g1 ≠ w.heap.size by have := L5.out; omega)).trans (Below.heap_setCell _ _ _ _ (show g1 ≠ w.heap.size by have := L5.out; omega))).trans (Below.heap_setCell _ _ _ _ (show g1 ≠ w.heap.size by have := L5.out; omega))).trans (Below.heap_setCell _ _ _ _ (show g1 ≠ w.heap.size by have := L5.out; omega))).trans (Below.heap_setCell _ _ _ _ (show g1 ≠ w.heap.size by have := L5.out; omega))).trans (Below.heap_setCell _ _ _ _ (show g1 ≠ w.heap.size by have := L5.out; omega))).trans (Below.heap_setCell _ _ _ _ (show g1 ≠ w.heap.size by have := L5.out; omega))).trans (Below.heap_setCell _ _ _ _ (show g1 ≠ w.heap.size by have := L5.out; omega))).trans (Below.heap_setCell _ _ _ _ (show g1 ≠ w.heap.size by have := L5.out; omega))).trans (Below.heap_setCell _ _ _ _ (show g1 ≠ w.heap.size by have := L5.out; omega))).trans (Below.heap_setCell _ _ _ _ (show g1 ≠ w.heap.size by have := L5.out; omega))).trans (Below.heap_setCell _ _ _ _ (show g1 ≠ w.heap.size by have := L5.out; omega))).trans (Below.heap_setCell _ _ _ _ (show g1 ≠ w.heap.size by have := L5.out; omega))))
      have PF := Lib.hid (hP.keep (w1 := ((((((((((((wr.setCell ⟨w.heap.size, 0, none⟩ (.int .i64 s.id)).setCell ⟨w.heap.size, 1, none⟩ (.int .i64 s.co)).setCell ⟨w.heap.size, 2, none⟩ (.int .i64 s.me)).setCell ⟨w.heap.size, 3, none⟩ (.int .i64 s.cu)).setCell ⟨w.heap.size, 4, none⟩ (.int .i64 s.da)).setCell ⟨w.heap.size, 5, none⟩ (.int .i64 s.nn)).setCell ⟨w.heap.size, 6, none⟩ (.int .i64 s.ra)).setCell ⟨w.heap.size, 7, none⟩ (.int .i64 s.nu)).setCell ⟨w.heap.size, 8, none⟩ (.int .i64 s.de)).setCell ⟨w.heap.size, 9, none⟩ (.slice (some ⟨g1, 0, none⟩) l.length c1)).setCell ⟨w.heap.size, 10, none⟩ (.slice (some ⟨g2, 0, none⟩) k k)).setCell ⟨w.heap.size, 11, none⟩ (.int .i64 s.op)).setCell ⟨w.heap.size, 12, none⟩ (.int .i64 s.up)) (fun c hc hl => (((((((((((((Below.heap_setCell _ _ _ _ (show c ≠ w.heap.size by have := L5.out; omega)).trans (Below.heap_setCell _ _ _ _ (show c ≠ w.heap.size by have := L5.out; omega))).trans (Below.heap_setCell _ _ _ _ (show c ≠ w.heap.size by have := L5.out; omega))).trans (Below.heap_setCell _ _ _ _ (show c ≠ w.heap.size by have := L5.out; omega))).trans (Below.heap_setCell _ _ _ _ (show c ≠ w.heap.size by have := L5.out; omega))).trans (Below.heap_setCell _ _ _ _ (show c ≠ w.heap.size by have := L5.out; omega))).trans (Below.heap_setCell _ _ _ _ (show c ≠ w.heap.size by have := L5.out; omega))).trans (Below.heap_setCell _ _ _ _ (show c ≠ w.heap.size by have := L5.out; omega))).trans (Below.heap_setCell _ _ _ _ (show c ≠ w.heap.size by have := L5.out; omega))).trans (Below.heap_setCell _ _ _ _ (show c ≠ w.heap.size by have := L5.out; omega))).trans (Below.heap_setCell _ _ _ _ (show c ≠ w.heap.size by have := L5.out; omega))).trans (Below.heap_setCell _ _ _ _ (show c ≠ w.heap.size by have := L5.out; omega))).trans (Below.heap_setCell _ _ _ _ (show c ≠ w.heap.size by have := L5.out; omega)))) (by simp only [sz_set]; exact Nat.le_refl _))
      have SF := Lib.hid (show (((((((((((((wr.setCell ⟨w.heap.size, 0, none⟩ (.int .i64 s.id)).setCell ⟨w.heap.size, 1, none⟩ (.int .i64 s.co)).setCell ⟨w.heap.size, 2, none⟩ (.int .i64 s.me)).setCell ⟨w.heap.size, 3, none⟩ (.int .i64 s.cu)).setCell ⟨w.heap.size, 4, none⟩ (.int .i64 s.da)).setCell ⟨w.heap.size, 5, none⟩ (.int .i64 s.nn)).setCell ⟨w.heap.size, 6, none⟩ (.int .i64 s.ra)).setCell ⟨w.heap.size, 7, none⟩ (.int .i64 s.nu)).setCell ⟨w.heap.size, 8, none⟩ (.int .i64 s.de)).setCell ⟨w.heap.size, 9, none⟩ (.slice (some ⟨g1, 0, none⟩) l.length c1)).setCell ⟨w.heap.size, 10, none⟩ (.slice (some ⟨g2, 0, none⟩) k k)).setCell ⟨w.heap.size, 11, none⟩ (.int .i64 s.op)).setCell ⟨w.heap.size, 12, none⟩ (.int .i64 s.up)).heap.size = wr.heap.size from by simp only [sz_set])
      have LG := Lib.hid (show g1 < g2 ∧ g2 < wr.heap.size from ⟨L5.out.2, hP.blk.lt⟩)
      clear hB hX hY hR hP
      go_wp2
      change bodyPost _ _ _ _ _ (((((((((((((wr.setCell ⟨w.heap.size, 0, none⟩ (.int .i64 s.id)).setCell ⟨w.heap.size, 1, none⟩ (.int .i64 s.co)).setCell ⟨w.heap.size, 2, none⟩ (.int .i64 s.me)).setCell ⟨w.heap.size, 3, none⟩ (.int .i64 s.cu)).setCell ⟨w.heap.size, 4, none⟩ (.int .i64 s.da)).setCell ⟨w.heap.size, 5, none⟩ (.int .i64 s.nn)).setCell ⟨w.heap.size, 6, none⟩ (.int .i64 s.ra)).setCell ⟨w.heap.size, 7, none⟩ (.int .i64 s.nu)).setCell ⟨w.heap.size, 8, none⟩ (.int .i64 s.de)).setCell ⟨w.heap.size, 9, none⟩ (.slice (some ⟨g1, 0, none⟩) l.length c1)).setCell ⟨w.heap.size, 10, none⟩ (.slice (some ⟨g2, 0, none⟩) k k)).setCell ⟨w.heap.size, 11, none⟩ (.int .i64 s.op)).setCell ⟨w.heap.size, 12, none⟩ (.int .i64 s.up))
      generalize ((((((((((((wr.setCell ⟨w.heap.size, 0, none⟩ (.int .i64 s.id)).setCell ⟨w.heap.size, 1, none⟩ (.int .i64 s.co)).setCell ⟨w.heap.size, 2, none⟩ (.int .i64 s.me)).setCell ⟨w.heap.size, 3, none⟩ (.int .i64 s.cu)).setCell ⟨w.heap.size, 4, none⟩ (.int .i64 s.da)).setCell ⟨w.heap.size, 5, none⟩ (.int .i64 s.nn)).setCell ⟨w.heap.size, 6, none⟩ (.int .i64 s.ra)).setCell ⟨w.heap.size, 7, none⟩ (.int .i64 s.nu)).setCell ⟨w.heap.size, 8, none⟩ (.int .i64 s.de)).setCell ⟨w.heap.size, 9, none⟩ (.slice (some ⟨g1, 0, none⟩) l.length c1)).setCell ⟨w.heap.size, 10, none⟩ (.slice (some ⟨g2, 0, none⟩) k k)).setCell ⟨w.heap.size, 11, none⟩ (.int .i64 s.op)).setCell ⟨w.heap.size, 12, none⟩ (.int .i64 s.up) = W9 at Y BF RF PF SF ⊢
      have y0 : W9.cell? ⟨w.heap.size, 0, none⟩ = some (.int .i64 s.id) := Y.out.cell 0 (by decide)
      have y1 : W9.cell? ⟨w.heap.size, 1, none⟩ = some (.int .i64 s.co) := Y.out.cell 1 (by decide)
      have y2 : W9.cell? ⟨w.heap.size, 2, none⟩ = some (.int .i64 s.me) := Y.out.cell 2 (by decide)
      have y3 : W9.cell? ⟨w.heap.size, 3, none⟩ = some (.int .i64 s.cu) := Y.out.cell 3 (by decide)
      have y4 : W9.cell? ⟨w.heap.size, 4, none⟩ = some (.int .i64 s.da) := Y.out.cell 4 (by decide)
      have y5 : W9.cell? ⟨w.heap.size, 5, none⟩ = some (.int .i64 s.nn) := Y.out.cell 5 (by decide)
      have y6 : W9.cell? ⟨w.heap.size, 6, none⟩ = some (.int .i64 s.ra) := Y.out.cell 6 (by decide)
      have y7 : W9.cell? ⟨w.heap.size, 7, none⟩ = some (.int .i64 s.nu) := Y.out.cell 7 (by decide)
      have y8 : W9.cell? ⟨w.heap.size, 8, none⟩ = some (.int .i64 s.de) := Y.out.cell 8 (by decide)
      have y9 : W9.cell? ⟨w.heap.size, 9, none⟩ = some (.slice (some ⟨g1, 0, none⟩) l.length c1) := Y.out.cell 9 (by decide)
      have y10 : W9.cell? ⟨w.heap.size, 10, none⟩ = some (.slice (some ⟨g2, 0, none⟩) k k) := Y.out.cell 10 (by decide)
      have y11 : W9.cell? ⟨w.heap.size, 11, none⟩ = some (.int .i64 s.op) := Y.out.cell 11 (by decide)
      have y12 : W9.cell? ⟨w.heap.size, 12, none⟩ = some (.int .i64 s.up) := Y.out.cell 12 (by decide)
      refine bodyPost_ret (v := .agg #[.int .i64 s.id, .int .i64 s.co, .int .i64 s.me, .int .i64 s.cu, .int .i64 s.da, .int .i64 s.nn, .int .i64 s.ra, .int .i64 s.nu, .int .i64 s.de, .slice (some ⟨g1, 0, none⟩) l.length c1, .slice (some ⟨g2, 0, none⟩) k k, .int .i64 s.op, .int .i64 s.up]) (by simp [results, Try.results65, go_sem, y0, y1, y2, y3, y4, y5, y6, y7, y8, y9, y10, y11, y12]) rfl ⟨_, rfl, c1, g1, k, g2, gs', cs', by rw [HNZ.out], ?_, by have := L5.out; omega, by have := LG.out; have := SF.out; omega, by have := L5.out; omega, by have := LG.out; have := SF.out; omega, by have := LG.out; omega, BF.out⟩
      have PL9 := PF.out.pls HNZ.out.symm
      exact ⟨RF.out, PL9, fun _ => by have := L5.out; omega, fun _ => by have := L5.out; omega, fun i hi => by have := PF.out.lo i (by first | exact hi | (rw [HNZ.out]; exact hi)); have := L5.out; omega, fun _ _ => by have := L5.out; omega, fun i hi _ => by have := PF.out.lo i (by first | exact hi | (rw [HNZ.out]; exact hi)); have := L5.out; omega⟩
end Go.Proofs.Ytmaejlfjdkkpdaa.ob
