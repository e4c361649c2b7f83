/-
  Plain helpers of this seat's proofs: the contract of the model's function that puts one post into a ledger. Conditions: none.
-/
import Derived.Test.YtpogfdeioibkdaaGreatDoorBal
import Derived.Test.YtpogfdeioibkdaaGreatDoorFl
import Derived.Test.YtpogfdeioibkdaaGreatDoorPst
import Derived.StillTailTactics
namespace Go.Proofs.YtpogfdeioibkdaaGreatDoor.led
theorem put_pre : ∀ {A B : List F5} {p : F5}, (∀ x ∈ A, K x < K p) → put (A ++ B) p = A ++ put B p
  | [], _, _, _ => rfl
  | x :: A, B, p, h => by
    show put (x :: (A ++ B)) p = x :: (A ++ put B p)
    rw [put, if_pos (h x (by simp)), put_pre (fun y hy => h y (by simp [hy]))]
theorem drop_succ5 {l : List F5} {k : Nat} (h : k < l.length) : l.drop k = l.getD k z5 :: l.drop (k + 1) := by
  rw [List.drop_eq_getElem_cons h, List.getD_eq_getElem?_getD, List.getElem?_eq_getElem h]; rfl
theorem take_lt {l : List F5} {k : Nat} {p : F5} (hk : k ≤ l.length) (h : ∀ i, i < k → K (l.getD i z5) < K p) : ∀ x ∈ l.take k, K x < K p := fun x hx => by
  obtain ⟨i, hi, e⟩ := mem_getD hx
  have hi' : i < k := by simp at hi; omega
  have := h i hi'
  rw [List.getD_eq_getElem?_getD, List.getElem?_take, if_pos hi', ← List.getD_eq_getElem?_getD] at e
  rw [e] at this
  exact this
/-- Where the search for a post's place stands. -/
structure PI (l : List F5) (p : F5) (k : Nat) (q : F5) (dn : Bool) (out : List F5) : Prop where
  no : dn = false → q = p ∧ out = l.take k ∧ ∀ i, i < k → K (l.getD i z5) < K p
  yes : dn = true → same q p ∧ out ++ l.drop k = put l p ∧ ∀ i, k ≤ i → i < l.length → K p < K (l.getD i z5)
theorem PI.start (l : List F5) (p : F5) : PI l p 0 p false [] := ⟨fun _ => ⟨rfl, by simp, fun i hi => absurd hi (by omega)⟩, fun h => by cases h⟩
theorem PI.low {l : List F5} {p q : F5} {k : Nat} {out : List F5} (h : PI l p k q false out) (hk : k < l.length) (hx : K (l.getD k z5) < K p) : PI l p (k + 1) q false (out ++ [l.getD k z5]) := by
  obtain ⟨h1, h2, h3⟩ := h.no rfl
  refine ⟨fun _ => ⟨h1, by rw [h2, take_succ5 hk], fun i hi => ?_⟩, fun h => by cases h⟩
  rcases Nat.lt_succ_iff_lt_or_eq.1 hi with h | rfl
  · exact h3 i h
  · exact hx
theorem PI.hit {l : List F5} {p q : F5} {k : Nat} {out : List F5} (ss : SS l) (h : PI l p k q false out) (hk : k < l.length) (hx : K (l.getD k z5) = K p) : q = p ∧ (nn p + nn (l.getD k z5) = 0 → PI l p (k + 1) (wn p (nn p + nn (l.getD k z5))) true out) ∧ (nn p + nn (l.getD k z5) ≠ 0 → PI l p (k + 1) (wn p (nn p + nn (l.getD k z5))) true (out ++ [wn p (nn p + nn (l.getD k z5))])) := by
  obtain ⟨h1, h2, h3⟩ := h.no rfl
  have e : put l p = l.take k ++ (if nn p + nn (l.getD k z5) = 0 then l.drop (k + 1) else wn p (nn p + nn (l.getD k z5)) :: l.drop (k + 1)) := by
    have := put_pre (B := l.drop k) (take_lt (Nat.le_of_lt hk) h3)
    rw [List.take_append_drop, drop_succ5 hk, put, if_neg (by omega), if_pos hx] at this
    exact this
  have up : ∀ i, k + 1 ≤ i → i < l.length → K p < K (l.getD i z5) := fun i h4 h5 => by rw [← hx]; exact SS_get ss (by omega) h5
  refine ⟨h1, fun h0 => ⟨(fun h => by cases h), fun _ => ⟨same_wn p _, ?_, up⟩⟩, fun h0 => ⟨(fun h => by cases h), fun _ => ⟨same_wn p _, ?_, up⟩⟩⟩
  · rw [e, if_pos h0, h2]
  · rw [e, if_neg h0, h2, List.append_assoc]; rfl
theorem PI.past {l : List F5} {p q : F5} {k : Nat} {out : List F5} (ss : SS l) (h : PI l p k q false out) (hk : k < l.length) (hx : K p < K (l.getD k z5)) : q = p ∧ (nn p = 0 → PI l p (k + 1) q true (out ++ [l.getD k z5])) ∧ (nn p ≠ 0 → PI l p (k + 1) q true ((out ++ [q]) ++ [l.getD k z5])) := by
  obtain ⟨h1, h2, h3⟩ := h.no rfl
  have e : put l p = l.take k ++ (if nn p = 0 then l.getD k z5 :: l.drop (k + 1) else p :: l.getD k z5 :: l.drop (k + 1)) := by
    have := put_pre (B := l.drop k) (take_lt (Nat.le_of_lt hk) h3)
    rw [List.take_append_drop, drop_succ5 hk, put, if_neg (by omega), if_neg (by omega)] at this
    exact this
  have up : ∀ i, k + 1 ≤ i → i < l.length → K p < K (l.getD i z5) := fun i h4 h5 => by have := SS_get ss (show k < i by omega) h5; omega
  subst h1
  refine ⟨rfl, fun h0 => ⟨(fun h => by cases h), fun _ => ⟨⟨rfl, rfl, rfl, rfl⟩, ?_, up⟩⟩, fun h0 => ⟨(fun h => by cases h), fun _ => ⟨⟨rfl, rfl, rfl, rfl⟩, ?_, up⟩⟩⟩
  · rw [e, if_pos h0, h2, List.append_assoc]; rfl
  · rw [e, if_neg h0, h2, List.append_assoc, List.append_assoc]; rfl
theorem PI.on {l : List F5} {p q : F5} {k : Nat} {out : List F5} (h : PI l p k q true out) (hk : k < l.length) : K q = K p ∧ K p < K (l.getD k z5) ∧ PI l p (k + 1) q true (out ++ [l.getD k z5]) := by
  obtain ⟨h1, h2, h3⟩ := h.yes rfl
  refine ⟨h1.K, h3 k (Nat.le_refl _) hk, (fun h => by cases h), fun _ => ⟨h1, ?_, fun i h4 h5 => h3 i (by omega) h5⟩⟩
  rw [← h2, drop_succ5 hk, List.append_assoc]; rfl
theorem PI.endT {l : List F5} {p q : F5} {out : List F5} (h : PI l p l.length q true out) : out = put l p := by
  have := (h.yes rfl).2.1
  simpa using this
theorem PI.endF {l : List F5} {p q : F5} {out : List F5} (h : PI l p l.length q false out) : q = p ∧ (nn p = 0 → out = put l p) ∧ (nn p ≠ 0 → out ++ [q] = put l p) := by
  obtain ⟨h1, h2, h3⟩ := h.no rfl
  have e : put l p = l ++ put [] p := by
    have := put_pre (A := l) (B := []) (p := p) (by have := take_lt (Nat.le_refl _) h3; rw [List.take_length] at this; exact this)
    rw [List.append_nil] at this
    exact this
  rw [List.take_length] at h2
  subst h1
  refine ⟨rfl, fun h0 => ?_, fun h0 => ?_⟩
  · rw [e, put, if_pos h0, h2, List.append_nil]
  · rw [e, put, if_neg h0, h2]

end Go.Proofs.YtpogfdeioibkdaaGreatDoor.led

namespace Go.Proofs.YtpogfdeioibkdaaGreatDoor.mp
open Go.ChangeShapes Go.WideShapes Go.ChangeAt Go.RowKit
open led (F5 z5 nn wn)
open five (Row At Blk)
/-- The post's box, the list that is made, the ledger. -/
structure Put (w wr : World) (g : Nat) (l : List F5) (q : F5) (v : Value) (out : List F5) : Prop where
  below : Below w.heap.size w wr
  box : Blk wr w.heap.size 5 (draw.cz q)
  own : wr.ownsRow (w.heap.size + 1) 36 5 v out.length (draw.fl out)
  live : v ≠ .slice none 0 0
  row : ∀ i, i < l.length → At wr g (i * 5) (l.getD i z5)
  low : 0 < l.length → g < w.heap.size
theorem Put.at {w wr : World} {g : Nat} {l : List F5} {q : F5} {v : Value} {out : List F5} (h : Put w wr g l q v out) : At wr w.heap.size 0 q :=
  ⟨h.box.cell 0 (by omega), h.box.cell 1 (by omega), h.box.cell 2 (by omega), h.box.cell 3 (by omega), h.box.cell 4 (by omega)⟩
theorem Put.step {w wr w1 : World} {g : Nat} {l : List F5} {q : F5} {v : Value} {out : List F5} (h : Put w wr g l q v out) (k : Below wr.heap.size wr w1) : Put w w1 g l q v out :=
  ⟨h.below.trans (k.mono h.below.size), h.box.below k h.box.lt, draw.owns_keep h.own fun b hb => k.block b (draw.own_lt h.own b hb), h.live, fun i hi => (h.row i hi).keep (k.block g (h.row i hi).lt), h.low⟩
theorem Put.grew {w wr w1 : World} {g : Nat} {l : List F5} {q : F5} {v : Value} {out : List F5} (h : Put w wr g l q v out) (k : five.Grew wr w1) : Put w w1 g l q v out := h.step k.below
theorem Put.drew {w wr : World} {g : Nat} {l : List F5} {q : F5} {v : Value} {out : List F5} (h : Put w wr g l q v out) : Put w wr.drew g l q v out := h.grew (five.Grew.drew wr)
theorem cz_upd (q : F5) (n : Int) : ∀ k, k < 5 → draw.cz (wn q n) k = five.upd (draw.cz q) 4 (.int .i64 n) k := fun k hk => by
  match k, hk with
  | 0, _ => rfl
  | 1, _ => rfl
  | 2, _ => rfl
  | 3, _ => rfl
  | 4, _ => rfl
theorem Put.setN {w wr : World} {g : Nat} {l : List F5} {q : F5} {v : Value} {out : List F5} (h : Put w wr g l q v out) (n : Int) : Put w (wr.setCell ⟨w.heap.size, 4, none⟩ (.int .i64 n)) g l (wn q n) v out := by
  refine ⟨h.below.setCell (p := ⟨w.heap.size, 4, none⟩) (Nat.le_refl _) _, (h.box.set (k := 4) (by omega) _).same (cz_upd q n), draw.owns_keep h.own fun b hb => Below.heap_setCell _ _ _ _ (by have := draw.own_ge h.own b hb; show b ≠ w.heap.size; omega), h.live, fun i hi => (h.row i hi).keep (Below.heap_setCell _ _ _ _ (by have := h.low (by omega); show g ≠ w.heap.size; omega)), h.low⟩
theorem Put.app {w wr w3 : World} {g : Nat} {l : List F5} {q z : F5} {v v3 : Value} {out : List F5} (h : Put w wr g l q v out) (o : Obj)
    (hown : w3.ownsRow (w.heap.size + 1) 36 5 v3 (out.length + 1) (draw.fl out ++ [.int .i64 z.1, .int .i64 z.2.1, .int .i64 z.2.2.1, .int .i64 z.2.2.2.1, .int .i64 z.2.2.2.2])) (hgrow : (wr.alloc o).grownBy w3 v.ownBlock) (hn : ¬ v3 = .slice none 0 0) : Put w w3 g l q v3 (out ++ [z]) := by
  have h1 := h.step ((five.Grew.alloc wr o).below)
  have kb : ∀ k, k < wr.heap.size → (∀ j, v.ownBlock = some j → k ≠ j) → w3.heap[k]? = (wr.alloc o).heap[k]? := fun k hk hne => hgrow.block k (by simp; omega) (fun e => hne k e.symm rfl)
  have bl : w.heap.size < wr.heap.size := h.box.lt
  have ge : ∀ j, v.ownBlock = some j → w.heap.size + 1 ≤ j := draw.own_ge h.own
  refine ⟨h1.below.grown hgrow (by simp; omega) (fun j hj => by have := ge j hj; omega), h1.box.keep (kb _ bl fun j hj => by have := ge j hj; omega) hgrow.size, ?_, hn, fun i hi => ?_, h.low⟩
  · rw [List.length_append, draw.fl_app]; exact hown
  · have lg := h.low (by omega)
    exact (h1.row i hi).keep (kb g (by omega) fun j hj => by have := ge j hj; omega)
end Go.Proofs.YtpogfdeioibkdaaGreatDoor.mp

namespace Go.Proofs.YtpogfdeioibkdaaGreatDoor.mp
open Go.ChangeShapes Go.WideShapes Go.ChangeAt Go.RowKit
open led (F5 z5 nn wn)
open five (Row At Blk)
theorem Put.x {w wr : World} {g : Nat} {l : List F5} {q x : F5} {v : Value} {out : List F5} (h : Put w wr g l q v out) {k : Nat} (hk : k < l.length) (hx : x = l.getD k z5) : At wr g (k * 5) x := by rw [hx]; exact h.row k hk
theorem news5s {W : World} {s : Nat} (hs : s = W.heap.size) (x : F5) : ∀ j u, [Value.int .i64 x.1, .int .i64 x.2.1, .int .i64 x.2.2.1, .int .i64 x.2.2.2.1, .int .i64 x.2.2.2.2][j]? = some u → (W.alloc (.cells #[.int .i64 x.1, .int .i64 x.2.1, .int .i64 x.2.2.1, .int .i64 x.2.2.2.1, .int .i64 x.2.2.2.2] 36)).cell? ((⟨s, 0, none⟩ : Addr).add j) = some u := by
  subst hs; exact draw.news5 W x
/-- A list in memory of its own. -/
def Own5 (w : World) (l : List F5) (e : Ending) (w' : World) : Prop := ∃ cap g, e = .returned (.slice (some ⟨g, 0, none⟩) l.length cap) ∧ Row w' (some ⟨g, 0, none⟩) cap g l ∧ w.heap.size ≤ g ∧ g < w'.heap.size ∧ Below w.heap.size w w' ∧ w'.ownsRow w.heap.size 36 5 (.slice (some ⟨g, 0, none⟩) l.length cap) l.length (draw.fl l)
theorem own_mono {W : World} {B B' e s n : Nat} {v : Value} {xs : List Value} (h : W.ownsRow B e s v n xs) (hb : B' ≤ B) : W.ownsRow B' e s v n xs := by
  refine ⟨h.1, ?_⟩
  rcases h.2 with hn | ⟨g, cap, cur, hv, hg, rest⟩
  · exact .inl hn
  · exact .inr ⟨g, cap, cur, hv, Nat.le_trans hb hg, rest⟩
theorem Put.own5 {w wr : World} {g : Nat} {l : List F5} {q : F5} {v : Value} {out r : List F5} (h : Put w wr g l q v out) (e : out = r) : Own5 w r (.returned v) wr := by
  subst e
  have ho := h.own
  obtain ⟨cap, g', rfl, R, g1, g2⟩ := draw.of_owns5n h.own h.live
  exact ⟨cap, g', rfl, R, by omega, g2, h.below, own_mono ho (Nat.le_succ _)⟩
set_option maxRecDepth 40000 in
set_option maxHeartbeats 8000000 in
theorem putS (w : World) (a : Option Addr) (cap g : Nat) (l : List F5) (p : F5) (r : Row w a cap g l) (ss : led.SS l) (pl : ∀ i, i < l.length → led.plok (l.getD i z5) = true) (nb : ∀ i, i < l.length → -100000000000000000 ≤ nn (l.getD i z5) ∧ nn (l.getD i z5) ≤ 100000000000000000) (pp : led.plok p = true) (pb : -100000000000000000 ≤ nn p ∧ nn p ≤ 100000000000000000) (hn : l.length ≤ 1000) :
    Calls Tryz.prog 46 #[.slice a l.length cap, .agg #[.int .i64 p.1, .int .i64 p.2.1, .int .i64 p.2.2.1, .int .i64 p.2.2.2.1, .int .i64 p.2.2.2.2]] w (Own5 w (led.put l p)) := by
  have R := Lib.hid r
  have SSh := Lib.hid ss
  have PL := Lib.hid pl
  have NB := Lib.hid nb
  have PP := Lib.hid (led.plok_in pp)
  have e1 := r.addr
  have m1 := r.room
  have p1 : -100000000000000000 ≤ p.2.2.2.2 := pb.1
  have p2 : p.2.2.2.2 ≤ 100000000000000000 := pb.2
  clear r ss pl nb pp pb
  obtain ⟨n, hnz⟩ : ∃ n, n = l.length := ⟨_, rfl⟩
  rw [← hnz] at hn e1 m1 ⊢
  have HNZ := Lib.hid hnz
  clear hnz
  have mixed : Tryz.prog.follows .mixedOrders = true := Tryz.checked.mixed
  obtain ⟨i5, hi, hz0, hz1, hz2⟩ := info_parts five.infoE
  have H0 := Lib.hid (show Put w ((w.alloc (.cells #[.int .i64 p.1, .int .i64 p.2.1, .int .i64 p.2.2.1, .int .i64 p.2.2.2.1, .int .i64 p.2.2.2.2] 36)).alloc (.cells #[] 36)) g l p (.slice (some ⟨w.heap.size + 1, 0, none⟩) 0 0) [] from by
    have gl : ∀ i, i < l.length → g < w.heap.size := fun i hi => R.out.lt (by omega)
    refine ⟨((five.Grew.alloc w _).trans (five.Grew.alloc _ _)).below, ?_, ?_, (fun h => by cases h), fun i hi => ?_, fun h => gl 0 h⟩
    · refine ⟨by simp; omega, fun k hk => ?_, fun k => ?_⟩
      · refine five.box_cell (five.box_al (five.box_refl w _) _) k ?_
        match k, hk with
        | 0, _ => rfl
        | 1, _ => rfl
        | 2, _ => rfl
        | 3, _ => rfl
        | 4, _ => rfl
      · rw [World.frozen?_alloc_old (w.alloc (.cells #[.int .i64 p.1, .int .i64 p.2.1, .int .i64 p.2.2.1, .int .i64 p.2.2.2.1, .int .i64 p.2.2.2.2] 36)) _ ⟨w.heap.size, k, none⟩ (by simp)]
        exact World.frozen?_alloc_new w _ _ k
    · have h := heap_alloc_new (w.alloc (.cells #[.int .i64 p.1, .int .i64 p.2.1, .int .i64 p.2.2.1, .int .i64 p.2.2.2.1, .int .i64 p.2.2.2.2] 36)) (.cells #[] 36)
      rw [World.size_alloc] at h
      exact ⟨rfl, .inr ⟨w.heap.size + 1, 0, #[], rfl, Nat.le_refl _, h, Nat.le_refl _, Nat.zero_le _, rfl, rfl⟩⟩
    · exact (R.out.cells i hi).keep (((five.Grew.alloc w _).trans (five.Grew.alloc _ _)).below.block g (gl i hi)))
  go_enter Tryz.func46, Tryz.ntmps46
  go_wp2
  go_loopw [5, 6, 7] (fun v vd vi wr => ∃ (k : Nat) (q : F5) (out : List F5) (dn : Bool), k ≤ n ∧ vi = .int .i64 k ∧ vd = .bool dn ∧ out.length ≤ k + 1 ∧ Hid (Put w wr g l q v out) ∧ Hid (led.PI l p k q dn out)) (fun _ _ vi _ => n - (intOf vi).toNat)
  case atStart => exact ⟨0, p, [], false, by omega, rfl, rfl, by simp, H0, Lib.hid (led.PI.start l p)⟩
  case round =>
    obtain ⟨k, q, out, dn, hk, rfl, rfl, ol, H, PI⟩ := hrel
    by_cases hlt : k < n
    · have HLT := Lib.hid (show k < l.length from by rw [← HNZ.out]; exact hlt)
      obtain rfl := e1 (by omega)
      obtain ⟨x, hx⟩ : ∃ x, x = l.getD k z5 := ⟨_, rfl⟩
      have HX := Lib.hid hx
      have xb := NB.out k HLT.out
      rw [← hx] at xb
      have xb1 : -100000000000000000 ≤ x.2.2.2.2 := xb.1
      have xb2 : x.2.2.2.2 ≤ 100000000000000000 := xb.2
      have INX := Lib.hid (show led.In x from by rw [HX.out]; exact led.plok_in (PL.out k HLT.out))
      have z1 : (k : Int) < (n : Int) := by omega
      have u1 : decide (k < n) = true := by simp; omega
      have KX := fun W => base.keyS x INX.out W
      obtain ⟨kx, hkx⟩ : ∃ kx, kx = led.K x := ⟨_, rfl⟩
      rw [← hkx] at KX
      have HKX := Lib.hid hkx
      clear hx e1 xb hkx
      cases dn with
      | true =>
        have st := led.PI.on PI.out HLT.out
        rw [← HX.out] at st
        have NX := Lib.hid st.2.2
        have INQ := Lib.hid (show led.In q from by
          obtain ⟨s1, s2, s3, s4⟩ := (PI.out.yes rfl).1
          obtain ⟨c1, c2, c3, c4⟩ := PP.out
          exact ⟨by rw [s1]; exact c1, by rw [s2]; exact c2, by rw [s3]; exact c3, by rw [s4]; exact c4⟩)
        have KQ := fun W => base.keyS q INQ.out W
        obtain ⟨kq, hkq⟩ : ∃ kq, kq = led.K q := ⟨_, rfl⟩
        have lt : kq < kx := by rw [hkq, HKX.out, st.1]; exact st.2.1
        rw [← hkq] at KQ
        have t3 : (kx != kq) = true := by simp; omega
        clear st hkq lt
        have AX := H.out.x HLT.out HX.out
        have AQ := H.out.at
        have x0 := fun n os => (AX.grown n os).c0
        have x1 := fun n os => (AX.grown n os).c1
        have x2 := fun n os => (AX.grown n os).c2
        have x3 := fun n os => (AX.grown n os).c3
        have x4 := fun n os => (AX.grown n os).c4
        have b0 := fun n os => (AQ.grown n os).c0
        have b1 := fun n os => (AQ.grown n os).c1
        have b2 := fun n os => (AQ.grown n os).c2
        have b3 := fun n os => (AQ.grown n os).c3
        have b4 := fun n os => (AQ.grown n os).c4
        simp only [Nat.zero_add] at b0 b1 b2 b3 b4
        clear AX AQ
        go_wp2_with fail
        refine wp_region_quiet_grown mixed (by kernel_rfl) ?_
        repeat (go_big_quiet_step (first | (go_at_call 30; with_reducible exact Calls.grown_of (KX _)) | (go_at_call 30; with_reducible exact Calls.grown_of (KQ _))))
        refine wpQuiet_nil ?_
        intro w1 hw'
        have H1 := Lib.hid (H.out.grew (show five.Grew wr w1 from by obtain ⟨p, h⟩ := hw'; exact ⟨p.n, p.os, h⟩))
        clear hw' x0 x1 x2 x3 x4 b0 b1 b2 b3 b4
        have AX := H1.out.x HLT.out HX.out
        have AQ := H1.out.at
        have x0 := fun n os => (AX.grown n os).c0
        have x1 := fun n os => (AX.grown n os).c1
        have x2 := fun n os => (AX.grown n os).c2
        have x3 := fun n os => (AX.grown n os).c3
        have x4 := fun n os => (AX.grown n os).c4
        have b0 := fun n os => (AQ.grown n os).c0
        have b1 := fun n os => (AQ.grown n os).c1
        have b2 := fun n os => (AQ.grown n os).c2
        have b3 := fun n os => (AQ.grown n os).c3
        have b4 := fun n os => (AQ.grown n os).c4
        simp only [Nat.zero_add] at b0 b1 b2 b3 b4
        clear AX AQ
        go_wp2_with fail
        refine wp_region_quiet_grown mixed (by kernel_rfl) ?_
        repeat (go_big_quiet_step (first | (go_at_call 30; with_reducible exact Calls.grown_of (KX _)) | (go_at_call 30; with_reducible exact Calls.grown_of (KQ _))))
        refine wpQuiet_nil ?_
        intro w2 hw'
        have H2 := Lib.hid (H1.out.grew (show five.Grew w1 w2 from by obtain ⟨p, h⟩ := hw'; exact ⟨p.n, p.os, h⟩))
        clear hw' x0 x1 x2 x3 x4 b0 b1 b2 b3 b4
        obtain ⟨y0, y1, y2, y3, y4⟩ := H2.out.x HLT.out HX.out
        have szW := H2.out.below.size
        have szB := H2.out.box.lt
        go_wp2_with (at_builtin; refine wpList_append_own_at _ rfl _ _ 24 rfl (w.heap.size + 1) 36 i5 (.agg #[.int .i64 0, .int .i64 0, .int .i64 0, .int .i64 0, .int .i64 0]) 5 40 Tryz.underlying24 hi hz0 hz1 hz2 rfl (by decide) _ _ _ rfl (H2.out.own.alloc _) ⟨w2.heap.size, 0, none⟩ 1 1 [.int .i64 x.1, .int .i64 x.2.1, .int .i64 x.2.2.1, .int .i64 x.2.2.2.1, .int .i64 x.2.2.2.2] rfl rfl (draw.news5 w2 x) (draw.one5 x) (by unfold maxLen; omega) (by omega) (by simp; omega) ?_)
        intro v3 w3 hown3 hgrow3 hnil3 _
        have H3 := Lib.hid (H2.out.app _ hown3 hgrow3 hnil3)
        clear hown3 hgrow3 hnil3 szW szB y0 y1 y2 y3 y4
        go_wp2
        go_roundw
        case rel => exact ⟨k + 1, q, out ++ [x], true, by omega, by go_num, rfl, by (try simp only [List.length_append, List.length_cons, List.length_nil]); omega, H3, Lib.hid (NX.out)⟩
        case measure => simp [intOf]; omega
      | false =>
        have qp : q = p := (PI.out.no rfl).1
        have ol0 : out.length ≤ k := by rw [(PI.out.no rfl).2.1]; simp; omega
        subst qp
        have KQ := fun W => base.keyS q PP.out W
        obtain ⟨kq, hkq⟩ : ∃ kq, kq = led.K q := ⟨_, rfl⟩
        rw [← hkq] at KQ
        have HKQ := Lib.hid hkq
        clear hkq
        rcases Int.lt_trichotomy kx kq with c | c | c
        · have NX := Lib.hid (show led.PI l q (k + 1) q false (out ++ [x]) from by have := led.PI.low PI.out HLT.out (by rw [← HX.out, ← HKX.out, ← HKQ.out]; exact c); rw [← HX.out] at this; exact this)
          have t1 : decide (kq ≤ kx) = false := by simp; omega
          have t3 : (kx != kq) = true := by simp; omega
          clear c
          have AX := H.out.x HLT.out HX.out
          have AQ := H.out.at
          have x0 := fun n os => (AX.grown n os).c0
          have x1 := fun n os => (AX.grown n os).c1
          have x2 := fun n os => (AX.grown n os).c2
          have x3 := fun n os => (AX.grown n os).c3
          have x4 := fun n os => (AX.grown n os).c4
          have b0 := fun n os => (AQ.grown n os).c0
          have b1 := fun n os => (AQ.grown n os).c1
          have b2 := fun n os => (AQ.grown n os).c2
          have b3 := fun n os => (AQ.grown n os).c3
          have b4 := fun n os => (AQ.grown n os).c4
          simp only [Nat.zero_add] at b0 b1 b2 b3 b4
          clear AX AQ
          go_wp2_with fail
          refine wp_region_quiet_grown mixed (by kernel_rfl) ?_
          repeat (go_big_quiet_step (first | (go_at_call 30; with_reducible exact Calls.grown_of (KX _)) | (go_at_call 30; with_reducible exact Calls.grown_of (KQ _))))
          refine wpQuiet_nil ?_
          intro w1 hw'
          have H1 := Lib.hid (H.out.grew (show five.Grew wr w1 from by obtain ⟨p, h⟩ := hw'; exact ⟨p.n, p.os, h⟩))
          clear hw' x0 x1 x2 x3 x4 b0 b1 b2 b3 b4
          have AX := H1.out.x HLT.out HX.out
          have AQ := H1.out.at
          have x0 := fun n os => (AX.grown n os).c0
          have x1 := fun n os => (AX.grown n os).c1
          have x2 := fun n os => (AX.grown n os).c2
          have x3 := fun n os => (AX.grown n os).c3
          have x4 := fun n os => (AX.grown n os).c4
          have b0 := fun n os => (AQ.grown n os).c0
          have b1 := fun n os => (AQ.grown n os).c1
          have b2 := fun n os => (AQ.grown n os).c2
          have b3 := fun n os => (AQ.grown n os).c3
          have b4 := fun n os => (AQ.grown n os).c4
          simp only [Nat.zero_add] at b0 b1 b2 b3 b4
          clear AX AQ
          go_wp2_with fail
          refine wp_region_quiet_grown mixed (by kernel_rfl) ?_
          repeat (go_big_quiet_step (first | (go_at_call 30; with_reducible exact Calls.grown_of (KX _)) | (go_at_call 30; with_reducible exact Calls.grown_of (KQ _))))
          refine wpQuiet_nil ?_
          intro w2 hw'
          have H2 := Lib.hid (H1.out.grew (show five.Grew w1 w2 from by obtain ⟨p, h⟩ := hw'; exact ⟨p.n, p.os, h⟩))
          clear hw' x0 x1 x2 x3 x4 b0 b1 b2 b3 b4
          obtain ⟨y0, y1, y2, y3, y4⟩ := H2.out.x HLT.out HX.out
          have szW := H2.out.below.size
          have szB := H2.out.box.lt
          go_wp2_with (at_builtin; refine wpList_append_own_at _ rfl _ _ 24 rfl (w.heap.size + 1) 36 i5 (.agg #[.int .i64 0, .int .i64 0, .int .i64 0, .int .i64 0, .int .i64 0]) 5 40 Tryz.underlying24 hi hz0 hz1 hz2 rfl (by decide) _ _ _ rfl (H2.out.own.alloc _) ⟨w2.heap.size, 0, none⟩ 1 1 [.int .i64 x.1, .int .i64 x.2.1, .int .i64 x.2.2.1, .int .i64 x.2.2.2.1, .int .i64 x.2.2.2.2] rfl rfl (draw.news5 w2 x) (draw.one5 x) (by unfold maxLen; omega) (by omega) (by simp; omega) ?_)
          intro v3 w3 hown3 hgrow3 hnil3 _
          have H3 := Lib.hid (H2.out.app _ hown3 hgrow3 hnil3)
          clear hown3 hgrow3 hnil3 szW szB y0 y1 y2 y3 y4
          go_wp2
          go_roundw
          case rel => exact ⟨k + 1, q, out ++ [x], false, by omega, by go_num, rfl, by (try simp only [List.length_append, List.length_cons, List.length_nil]); omega, H3, Lib.hid (NX.out)⟩
          case measure => simp [intOf]; omega
        · have HIT := led.PI.hit SSh.out PI.out HLT.out (by rw [← HX.out, ← HKX.out, ← HKQ.out]; exact c)
          rw [← HX.out] at HIT
          have HITh := Lib.hid HIT.2
          have t1 : decide (kq ≤ kx) = true := by simp; omega
          have t2 : (kx == kq) = true := by simp; omega
          have t3 : (kx != kq) = false := by simp; omega
          clear c HIT
          have AX := H.out.x HLT.out HX.out
          have AQ := H.out.at
          have x0 := fun n os => (AX.grown n os).c0
          have x1 := fun n os => (AX.grown n os).c1
          have x2 := fun n os => (AX.grown n os).c2
          have x3 := fun n os => (AX.grown n os).c3
          have x4 := fun n os => (AX.grown n os).c4
          have b0 := fun n os => (AQ.grown n os).c0
          have b1 := fun n os => (AQ.grown n os).c1
          have b2 := fun n os => (AQ.grown n os).c2
          have b3 := fun n os => (AQ.grown n os).c3
          have b4 := fun n os => (AQ.grown n os).c4
          simp only [Nat.zero_add] at b0 b1 b2 b3 b4
          clear AX AQ
          go_wp2_with fail
          refine wp_region_quiet_grown mixed (by kernel_rfl) ?_
          repeat (go_big_quiet_step (first | (go_at_call 30; with_reducible exact Calls.grown_of (KX _)) | (go_at_call 30; with_reducible exact Calls.grown_of (KQ _))))
          refine wpQuiet_nil ?_
          intro w1 hw'
          have H1 := Lib.hid (H.out.grew (show five.Grew wr w1 from by obtain ⟨p, h⟩ := hw'; exact ⟨p.n, p.os, h⟩))
          clear hw' x0 x1 x2 x3 x4 b0 b1 b2 b3 b4
          have AX := H1.out.x HLT.out HX.out
          have AQ := H1.out.at
          have x0 := fun n os => (AX.grown n os).c0
          have x1 := fun n os => (AX.grown n os).c1
          have x2 := fun n os => (AX.grown n os).c2
          have x3 := fun n os => (AX.grown n os).c3
          have x4 := fun n os => (AX.grown n os).c4
          have b0 := fun n os => (AQ.grown n os).c0
          have b1 := fun n os => (AQ.grown n os).c1
          have b2 := fun n os => (AQ.grown n os).c2
          have b3 := fun n os => (AQ.grown n os).c3
          have b4 := fun n os => (AQ.grown n os).c4
          simp only [Nat.zero_add] at b0 b1 b2 b3 b4
          clear AX AQ
          go_wp2_with fail
          refine wp_region_quiet_grown mixed (by kernel_rfl) ?_
          repeat (go_big_quiet_step (first | (go_at_call 30; with_reducible exact Calls.grown_of (KX _)) | (go_at_call 30; with_reducible exact Calls.grown_of (KQ _))))
          refine wpQuiet_nil ?_
          intro w2 hw'
          have H2 := Lib.hid (H1.out.grew (show five.Grew w1 w2 from by obtain ⟨p, h⟩ := hw'; exact ⟨p.n, p.os, h⟩))
          clear hw' x0 x1 x2 x3 x4 b0 b1 b2 b3 b4
          obtain ⟨y0, y1, y2, y3, y4⟩ := H2.out.x HLT.out HX.out
          obtain ⟨c0, c1, c2, c3, c4⟩ := H2.out.at
          simp only [Nat.zero_add] at c0 c1 c2 c3 c4
          have f4 := H2.out.box.free 4
          go_wp2_with fail
          go_still_tail 9, mixed
          change wpList _ _ _ _ _ w2.drew
          have H3 := Lib.hid H2.out.drew
          have d0 := H3.out.at.c0
          have d1 := H3.out.at.c1
          have d2 := H3.out.at.c2
          have d3 := H3.out.at.c3
          have d4 := H3.out.at.c4
          have f4' := H3.out.box.free 4
          simp only [Nat.zero_add] at d0 d1 d2 d3 d4
          clear y0 y1 y2 y3 y4 c0 c1 c2 c3 c4 f4
          generalize w2.drew = w4 at H3 d0 d1 d2 d3 d4 f4' ⊢
          have H4 := Lib.hid (H3.out.setN (q.2.2.2.2 + x.2.2.2.2))
          have HITm := Lib.hid (show (q.2.2.2.2 + x.2.2.2.2 = 0 → led.PI l q (k + 1) (wn q (q.2.2.2.2 + x.2.2.2.2)) true out) ∧ (q.2.2.2.2 + x.2.2.2.2 ≠ 0 → led.PI l q (k + 1) (wn q (q.2.2.2.2 + x.2.2.2.2)) true (out ++ [wn q (q.2.2.2.2 + x.2.2.2.2)])) from HITh.out)
          have KQ' := fun W => base.keyS (wn q (q.2.2.2.2 + x.2.2.2.2)) (show led.In _ from ⟨PP.out.a, PP.out.b, PP.out.c, PP.out.d⟩) W
          rw [show led.K (wn q (q.2.2.2.2 + x.2.2.2.2)) = kq from by rw [HKQ.out]; rfl] at KQ'
          clear KQ H3 HITh
          by_cases h0 : q.2.2.2.2 + x.2.2.2.2 = 0
          · have NX := Lib.hid (HITm.out.1 h0)
            have tm : (q.2.2.2.2 + x.2.2.2.2 != 0) = false := by simp [h0]
            clear h0 HITm
            go_wp2_with fail
            generalize (w4.setCell ⟨w.heap.size, 4, none⟩ (.int .i64 (q.2.2.2.2 + x.2.2.2.2))) = w5 at H4 ⊢
            generalize wn q (q.2.2.2.2 + x.2.2.2.2) = q' at H4 NX KQ'
            clear tm d0 d1 d2 d3 d4 f4'
            have AX := H4.out.x HLT.out HX.out
            have AQ := H4.out.at
            have x0 := fun n os => (AX.grown n os).c0
            have x1 := fun n os => (AX.grown n os).c1
            have x2 := fun n os => (AX.grown n os).c2
            have x3 := fun n os => (AX.grown n os).c3
            have x4 := fun n os => (AX.grown n os).c4
            have b0 := fun n os => (AQ.grown n os).c0
            have b1 := fun n os => (AQ.grown n os).c1
            have b2 := fun n os => (AQ.grown n os).c2
            have b3 := fun n os => (AQ.grown n os).c3
            have b4 := fun n os => (AQ.grown n os).c4
            simp only [Nat.zero_add] at b0 b1 b2 b3 b4
            clear AX AQ
            refine wp_region_quiet_grown mixed (by kernel_rfl) ?_
            repeat (go_big_quiet_step (first | (go_at_call 30; with_reducible exact Calls.grown_of (KX _)) | (go_at_call 30; with_reducible exact Calls.grown_of (KQ' _))))
            refine wpQuiet_nil ?_
            intro w6 hw'
            have H6 := Lib.hid (H4.out.grew (show five.Grew w5 w6 from by obtain ⟨p, h⟩ := hw'; exact ⟨p.n, p.os, h⟩))
            clear hw' x0 x1 x2 x3 x4 b0 b1 b2 b3 b4
            go_wp2
            go_roundw
            case rel => exact ⟨k + 1, q', out, true, by omega, by go_num, rfl, by (try simp only [List.length_append, List.length_cons, List.length_nil]); omega, H6, Lib.hid (NX.out)⟩
            case measure => simp [intOf]; omega
          · have NX := Lib.hid (HITm.out.2 h0)
            have tm : (q.2.2.2.2 + x.2.2.2.2 != 0) = true := by simp [h0]
            have szW := H4.out.below.size
            have szB := H4.out.box.lt
            have szE : w4.heap.size = (w4.setCell ⟨w.heap.size, 4, none⟩ (.int .i64 (q.2.2.2.2 + x.2.2.2.2))).heap.size := by simp [World.setCell]
            have SZE := Lib.hid szE
            rw [← szE] at szW szB
            clear h0 HITm szE
            go_wp2_with (at_builtin; refine wpList_append_own_at _ rfl _ _ 24 rfl (w.heap.size + 1) 36 i5 (.agg #[.int .i64 0, .int .i64 0, .int .i64 0, .int .i64 0, .int .i64 0]) 5 40 Tryz.underlying24 hi hz0 hz1 hz2 rfl (by decide) _ _ _ rfl (H4.out.own.alloc _) ⟨w4.heap.size, 0, none⟩ 1 1 [.int .i64 q.1, .int .i64 q.2.1, .int .i64 q.2.2.1, .int .i64 q.2.2.2.1, .int .i64 (q.2.2.2.2 + x.2.2.2.2)] rfl rfl (news5s SZE.out (wn q (q.2.2.2.2 + x.2.2.2.2))) (draw.one5 (wn q (q.2.2.2.2 + x.2.2.2.2))) (by unfold maxLen; omega) (by omega) (by rw [World.size_alloc, ← SZE.out]; omega) ?_)
            intro v5 w5 hown3 hgrow3 hnil3 _
            have H5 := Lib.hid (H4.out.app (z := wn q (q.2.2.2.2 + x.2.2.2.2)) _ hown3 hgrow3 hnil3)
            generalize wn q (q.2.2.2.2 + x.2.2.2.2) = q' at H5 NX KQ'
            clear hown3 hgrow3 hnil3 szW szB tm d0 d1 d2 d3 d4 f4' SZE H4
            have AX := H5.out.x HLT.out HX.out
            have AQ := H5.out.at
            have x0 := fun n os => (AX.grown n os).c0
            have x1 := fun n os => (AX.grown n os).c1
            have x2 := fun n os => (AX.grown n os).c2
            have x3 := fun n os => (AX.grown n os).c3
            have x4 := fun n os => (AX.grown n os).c4
            have b0 := fun n os => (AQ.grown n os).c0
            have b1 := fun n os => (AQ.grown n os).c1
            have b2 := fun n os => (AQ.grown n os).c2
            have b3 := fun n os => (AQ.grown n os).c3
            have b4 := fun n os => (AQ.grown n os).c4
            simp only [Nat.zero_add] at b0 b1 b2 b3 b4
            clear AX AQ
            go_wp2_with fail
            refine wp_region_quiet_grown mixed (by kernel_rfl) ?_
            repeat (go_big_quiet_step (first | (go_at_call 30; with_reducible exact Calls.grown_of (KX _)) | (go_at_call 30; with_reducible exact Calls.grown_of (KQ' _))))
            refine wpQuiet_nil ?_
            intro w6 hw'
            have H6 := Lib.hid (H5.out.grew (show five.Grew w5 w6 from by obtain ⟨p, h⟩ := hw'; exact ⟨p.n, p.os, h⟩))
            clear hw' x0 x1 x2 x3 x4 b0 b1 b2 b3 b4
            go_wp2
            go_roundw
            case rel => exact ⟨k + 1, q', out ++ [q'], true, by omega, by go_num, rfl, by (try simp only [List.length_append, List.length_cons, List.length_nil]); omega, H6, Lib.hid (NX.out)⟩
            case measure => simp [intOf]; omega
        · have PAST := led.PI.past SSh.out PI.out HLT.out (by rw [← HX.out, ← HKX.out, ← HKQ.out]; exact c)
          rw [← HX.out] at PAST
          have PASTh := Lib.hid (show (q.2.2.2.2 = 0 → led.PI l q (k + 1) q true (out ++ [x])) ∧ (q.2.2.2.2 ≠ 0 → led.PI l q (k + 1) q true ((out ++ [q]) ++ [x])) from PAST.2)
          have t1 : decide (kq ≤ kx) = true := by simp; omega
          have t2 : (kx == kq) = false := by simp; omega
          have t3 : (kx != kq) = true := by simp; omega
          clear c PAST
          have AX := H.out.x HLT.out HX.out
          have AQ := H.out.at
          have x0 := fun n os => (AX.grown n os).c0
          have x1 := fun n os => (AX.grown n os).c1
          have x2 := fun n os => (AX.grown n os).c2
          have x3 := fun n os => (AX.grown n os).c3
          have x4 := fun n os => (AX.grown n os).c4
          have b0 := fun n os => (AQ.grown n os).c0
          have b1 := fun n os => (AQ.grown n os).c1
          have b2 := fun n os => (AQ.grown n os).c2
          have b3 := fun n os => (AQ.grown n os).c3
          have b4 := fun n os => (AQ.grown n os).c4
          simp only [Nat.zero_add] at b0 b1 b2 b3 b4
          clear AX AQ
          go_wp2_with fail
          refine wp_region_quiet_grown mixed (by kernel_rfl) ?_
          repeat (go_big_quiet_step (first | (go_at_call 30; with_reducible exact Calls.grown_of (KX _)) | (go_at_call 30; with_reducible exact Calls.grown_of (KQ _))))
          refine wpQuiet_nil ?_
          intro w1 hw'
          have H1 := Lib.hid (H.out.grew (show five.Grew wr w1 from by obtain ⟨p, h⟩ := hw'; exact ⟨p.n, p.os, h⟩))
          clear hw' x0 x1 x2 x3 x4 b0 b1 b2 b3 b4
          have AX := H1.out.x HLT.out HX.out
          have AQ := H1.out.at
          have x0 := fun n os => (AX.grown n os).c0
          have x1 := fun n os => (AX.grown n os).c1
          have x2 := fun n os => (AX.grown n os).c2
          have x3 := fun n os => (AX.grown n os).c3
          have x4 := fun n os => (AX.grown n os).c4
          have b0 := fun n os => (AQ.grown n os).c0
          have b1 := fun n os => (AQ.grown n os).c1
          have b2 := fun n os => (AQ.grown n os).c2
          have b3 := fun n os => (AQ.grown n os).c3
          have b4 := fun n os => (AQ.grown n os).c4
          simp only [Nat.zero_add] at b0 b1 b2 b3 b4
          clear AX AQ
          go_wp2_with fail
          refine wp_region_quiet_grown mixed (by kernel_rfl) ?_
          repeat (go_big_quiet_step (first | (go_at_call 30; with_reducible exact Calls.grown_of (KX _)) | (go_at_call 30; with_reducible exact Calls.grown_of (KQ _))))
          refine wpQuiet_nil ?_
          intro w2 hw'
          have H2 := Lib.hid (H1.out.grew (show five.Grew w1 w2 from by obtain ⟨p, h⟩ := hw'; exact ⟨p.n, p.os, h⟩))
          clear hw' x0 x1 x2 x3 x4 b0 b1 b2 b3 b4
          by_cases h0 : q.2.2.2.2 = 0
          · have NX := Lib.hid (PASTh.out.1 h0)
            have tm : (q.2.2.2.2 != 0) = false := by simp [h0]
            clear h0 PASTh
            have d4 := H2.out.at.c4
            simp only [Nat.zero_add] at d4
            have AX := H2.out.x HLT.out HX.out
            have AQ := H2.out.at
            have x0 := fun n os => (AX.grown n os).c0
            have x1 := fun n os => (AX.grown n os).c1
            have x2 := fun n os => (AX.grown n os).c2
            have x3 := fun n os => (AX.grown n os).c3
            have x4 := fun n os => (AX.grown n os).c4
            have b0 := fun n os => (AQ.grown n os).c0
            have b1 := fun n os => (AQ.grown n os).c1
            have b2 := fun n os => (AQ.grown n os).c2
            have b3 := fun n os => (AQ.grown n os).c3
            have b4 := fun n os => (AQ.grown n os).c4
            simp only [Nat.zero_add] at b0 b1 b2 b3 b4
            clear AX AQ
            go_wp2_with fail
            refine wp_region_quiet_grown mixed (by kernel_rfl) ?_
            repeat (go_big_quiet_step (first | (go_at_call 30; with_reducible exact Calls.grown_of (KX _)) | (go_at_call 30; with_reducible exact Calls.grown_of (KQ _))))
            refine wpQuiet_nil ?_
            intro w3 hw'
            have H3 := Lib.hid (H2.out.grew (show five.Grew w2 w3 from by obtain ⟨p, h⟩ := hw'; exact ⟨p.n, p.os, h⟩))
            clear hw' x0 x1 x2 x3 x4 b0 b1 b2 b3 b4
            clear d4 tm
            obtain ⟨y0, y1, y2, y3, y4⟩ := H3.out.x HLT.out HX.out
            have szW := H3.out.below.size
            have szB := H3.out.box.lt
            go_wp2_with (at_builtin; refine wpList_append_own_at _ rfl _ _ 24 rfl (w.heap.size + 1) 36 i5 (.agg #[.int .i64 0, .int .i64 0, .int .i64 0, .int .i64 0, .int .i64 0]) 5 40 Tryz.underlying24 hi hz0 hz1 hz2 rfl (by decide) _ _ _ rfl (H3.out.own.alloc _) ⟨w3.heap.size, 0, none⟩ 1 1 [.int .i64 x.1, .int .i64 x.2.1, .int .i64 x.2.2.1, .int .i64 x.2.2.2.1, .int .i64 x.2.2.2.2] rfl rfl (draw.news5 w3 x) (draw.one5 x) (by unfold maxLen; omega) (by omega) (by simp; omega) ?_)
            intro v4 w4 hown3 hgrow3 hnil3 _
            have H4 := Lib.hid (H3.out.app _ hown3 hgrow3 hnil3)
            clear hown3 hgrow3 hnil3 szW szB y0 y1 y2 y3 y4
            go_wp2
            go_roundw
            case rel => exact ⟨k + 1, q, out ++ [x], true, by omega, by go_num, rfl, by (try simp only [List.length_append, List.length_cons, List.length_nil]); omega, H4, Lib.hid (NX.out)⟩
            case measure => simp [intOf]; omega
          · have NX := Lib.hid (PASTh.out.2 h0)
            have tm : (q.2.2.2.2 != 0) = true := by simp [h0]
            clear h0 PASTh
            obtain ⟨y0, y1, y2, y3, y4⟩ := H2.out.at
            simp only [Nat.zero_add] at y0 y1 y2 y3 y4
            have szW := H2.out.below.size
            have szB := H2.out.box.lt
            go_wp2_with (at_builtin; refine wpList_append_own_at _ rfl _ _ 24 rfl (w.heap.size + 1) 36 i5 (.agg #[.int .i64 0, .int .i64 0, .int .i64 0, .int .i64 0, .int .i64 0]) 5 40 Tryz.underlying24 hi hz0 hz1 hz2 rfl (by decide) _ _ _ rfl (H2.out.own.alloc _) ⟨w2.heap.size, 0, none⟩ 1 1 [.int .i64 q.1, .int .i64 q.2.1, .int .i64 q.2.2.1, .int .i64 q.2.2.2.1, .int .i64 q.2.2.2.2] rfl rfl (draw.news5 w2 q) (draw.one5 q) (by unfold maxLen; omega) (by omega) (by simp; omega) ?_)
            intro v3 w3 hown3 hgrow3 hnil3 _
            have H3 := Lib.hid (H2.out.app _ hown3 hgrow3 hnil3)
            clear hown3 hgrow3 hnil3 szW szB y0 y1 y2 y3 y4
            have ol2 : (out ++ [q]).length ≤ k + 1 := by rw [List.length_append]; simp; omega
            obtain ⟨out2, ho2⟩ : ∃ out2, out2 = out ++ [q] := ⟨_, rfl⟩
            rw [← ho2] at H3 NX ol2
            have HO2 := Lib.hid ho2
            clear ho2 tm
            have AX := H3.out.x HLT.out HX.out
            have AQ := H3.out.at
            have x0 := fun n os => (AX.grown n os).c0
            have x1 := fun n os => (AX.grown n os).c1
            have x2 := fun n os => (AX.grown n os).c2
            have x3 := fun n os => (AX.grown n os).c3
            have x4 := fun n os => (AX.grown n os).c4
            have b0 := fun n os => (AQ.grown n os).c0
            have b1 := fun n os => (AQ.grown n os).c1
            have b2 := fun n os => (AQ.grown n os).c2
            have b3 := fun n os => (AQ.grown n os).c3
            have b4 := fun n os => (AQ.grown n os).c4
            simp only [Nat.zero_add] at b0 b1 b2 b3 b4
            clear AX AQ
            go_wp2_with fail
            refine wp_region_quiet_grown mixed (by kernel_rfl) ?_
            repeat (go_big_quiet_step (first | (go_at_call 30; with_reducible exact Calls.grown_of (KX _)) | (go_at_call 30; with_reducible exact Calls.grown_of (KQ _))))
            refine wpQuiet_nil ?_
            intro w4 hw'
            have H4 := Lib.hid (H3.out.grew (show five.Grew w3 w4 from by obtain ⟨p, h⟩ := hw'; exact ⟨p.n, p.os, h⟩))
            clear hw' x0 x1 x2 x3 x4 b0 b1 b2 b3 b4
            obtain ⟨y0, y1, y2, y3, y4⟩ := H4.out.x HLT.out HX.out
            have szW := H4.out.below.size
            have szB := H4.out.box.lt
            go_wp2_with (at_builtin; refine wpList_append_own_at _ rfl _ _ 24 rfl (w.heap.size + 1) 36 i5 (.agg #[.int .i64 0, .int .i64 0, .int .i64 0, .int .i64 0, .int .i64 0]) 5 40 Tryz.underlying24 hi hz0 hz1 hz2 rfl (by decide) _ _ _ rfl (H4.out.own.alloc _) ⟨w4.heap.size, 0, none⟩ 1 1 [.int .i64 x.1, .int .i64 x.2.1, .int .i64 x.2.2.1, .int .i64 x.2.2.2.1, .int .i64 x.2.2.2.2] rfl rfl (draw.news5 w4 x) (draw.one5 x) (by unfold maxLen; omega) (by omega) (by simp; omega) ?_)
            intro v5 w5 hown3 hgrow3 hnil3 _
            have H5 := Lib.hid (H4.out.app _ hown3 hgrow3 hnil3)
            clear hown3 hgrow3 hnil3 szW szB y0 y1 y2 y3 y4
            go_wp2
            go_roundw
            case rel => exact ⟨k + 1, q, out2 ++ [x], true, by omega, by go_num, rfl, by (try simp only [List.length_append, List.length_cons, List.length_nil]); omega, H5, Lib.hid (NX.out)⟩
            case measure => simp [intOf]; omega
    · obtain rfl : k = n := by omega
      have u1 : decide (k < k) = false := by simp
      rw [HNZ.out] at PI
      clear e1
      cases dn with
      | true =>
        have E := Lib.hid (led.PI.endT PI.out)
        go_wp2
        go_ret
        exact H.out.own5 E.out
      | false =>
        have E := Lib.hid (led.PI.endF PI.out)
        have qp := E.out.1
        subst qp
        have E2 := Lib.hid (show (q.2.2.2.2 = 0 → out = led.put l q) ∧ (q.2.2.2.2 ≠ 0 → out ++ [q] = led.put l q) from E.out.2)
        by_cases h0 : q.2.2.2.2 = 0
        · have F := Lib.hid (E2.out.1 h0)
          have tm : (q.2.2.2.2 != 0) = false := by simp [h0]
          have d4 := H.out.at.c4
          simp only [Nat.zero_add] at d4
          clear h0 E2 E
          go_wp2
          go_ret
          exact H.out.own5 F.out
        · have F := Lib.hid (E2.out.2 h0)
          have tm : (q.2.2.2.2 != 0) = true := by simp [h0]
          clear h0 E2 E
          obtain ⟨y0, y1, y2, y3, y4⟩ := H.out.at
          simp only [Nat.zero_add] at y0 y1 y2 y3 y4
          have szW := H.out.below.size
          have szB := H.out.box.lt
          go_wp2_with (at_builtin; refine wpList_append_own_at _ rfl _ _ 24 rfl (w.heap.size + 1) 36 i5 (.agg #[.int .i64 0, .int .i64 0, .int .i64 0, .int .i64 0, .int .i64 0]) 5 40 Tryz.underlying24 hi hz0 hz1 hz2 rfl (by decide) _ _ _ rfl (H.out.own.alloc _) ⟨wr.heap.size, 0, none⟩ 1 1 [.int .i64 q.1, .int .i64 q.2.1, .int .i64 q.2.2.1, .int .i64 q.2.2.2.1, .int .i64 q.2.2.2.2] rfl rfl (draw.news5 wr q) (draw.one5 q) (by unfold maxLen; omega) (by omega) (by simp; omega) ?_)
          intro v3 w3 hown3 hgrow3 hnil3 _
          have H3 := Lib.hid (H.out.app _ hown3 hgrow3 hnil3)
          clear hown3 hgrow3 hnil3 szW szB y0 y1 y2 y3 y4
          go_wp2
          go_ret
          exact H3.out.own5 F.out
end Go.Proofs.YtpogfdeioibkdaaGreatDoor.mp
