/-
  Plain helpers of this seat's proofs: the contract of the model's RateAdded. Conditions: none.
-/
import Derived.Test.YtnkdjnfbllkgiabAddI
import Derived.Test.YtnkdjnfbllkgiabRsS
import Derived.Deep.RegionLaw
namespace Go.Proofs.Ytnkdjnfbllkgiab.base
open Go.ChangeShapes Go.WideShapes Go.ChangeAt Go.RowKit
open led (F5 z5)
open five (Row At Blk)
theorem step_own {P : Program} {ops : Array Oper} {o : Oper} {a : Act} {w : World} {K : Act → World → Prop} {Q : Exit → Act → World → Prop} {E : Prop} (hgd : o.guard = none) (s x : Operand) (t : TypeId)
    (ho : o.op = .call { callee := .builtin .append, args := #[s, x], argTypes := #[t, t] })
    (B : Nat) (e : TypeId) (i : TypeInfo) (z : Value) (size bytes : Nat) (ht : P.underlying t = some (.slice e)) (hi : P.info? e = some i) (hz : i.zero = some z)
    (hsize : i.size = size) (hby : i.bytes = bytes) (hzs : z.cells.size = size) (hsz : 0 < size)
    (v : Value) (n : Nat) (xs : List Value) (hs : a.eval s = v) (hown : w.ownsRow B e size v n xs)
    (ad : Addr) (m c : Nat) (news : List Value) (hx : a.eval x = .slice (some ad) m c) (hl : news.length = m * size) (hnews : ∀ j u, news[j]? = some u → w.cell? (ad.add j) = some u) (h1 : ∀ u ∈ news, u.oneCell' = true)
    (h63 : n + m ≤ maxLen) (hbytes : (n + m) * bytes ≤ 140737488355328) (hbase : B ≤ w.heap.size)
    (h : ∀ v' w', w'.ownsRow B e size v' (n + m) (xs ++ news) → w.grownBy w' v.ownBlock → (v' = .slice none 0 0 ↔ v = .slice none 0 0 ∧ m = 0) → K (a.put o.dst v') w') :
    if Region.wanted o (yielded ops a.tmps) = true then Oper.wp P o a w K Q else E := by
  have hw : Region.wanted o (yielded ops a.tmps) = true := by simp [Region.wanted, hgd]
  rw [if_pos hw]
  obtain ⟨v', w', hr, h2, h3, h4, _⟩ := run_append_own_at (P := P) w B t o.type e i z size bytes ht hi hz hsize hby hzs hsz v n xs hown ad m c news hl hnews h1 h63 hbytes hbase
  unfold Oper.wp execOp
  simp only [ho, resolve, invoke, builtin, Sem.run_bind, Sem.run_pure, Result.andThen_ok, List.map_toArray, List.map_cons, List.map_nil, hs, hx, hr]
  exact h v' w' h2 h3 h4
theorem own0 {W : World} {B g : Nat} (hh : W.heap[g]? = some (.cells #[] 25 (0, 0))) (hg : B ≤ g) : W.ownsRow B 25 5 (.slice (some ⟨g, 0, none⟩) 0 0) 0 (draw.fl []) :=
  ⟨rfl, .inr ⟨g, 0, #[], rfl, hg, hh, Nat.le_refl _, Nat.zero_le _, rfl, rfl⟩⟩
theorem newsOld (x : F5) {W : World} {g : Nat} (hh : W.heap[g]? = some (.cells #[.int .i64 x.1, .int .i64 x.2.1, .int .i64 x.2.2.1, .int .i64 x.2.2.2.1, .int .i64 x.2.2.2.2] 25 (0, 0))) :
    ∀ j u, (draw.fl [x])[j]? = some u → W.cell? ((⟨g, 0, none⟩ : Addr).add j) = some u := by
  refine draw.fl_news fun i hi => ?_
  obtain rfl : i = 0 := by simp at hi; omega
  have c : ∀ k v, #[Value.int .i64 x.1, .int .i64 x.2.1, .int .i64 x.2.2.1, .int .i64 x.2.2.2.1, .int .i64 x.2.2.2.2][k]? = some v → W.cell? ⟨g, k, none⟩ = some v := fun k v hv => by
    unfold World.cell?
    simp [hh, hv]
  exact ⟨c 0 _ rfl, c 1 _ rfl, c 2 _ rfl, c 3 _ rfl, c 4 _ rfl⟩
theorem newsL {w W : World} {g : Nat} {l : List F5} (hc : ∀ i, i < l.length → At w g (i * 5) (l.getD i z5)) (e : W.heap[g]? = w.heap[g]?) : ∀ j u, (draw.fl l)[j]? = some u → W.cell? ((⟨g, 0, none⟩ : Addr).add j) = some u :=
  draw.fl_news fun i hi => (hc i hi).keep e
theorem ne21 (w : World) : some (w.heap.size + 1 + 1) ≠ Value.ownBlock (.slice (some ⟨w.heap.size + 1, 0, none⟩) 0 0) := fun h => by
  have h' : some (w.heap.size + 1 + 1) = some (w.heap.size + 1) := h
  injection h' with h'; omega
theorem ne12 (w : World) : some (w.heap.size + 1) ≠ Value.ownBlock (.slice (some ⟨w.heap.size + 1 + 1, 0, none⟩) 0 0) := fun h => by
  have h' : some (w.heap.size + 1) = some (w.heap.size + 1 + 1) := h
  injection h' with h'; omega
set_option maxRecDepth 40000 in
set_option maxHeartbeats 1000000 in
theorem addS (w : World) (gl cl : Nat) (l : List F5) (x : F5) (hn : l.length ≤ 1048576) (lg : gl < w.heap.size) (hl : Row w (some ⟨gl, 0, none⟩) cl gl l) : Calls Try.prog 22 #[.slice (some ⟨gl, 0, none⟩) l.length cl, .agg #[.int .i64 x.1, .int .i64 x.2.1, .int .i64 x.2.2.1, .int .i64 x.2.2.2.1, .int .i64 x.2.2.2.2]] w (Added w l x) := by
  have HL := Lib.hid hl
  obtain ⟨W1, hW1⟩ : ∃ W1, W1 = w.alloc (.cells #[.int .i64 x.1, .int .i64 x.2.1, .int .i64 x.2.2.1, .int .i64 x.2.2.2.1, .int .i64 x.2.2.2.2] 25) := ⟨_, rfl⟩
  have GW := Lib.hid (show Below w.heap.size w W1 from by rw [hW1]; exact (five.Grew.alloc _ _).below)
  have sz : W1.heap.size = w.heap.size + 1 := by rw [hW1]; simp
  have AX : At W1 w.heap.size 0 x := by rw [hW1]; exact five.At.boxed w x _
  have lg1 : gl < W1.heap.size := by omega
  have RL := Lib.hid (show ∀ i, i < l.length → At W1 gl (i * 5) (l.getD i z5) from fun i hi => (hl.cells i hi).keep (GW.out.block gl lg))
  obtain ⟨x0, x1, x2, x3, x4⟩ := AX
  simp only [Nat.zero_add] at x0 x1 x2 x3 x4
  obtain ⟨i5, hi2, hz20, hz21, hz22⟩ := info_parts five.infoE
  have ll : l.length ≤ 1048576 := hn
  clear hl
  have O1 := Lib.hid (show World.ownsRow (World.drew (W1.alloc (.cells #[] 25))) (w.heap.size + 1) 25 5 (.slice (some ⟨w.heap.size + 1, 0, none⟩) 0 0) 0 (draw.fl []) from own0 (by rw [← sz]; exact heap_alloc_new W1 _) (Nat.le_refl _))
  have O2 := Lib.hid (show World.ownsRow (World.drew ((W1.alloc (.cells #[] 25)).alloc (.cells #[.int .i64 x.1, .int .i64 x.2.1, .int .i64 x.2.2.1, .int .i64 x.2.2.2.1, .int .i64 x.2.2.2.2] 25))) (w.heap.size + 1) 25 5 (.slice (some ⟨w.heap.size + 1, 0, none⟩) 0 0) 0 (draw.fl []) from own0 (by rw [← sz]; exact (Below.heap_alloc (W1.alloc (.cells #[] 25)) (.cells #[.int .i64 x.1, .int .i64 x.2.1, .int .i64 x.2.2.1, .int .i64 x.2.2.2.1, .int .i64 x.2.2.2.2] 25) W1.heap.size (by simp)).trans (heap_alloc_new W1 _)) (Nat.le_refl _))
  have O3 := Lib.hid (show World.ownsRow (World.drew ((W1.alloc (.cells #[.int .i64 x.1, .int .i64 x.2.1, .int .i64 x.2.2.1, .int .i64 x.2.2.2.1, .int .i64 x.2.2.2.2] 25)).alloc (.cells #[] 25))) (w.heap.size + 1) 25 5 (.slice (some ⟨w.heap.size + 1 + 1, 0, none⟩) 0 0) 0 (draw.fl []) from own0 (by have h := heap_alloc_new (W1.alloc (.cells #[.int .i64 x.1, .int .i64 x.2.1, .int .i64 x.2.2.1, .int .i64 x.2.2.2.1, .int .i64 x.2.2.2.2] 25)) (.cells #[] 25); rw [World.size_alloc, sz] at h; exact h) (by omega))
  have N1 := Lib.hid (newsL (W := (World.drew (W1.alloc (.cells #[] 25)))) RL.out (Below.heap_alloc W1 _ gl lg1))
  have N2 := Lib.hid (newsL (W := (World.drew ((W1.alloc (.cells #[] 25)).alloc (.cells #[.int .i64 x.1, .int .i64 x.2.1, .int .i64 x.2.2.1, .int .i64 x.2.2.2.1, .int .i64 x.2.2.2.2] 25)))) RL.out ((Below.heap_alloc (W1.alloc (.cells #[] 25)) _ gl (by simp; omega)).trans (Below.heap_alloc W1 _ gl lg1)))
  have N3 := Lib.hid (newsL (W := (World.drew ((W1.alloc (.cells #[.int .i64 x.1, .int .i64 x.2.1, .int .i64 x.2.2.1, .int .i64 x.2.2.2.1, .int .i64 x.2.2.2.2] 25)).alloc (.cells #[] 25)))) RL.out ((Below.heap_alloc (W1.alloc (.cells #[.int .i64 x.1, .int .i64 x.2.1, .int .i64 x.2.2.1, .int .i64 x.2.2.2.1, .int .i64 x.2.2.2.2] 25)) _ gl (by simp; omega)).trans (Below.heap_alloc W1 _ gl lg1)))
  have P63 := Lib.hid (show 0 + l.length ≤ maxLen from by unfold maxLen; omega)
  have PB := Lib.hid (show (0 + l.length) * 40 ≤ 140737488355328 from by omega)
  have Q63 := Lib.hid (show 0 + l.length + 1 ≤ maxLen from by unfold maxLen; omega)
  have QB := Lib.hid (show (0 + l.length + 1) * 40 ≤ 140737488355328 from by omega)
  have S1 := Lib.hid (show w.heap.size + 1 ≤ (World.drew (W1.alloc (.cells #[] 25))).heap.size from by show _ ≤ (W1.alloc _).heap.size; simp; omega)
  have S2 := Lib.hid (show w.heap.size + 1 ≤ (World.drew ((W1.alloc (.cells #[] 25)).alloc (.cells #[.int .i64 x.1, .int .i64 x.2.1, .int .i64 x.2.2.1, .int .i64 x.2.2.2.1, .int .i64 x.2.2.2.2] 25))).heap.size from by show _ ≤ ((W1.alloc _).alloc _).heap.size; simp; omega)
  have S3 := Lib.hid (show w.heap.size + 1 ≤ (World.drew ((W1.alloc (.cells #[.int .i64 x.1, .int .i64 x.2.1, .int .i64 x.2.2.1, .int .i64 x.2.2.2.1, .int .i64 x.2.2.2.2] 25)).alloc (.cells #[] 25))).heap.size from by show _ ≤ ((W1.alloc _).alloc _).heap.size; simp; omega)
  have BW1 := Lib.hid (show Below (w.heap.size + 1) W1 (World.drew (W1.alloc (.cells #[] 25))) from ((Below.refl _ W1).alloc (by omega) _).drew)
  have BW2 := Lib.hid (show Below (w.heap.size + 1) W1 (World.drew ((W1.alloc (.cells #[] 25)).alloc (.cells #[.int .i64 x.1, .int .i64 x.2.1, .int .i64 x.2.2.1, .int .i64 x.2.2.2.1, .int .i64 x.2.2.2.2] 25))) from (((Below.refl _ W1).alloc (by omega) _).alloc (by simp; omega) _).drew)
  have BW3 := Lib.hid (show Below (w.heap.size + 1) W1 (World.drew ((W1.alloc (.cells #[.int .i64 x.1, .int .i64 x.2.1, .int .i64 x.2.2.1, .int .i64 x.2.2.2.1, .int .i64 x.2.2.2.2] 25)).alloc (.cells #[] 25))) from (((Below.refl _ W1).alloc (by omega) _).alloc (by simp; omega) _).drew)
  have H2 := Lib.hid (show (World.drew ((W1.alloc (.cells #[] 25)).alloc (.cells #[.int .i64 x.1, .int .i64 x.2.1, .int .i64 x.2.2.1, .int .i64 x.2.2.2.1, .int .i64 x.2.2.2.2] 25))).heap[w.heap.size + 1 + 1]? = some (.cells #[.int .i64 x.1, .int .i64 x.2.1, .int .i64 x.2.2.1, .int .i64 x.2.2.2.1, .int .i64 x.2.2.2.2] 25 (0, 0)) from by have h := heap_alloc_new (W1.alloc (.cells #[] 25)) (.cells #[.int .i64 x.1, .int .i64 x.2.1, .int .i64 x.2.2.1, .int .i64 x.2.2.2.1, .int .i64 x.2.2.2.2] 25); rw [World.size_alloc, sz] at h; exact h)
  have H3 := Lib.hid (show (World.drew ((W1.alloc (.cells #[.int .i64 x.1, .int .i64 x.2.1, .int .i64 x.2.2.1, .int .i64 x.2.2.2.1, .int .i64 x.2.2.2.2] 25)).alloc (.cells #[] 25))).heap[w.heap.size + 1]? = some (.cells #[.int .i64 x.1, .int .i64 x.2.1, .int .i64 x.2.2.1, .int .i64 x.2.2.2.1, .int .i64 x.2.2.2.2] 25 (0, 0)) from by rw [← sz]; exact (Below.heap_alloc (W1.alloc (.cells #[.int .i64 x.1, .int .i64 x.2.1, .int .i64 x.2.2.1, .int .i64 x.2.2.2.1, .int .i64 x.2.2.2.2] 25)) _ W1.heap.size (by simp)).trans (heap_alloc_new W1 _))
  clear RL
  go_enter Try.func22, Try.ntmps22
  go_wp2_with fail
  rw [← hW1]
  clear hW1 lg1
  go_region_law (first
    | (refine step_own rfl (.tmp 7) (.tmp 8) 31 rfl (w.heap.size + 1) 25 i5 (.agg #[.int .i64 0, .int .i64 0, .int .i64 0, .int .i64 0, .int .i64 0]) 5 40 Try.underlying31 hi2 hz20 hz21 hz22 rfl (by decide) (.slice (some ⟨w.heap.size + 1, 0, none⟩) 0 0) 0 (draw.fl []) rfl O1.out ⟨gl, 0, none⟩ l.length cl (draw.fl l) rfl (draw.fl_len l) N1.out (draw.fl_one l) P63.out PB.out S1.out ?_; intro v3 w3 hown3 hgrow3 hnil3; have B3 := (BW1.out.grown hgrow3 S1.out (draw.own_ge O1.out)); have y0 := (B3.cell (p := ⟨w.heap.size, 0, none⟩) (Nat.lt_succ_self _)).trans x0; have y1 := (B3.cell (p := ⟨w.heap.size, 1, none⟩) (Nat.lt_succ_self _)).trans x1; have y2 := (B3.cell (p := ⟨w.heap.size, 2, none⟩) (Nat.lt_succ_self _)).trans x2; have y3 := (B3.cell (p := ⟨w.heap.size, 3, none⟩) (Nat.lt_succ_self _)).trans x3; have y4 := (B3.cell (p := ⟨w.heap.size, 4, none⟩) (Nat.lt_succ_self _)).trans x4; have OW := Lib.hid (hown3.alloc (.cells #[.int .i64 x.1, .int .i64 x.2.1, .int .i64 x.2.2.1, .int .i64 x.2.2.2.1, .int .i64 x.2.2.2.2] 25)); have NW := Lib.hid (newsOld x (heap_alloc_new w3 (.cells #[.int .i64 x.1, .int .i64 x.2.1, .int .i64 x.2.2.1, .int .i64 x.2.2.2.1, .int .i64 x.2.2.2.2] 25))); have NL := Lib.hid hnil3; have SW := Lib.hid (show w.heap.size + 1 ≤ (w3.alloc (.cells #[.int .i64 x.1, .int .i64 x.2.1, .int .i64 x.2.2.1, .int .i64 x.2.2.2.1, .int .i64 x.2.2.2.2] 25)).heap.size from by have := hgrow3.size; have := S1.out; simp; omega); have BB := Lib.hid ((BW1.out.grown hgrow3 S1.out (draw.own_ge O1.out)).alloc (Nat.le_trans S1.out hgrow3.size) (.cells #[.int .i64 x.1, .int .i64 x.2.1, .int .i64 x.2.2.1, .int .i64 x.2.2.2.1, .int .i64 x.2.2.2.2] 25)); clear hown3 hgrow3 hnil3 B3)
    | (refine step_own rfl (.tmp 7) (.tmp 8) 31 rfl (w.heap.size + 1) 25 i5 (.agg #[.int .i64 0, .int .i64 0, .int .i64 0, .int .i64 0, .int .i64 0]) 5 40 Try.underlying31 hi2 hz20 hz21 hz22 rfl (by decide) (.slice (some ⟨w.heap.size + 1, 0, none⟩) 0 0) 0 (draw.fl []) rfl O2.out ⟨gl, 0, none⟩ l.length cl (draw.fl l) rfl (draw.fl_len l) N2.out (draw.fl_one l) P63.out PB.out S2.out ?_; intro v3 w3 hown3 hgrow3 hnil3; have OW := Lib.hid hown3; have NW := Lib.hid (newsOld x ((hgrow3.block (w.heap.size + 1 + 1) (by show _ < ((W1.alloc _).alloc _).heap.size; simp; omega) (ne21 w)).trans H2.out)); have NL := Lib.hid hnil3; have SW := Lib.hid (Nat.le_trans S2.out hgrow3.size); have BB := Lib.hid (BW2.out.grown hgrow3 S2.out (draw.own_ge O2.out)); clear hown3 hgrow3 hnil3)
    | (refine step_own rfl (.tmp 7) (.tmp 8) 31 rfl (w.heap.size + 1) 25 i5 (.agg #[.int .i64 0, .int .i64 0, .int .i64 0, .int .i64 0, .int .i64 0]) 5 40 Try.underlying31 hi2 hz20 hz21 hz22 rfl (by decide) (.slice (some ⟨w.heap.size + 1 + 1, 0, none⟩) 0 0) 0 (draw.fl []) rfl O3.out ⟨gl, 0, none⟩ l.length cl (draw.fl l) rfl (draw.fl_len l) N3.out (draw.fl_one l) P63.out PB.out S3.out ?_; intro v3 w3 hown3 hgrow3 hnil3; have OW := Lib.hid hown3; have NW := Lib.hid (newsOld x ((hgrow3.block (w.heap.size + 1) (by show _ < ((W1.alloc _).alloc _).heap.size; simp; omega) (ne12 w)).trans H3.out)); have NL := Lib.hid hnil3; have SW := Lib.hid (Nat.le_trans S3.out hgrow3.size); have BB := Lib.hid (BW3.out.grown hgrow3 S3.out (draw.own_ge O3.out)); clear hown3 hgrow3 hnil3)
    | (refine step_own rfl (.tmp 9) (.tmp 11) 31 rfl (w.heap.size + 1) 25 i5 (.agg #[.int .i64 0, .int .i64 0, .int .i64 0, .int .i64 0, .int .i64 0]) 5 40 Try.underlying31 hi2 hz20 hz21 hz22 rfl (by decide) _ (0 + l.length) (draw.fl [] ++ draw.fl l) rfl OW.out ⟨_, 0, none⟩ 1 1 (draw.fl [x]) rfl rfl NW.out (draw.fl_one [x]) Q63.out QB.out SW.out ?_; intro v4 w4 hown4 hgrow4 hnil4; have OX := Lib.hid hown4; have BX := Lib.hid (BB.out.grown hgrow4 SW.out (draw.own_ge OW.out)); have NX := Lib.hid (show v4 ≠ .slice none 0 0 from fun h => absurd (hnil4.1 h).2 (by decide)); clear hown4 hgrow4 hnil4))
  all_goals
    obtain ⟨L, hL⟩ : ∃ L, L = l ++ [x] := ⟨_, rfl⟩
    have HLL := Lib.hid hL
    have MD := Lib.hid (draw.made_of (w := W1) (w' := w4) (v := v4) (l := L) (by rw [hL, sz, List.length_append, draw.fl_app]; have h := OX.out; rw [Nat.zero_add] at h; exact h) NX.out (by rw [sz]; exact BX.out))
    obtain ⟨cap, g, hv4, r4, g1, g2, b4⟩ := MD.out
    subst hv4
    have R4 := Lib.hid r4
    have B4 := Lib.hid (GW.out.trans (b4.mono (by omega)))
    have G2 := Lib.hid g2
    have G3 := Lib.hid (show w.heap.size ≤ g from by omega)
    have CR := Lib.hid (rsS w4 _ cap g L r4 (by rw [hL, List.length_append]; simp; omega))
    clear hL MD r4 g1 g2 b4 OX BX NX OW NW NL SW BB O1 O2 O3 N1 N2 N3 S1 S2 S3 BW1 BW2 BW3 H2 H3 P63 PB Q63 QB x0 x1 x2 x3 x4 sz lg hi2 hz20 hz21 hz22
    cases hv : led.lv L with
    | false =>
      have NO := Lib.hid hv
      rw [hv] at CR
      clear hv
      go_wp2_with fail
      refine CR.out.mono ?_
      rintro e w5 ⟨rfl, b5⟩
      have B5 := Lib.hid (B4.out.trans (b5.mono B4.out.size))
      clear b5
      go_wp2
      go_ret2
      exact added_no (by rw [← HLL.out]; exact NO.out) B5.out
    | true =>
      have YES := Lib.hid hv
      rw [hv] at CR
      clear hv
      go_wp2_with fail
      refine CR.out.mono ?_
      rintro e w5 ⟨rfl, b5⟩
      have B5 := Lib.hid (B4.out.trans (b5.mono B4.out.size))
      have R5 := Lib.hid (R4.out.keep (w' := w5) fun _ => b5.block g G2.out)
      have Z5 := Lib.hid b5.size
      clear b5
      go_wp2
      go_ret2
      exact added_yes2 HLL.out YES.out R5.out G3.out (Nat.lt_of_lt_of_le G2.out Z5.out) B5.out
end Go.Proofs.Ytnkdjnfbllkgiab.base
