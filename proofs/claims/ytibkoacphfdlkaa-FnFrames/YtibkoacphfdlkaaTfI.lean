/-
  Plain helpers of this seat's proofs: the contract of the landed TakeFrames. Conditions: none.
-/
import Derived.Test.YtibkoacphfdlkaaFit
import Derived.Test.YtibkoacphfdlkaaSt
import Derived.Test.YtibkoacphfdlkaaShelf
import Derived.RangeFuncNested
import Derived.RangeFuncBound
import Derived.RangeFuncCalls
import Derived.RangeFuncLeaves
import Derived.Maps.AppendAt
import Derived.OrdersHeld
import Derived.Deep.RegionHeld
namespace Go.Proofs.Ytibkoacphfdlkaa.frm
open Go.ChangeShapes Go.WideShapes Go.ChangeAt Go.RowKit
open crc (le4 be4 sum)
open Go.Shelf
attribute [local go_sem] Oper.semAt_some
theorem step_own {P : Program} {ops : Array Oper} {o : Oper} {a : Act} {w : World} {K : Act → World → Prop} {Q : Exit → Act → World → Prop} {E : Prop} (hgd : o.guard = none) (s x : Operand) (t : TypeId)
    (ho : o.op = .call { callee := .builtin .append, args := #[s, x], argTypes := #[t, t] })
    (B : Nat) (e : TypeId) (i : TypeInfo) (z : Value) (size bytes : Nat) (ht : P.underlying t = some (.slice e)) (hi : P.info? e = some i) (hz : i.zero = some z)
    (hsize : i.size = size) (hby : i.bytes = bytes) (hzs : z.cells.size = size) (hsz : 0 < size)
    (v : Value) (n : Nat) (xs : List Value) (hs : a.eval s = v) (hown : w.ownsRow B e size v n xs)
    (ad : Addr) (m c : Nat) (news : List Value) (hx : a.eval x = .slice (some ad) m c) (hl : news.length = m * size) (hnews : ∀ j u, news[j]? = some u → w.cell? (ad.add j) = some u) (h1 : ∀ u ∈ news, u.oneCell' = true)
    (h63 : n + m ≤ maxLen) (hbytes : (n + m) * bytes ≤ 140737488355328) (hbase : B ≤ w.heap.size)
    (h : ∀ v' w', w'.ownsRow B e size v' (n + m) (xs ++ news) → w.grownBy w' v.ownBlock → (v' = .slice none 0 0 ↔ v = .slice none 0 0 ∧ m = 0) → K (a.put o.dst v') w') :
    if Region.wanted o (yielded ops a.tmps) = true then Oper.wp P o a w K Q else E := by
  have hw : Region.wanted o (yielded ops a.tmps) = true := by simp [Region.wanted, hgd]
  rw [if_pos hw]
  obtain ⟨v', w', hr, h2, h3, h4, _⟩ := run_append_own_at (P := P) w B t o.type e i z size bytes ht hi hz hsize hby hzs hsz v n xs hown ad m c news hl hnews h1 h63 hbytes hbase
  unfold Oper.wp execOp
  simp only [ho, resolve, invoke, builtin, Sem.run_bind, Sem.run_pure, Result.andThen_ok, List.map_toArray, List.map_cons, List.map_nil, hs, hx, hr]
  exact h v' w' h2 h3 h4
theorem infoS : (Try.prog.info? 9).map (fun i => (i.zero, i.size, i.bytes)) = some (some (.string ⟨#[]⟩), 1, 16) := by kernel_rfl
theorem frz_own {A B : World} {row : Option Nat} {ad : Addr} {v : Value} (h : A.cell? ad = some v) (f : A.frozen? ad = false) (hg : A.grownBy B row) (hr : ∀ r, row = some r → ∃ o : Obj, A.heap[r]? = some o ∧ o.isCells = false) : B.frozen? ad = false := by
  obtain ⟨o, ho, hc⟩ := cells_of_cell h
  have e : B.heap[ad.block]? = A.heap[ad.block]? := hg.block _ (Array.getElem?_eq_some_iff.1 ho).1 fun e => by
    obtain ⟨o', ho', hc'⟩ := hr _ e.symm
    rw [ho] at ho'
    cases ho'
    rw [hc] at hc'
    cases hc'
  rw [World.frozen?_of_block e]; exact f
theorem own_kept {A B : World} {row : Option Nat} {D : Nat} {e : TypeId} {size : Nat} {v : Value} {n : Nat} {xs : List Value} (h : A.ownsRow D e size v n xs) (hg : A.grownBy B row) (hr : ∀ r, row = some r → ∃ o : Obj, A.heap[r]? = some o ∧ o.isCells = false) : B.ownsRow D e size v n xs := by
  obtain ⟨h1, h2⟩ := h
  refine ⟨h1, ?_⟩
  rcases h2 with h2 | ⟨g, cap, cur, hv, hgD, hh, r⟩
  · exact .inl h2
  · refine .inr ⟨g, cap, cur, hv, hgD, ?_, r⟩
    rw [hg.block g (Array.getElem?_eq_some_iff.1 hh).1 (fun e => by
      obtain ⟨o, ho, hc⟩ := hr g e.symm
      rw [hh] at ho
      cases ho
      cases hc)]
    exact hh
theorem own_below {w w' : World} {B : Nat} {e : TypeId} {size : Nat} {v : Value} {n : Nat} {xs : List Value} (h : w.ownsRow B e size v n xs) (hb : Below w.heap.size w w') : w'.ownsRow B e size v n xs :=
  own_kept h (by_below hb) (fun r e => by cases e)
/-- The texts of what was handed on. -/
def txs (pre : List (List UInt8 × Nat)) : List Value := pre.map fun x => .string ⟨x.1.toArray⟩
theorem txs_snoc (pre : List (List UInt8 × Nat)) (x : List UInt8 × Nat) : txs (pre ++ [x]) = txs pre ++ [.string ⟨x.1.toArray⟩] := by simp [txs]
/-- The offset behind the last one. -/
def lo (pre : List (List UInt8 × Nat)) : Nat := match pre.getLast? with | some x => x.2 | none => 0
theorem lo_snoc (pre : List (List UInt8 × Nat)) (x : List UInt8 × Nat) : lo (pre ++ [x]) = x.2 := by simp [lo]
theorem lo_evs (l : List UInt8) (k : Nat) : lo (evs l k) = pos l k := by
  cases k with
  | zero => rfl
  | succ k => rw [evs_succ, lo_snoc]; rfl
theorem txs_evs (l : List UInt8) (k : Nat) : txs (evs l k) = (outs l k).map (fun d => .string ⟨d.toArray⟩) := by
  unfold txs evs outs; rw [List.map_map, List.map_map]; rfl
/-- What holds in a round: the boxes of the list, of the offset and of the text. -/
structure Inv (w : World) (L : List UInt8) (pre : List (List UInt8 × Nat)) (W : World) : Prop where
  bx : W.cell? ⟨w.heap.size + 2, 0, none⟩ = some (.string ⟨L.toArray⟩)
  li : ∃ v, W.cell? ⟨w.heap.size, 0, none⟩ = some v ∧ W.ownsRow (w.heap.size + 3) 9 1 v pre.length (txs pre)
  lf : W.frozen? ⟨w.heap.size, 0, none⟩ = false
  of : W.cell? ⟨w.heap.size + 1, 0, none⟩ = some (.int .i64 (lo pre : Int))
  ff : W.frozen? ⟨w.heap.size + 1, 0, none⟩ = false
  bw : Below w.heap.size w W
  sz : w.heap.size + 3 ≤ W.heap.size
theorem frC (s : ByteArray) (w : World) : Calls Try.prog 21 #[.string s] w fun e w' => e = .returned (.func (.func 28) #[] #[.pointer (some ⟨w.heap.size, 0, none⟩)]) ∧ w' = w.alloc (.cells #[.string s] 9) := by
  go_enter Try.func21, Try.ntmps21
  go_wp2
  go_ret
  exact ⟨rfl, rfl⟩
theorem clC (s : ByteArray) (w : World) (h : s.size ≤ 281474976710656) : Calls Try.prog 22 #[.string s] w fun e w' => e = .returned (.string s) ∧ Below w.heap.size w w' := by
  go_enter Try.func22, Try.ntmps22
  go_wp2_with fail
  refine (Try.stringslite_Clone s w h).mono ?_
  rintro e w1 ⟨rfl, b1⟩
  have B1 := Lib.hid b1
  clear b1
  go_wp2
  go_ret
  exact ⟨rfl, B1.out⟩
theorem inv0 (w : World) (L : List UInt8) : Inv w L [] (((w.alloc (.cells #[.slice none 0 0] 25)).alloc (.cells #[.int .i64 0] 3)).alloc (.cells #[.string ⟨L.toArray⟩] 9)) := by
  have al1 := Below.heap_alloc w (.cells #[.slice none 0 0] 25)
  have al2 := Below.heap_alloc (w.alloc (.cells #[.slice none 0 0] 25)) (.cells #[.int .i64 0] 3)
  have al3 := Below.heap_alloc ((w.alloc (.cells #[.slice none 0 0] 25)).alloc (.cells #[.int .i64 0] 3)) (.cells #[.string ⟨L.toArray⟩] 9)
  have z1 : (w.alloc (.cells #[.slice none 0 0] 25)).heap.size = w.heap.size + 1 := World.size_alloc _ _
  have z2 : ((w.alloc (.cells #[.slice none 0 0] 25)).alloc (.cells #[.int .i64 0] 3)).heap.size = w.heap.size + 2 := by rw [World.size_alloc, z1]
  have h3 := al3 w.heap.size (by omega)
  have h2 := al2 w.heap.size (by omega)
  have h4 := al3 (w.heap.size + 1) (by omega)
  refine ⟨?_, ⟨.slice none 0 0, ?_, World.ownsRow_nil _ _ _ _⟩, ?_, ?_, ?_, ?_, ?_⟩
  · have := gen.box_cell (gen.box_refl ((w.alloc (.cells #[.slice none 0 0] 25)).alloc (.cells #[.int .i64 0] 3)) (.cells #[.string ⟨L.toArray⟩] 9)) 0 rfl
    rw [z2] at this; exact this
  · rw [World.cell?_of_block (w := w.alloc (.cells #[.slice none 0 0] 25)) (a := ⟨w.heap.size, 0, none⟩) (h3.trans h2)]
    exact gen.box_cell (gen.box_refl w _) 0 rfl
  · rw [World.frozen?_of_block (w := w.alloc (.cells #[.slice none 0 0] 25)) (a := ⟨w.heap.size, 0, none⟩) (h3.trans h2)]
    exact World.frozen?_alloc_new w _ _ 0
  · rw [World.cell?_of_block (w := (w.alloc (.cells #[.slice none 0 0] 25)).alloc (.cells #[.int .i64 0] 3)) (a := ⟨w.heap.size + 1, 0, none⟩) h4]
    have := gen.box_cell (gen.box_refl (w.alloc (.cells #[.slice none 0 0] 25)) (.cells #[.int .i64 0] 3)) 0 rfl
    rw [z1] at this; exact this
  · rw [World.frozen?_of_block (w := (w.alloc (.cells #[.slice none 0 0] 25)).alloc (.cells #[.int .i64 0] 3)) (a := ⟨w.heap.size + 1, 0, none⟩) h4]
    have := World.frozen?_alloc_new (w.alloc (.cells #[.slice none 0 0] 25)) #[.int .i64 0] 3 0
    rw [z1] at this; exact this
  · exact (((Below.refl _ _).alloc (Nat.le_refl _) _).alloc (by omega) _).alloc (by omega) _
  · rw [World.size_alloc, z2]; omega
theorem Inv.grown {w A B : World} {L : List UInt8} {pre : List (List UInt8 × Nat)} {row : Option Nat} (h : Inv w L pre A) (hg : A.grownBy B row) (hr : ∀ r, row = some r → w.heap.size ≤ r ∧ ∃ o : Obj, A.heap[r]? = some o ∧ o.isCells = false) : Inv w L pre B := by
  have hr2 : ∀ r, row = some r → ∃ o : Obj, A.heap[r]? = some o ∧ o.isCells = false := fun r e => (hr r e).2
  obtain ⟨v, hc, ho⟩ := h.li
  exact ⟨cell_kept h.bx hg hr2, ⟨v, cell_kept hc hg hr2, own_kept ho hg hr2⟩, frz_own hc h.lf hg hr2, cell_kept h.of hg hr2, frz_own h.of h.ff hg hr2, h.bw.grown hg h.bw.size (fun k e => (hr k e).1), Nat.le_trans h.sz hg.size⟩
theorem own_ge {w : World} {B : Nat} {e : TypeId} {size : Nat} {v : Value} {n : Nat} {xs : List Value} (h : w.ownsRow B e size v n xs) : ∀ k, v.ownBlock = some k → B ≤ k := fun k hk => by
  rcases h.2 with ⟨rfl, _⟩ | ⟨g, cap, cur, rfl, hg, _⟩
  · cases hk
  · cases hk; exact hg
theorem own_cells {w : World} {B : Nat} {e : TypeId} {size : Nat} {v : Value} {n : Nat} {xs : List Value} (h : w.ownsRow B e size v n xs) : ∀ (j : Nat) (o : Obj), v.ownBlock = some j → w.heap[j]? = some o → o.isCells = true := fun j o hj ho => by
  rcases h.2 with ⟨rfl, _⟩ | ⟨g, cap, cur, rfl, hg, hh, _⟩
  · cases hj
  · cases hj
    rw [hh] at ho
    cases ho
    rfl
theorem own_put {w : World} {B D : Nat} {od o : Obj} {e : TypeId} {size : Nat} {v : Value} {n : Nat} {xs : List Value} (h : w.ownsRow B e size v n xs) (hK : w.heap[D]? = some od) (hc : od.isCells = false) : (w.putObj D o).ownsRow B e size v n xs := by
  obtain ⟨h1, h2⟩ := h
  refine ⟨h1, ?_⟩
  rcases h2 with h2 | ⟨g, cap, cur, hv, hg, hh, r⟩
  · exact .inl h2
  · exact .inr ⟨g, cap, cur, hv, hg, (World.putObj_heap_other (by intro q; subst q; rw [hK] at hh; cases hh; cases hc)).trans hh, r⟩
theorem own_slice {w : World} {B : Nat} {e : TypeId} {size : Nat} {v : Value} {n : Nat} {xs : List Value} (h : w.ownsRow B e size v n xs) : ∃ a m c, v = .slice a m c := by
  rcases h.2 with ⟨rfl, _⟩ | ⟨g, cap, cur, rfl, _⟩
  · exact ⟨_, _, _, rfl⟩
  · exact ⟨_, _, _, rfl⟩
theorem own_mono {w : World} {B C : Nat} {e : TypeId} {size : Nat} {v : Value} {n : Nat} {xs : List Value} (h : w.ownsRow B e size v n xs) (hc : C ≤ B) : w.ownsRow C e size v n xs := by
  obtain ⟨h1, h2⟩ := h
  refine ⟨h1, ?_⟩
  rcases h2 with h2 | ⟨g, cap, cur, hv, hg, r⟩
  · exact .inl h2
  · exact .inr ⟨g, cap, cur, hv, Nat.le_trans hc hg, r⟩
section
variable {w W w1 w3 : World} {L : List UInt8} {pre : List (List UInt8 × Nat)} {x : List UInt8 × Nat} {v v3 : Value}
theorem own_box (own : W.ownsRow (w.heap.size + 3) 9 1 v pre.length (txs pre)) (b1 : Below W.drew.heap.size W.drew w1) (o : Obj) : (w1.alloc o).ownsRow (w.heap.size + 3) 9 1 v pre.length (txs pre) :=
  own_below (own_below (show W.drew.ownsRow _ _ _ _ _ _ from own) b1) ((Below.refl _ _).alloc (Nat.le_refl _) _)
theorem old3 (h : Inv w L pre W) (own : W.ownsRow (w.heap.size + 3) 9 1 v pre.length (txs pre)) (b1 : Below W.drew.heap.size W.drew w1) {o : Obj} (hg : (w1.alloc o).grownBy w3 v.ownBlock) : ∀ c, c < w.heap.size + 3 → w3.heap[c]? = W.heap[c]? := fun c hc => by
  have z := h.sz
  have zd : W.drew.heap.size = W.heap.size := rfl
  have z1 := b1.size
  rw [hg.block c (by simp; omega) (fun e => by have := own_ge own c e.symm; omega), Below.heap_alloc w1 o c (by omega)]
  exact b1.block c (by omega)
theorem Inv.step (D : Nat) (h : Inv w L pre W) (own : W.ownsRow (w.heap.size + 3) 9 1 v pre.length (txs pre)) (b1 : Below W.drew.heap.size W.drew w1) {o : Obj} (hg : (w1.alloc o).grownBy w3 v.ownBlock)
    (ho : w3.ownsRow (w.heap.size + 3) 9 1 v3 (pre.length + 1) (txs pre ++ [.string ⟨x.1.toArray⟩])) :
    KeepsFrom D W ((w3.setCell ⟨w.heap.size, 0, none⟩ v3).setCell ⟨w.heap.size + 1, 0, none⟩ (.int .i64 (x.2 : Int))) ∧ Inv w L (pre ++ [x]) ((w3.setCell ⟨w.heap.size, 0, none⟩ v3).setCell ⟨w.heap.size + 1, 0, none⟩ (.int .i64 (x.2 : Int))) ∧ W.heap.size ≤ ((w3.setCell ⟨w.heap.size, 0, none⟩ v3).setCell ⟨w.heap.size + 1, 0, none⟩ (.int .i64 (x.2 : Int))).heap.size := by
  have z := h.sz
  have zd : W.drew.heap.size = W.heap.size := rfl
  have z1 := b1.size
  have ob := own_box own b1 o
  have z3 := hg.size
  rw [World.size_alloc] at z3
  have O := old3 h own b1 hg
  obtain ⟨v0, hc, _⟩ := h.li
  have e0 : w3.cell? ⟨w.heap.size, 0, none⟩ = some v0 := (World.cell?_of_block (w := W) (a := ⟨w.heap.size, 0, none⟩) (O w.heap.size (by omega))).trans hc
  have e1 : w3.cell? ⟨w.heap.size + 1, 0, none⟩ = some (.int .i64 (lo pre : Int)) := (World.cell?_of_block (w := W) (a := ⟨w.heap.size + 1, 0, none⟩) (O (w.heap.size + 1) (by omega))).trans h.of
  have e2 : w3.cell? ⟨w.heap.size + 2, 0, none⟩ = some (.string ⟨L.toArray⟩) := (World.cell?_of_block (w := W) (a := ⟨w.heap.size + 2, 0, none⟩) (O (w.heap.size + 2) (by omega))).trans h.bx
  have f0 : w3.frozen? ⟨w.heap.size, 0, none⟩ = false := (World.frozen?_of_block (w := W) (a := ⟨w.heap.size, 0, none⟩) (O w.heap.size (by omega))).trans h.lf
  have f1 : w3.frozen? ⟨w.heap.size + 1, 0, none⟩ = false := (World.frozen?_of_block (w := W) (a := ⟨w.heap.size + 1, 0, none⟩) (O (w.heap.size + 1) (by omega))).trans h.ff
  have n1 : w.heap.size ≠ w.heap.size + 1 := by omega
  refine ⟨?_, ⟨?_, ⟨v3, ?_, ?_⟩, ?_, ?_, ?_, ?_, ?_⟩, ?_⟩
  · exact (((((KeepsOthers.drew W).trans (KeepsOthers.of_grownBy (by_below b1) (fun j o e => by cases e))).trans (KeepsOthers.alloc _ _)).trans (KeepsOthers.of_grownBy hg (own_cells ob))).trans ((KeepsOthers.setCell _ _ _).trans (KeepsOthers.setCell _ _ _))).from D
  · rw [World.cell?_setCell_far _ _ _ _ (by show w.heap.size + 1 ≠ w.heap.size + 2; omega), World.cell?_setCell_far _ _ _ _ (by show w.heap.size ≠ w.heap.size + 2; omega)]; exact e2
  · rw [World.cell?_setCell_far _ _ _ _ (by show w.heap.size + 1 ≠ w.heap.size; omega)]
    exact World.cell?_setCell_same' _ _ _ (by rw [e0]; rfl)
  · rw [List.length_append, txs_snoc]
    obtain ⟨h1, h2⟩ := ho
    refine ⟨h1, ?_⟩
    rcases h2 with h2 | ⟨g, cap, cur, hv, hgD, hh, r⟩
    · exact .inl h2
    · exact .inr ⟨g, cap, cur, hv, hgD, by rw [Below.heap_setCell _ _ _ _ (by show g ≠ w.heap.size + 1; omega), Below.heap_setCell _ _ _ _ (by show g ≠ w.heap.size; omega)]; exact hh, r⟩
  · rw [World.frozen?_setCell, World.frozen?_setCell]; exact f0
  · rw [lo_snoc]
    exact World.cell?_setCell_same' _ _ _ (by rw [World.cell?_setCell_far _ _ _ _ (by show w.heap.size ≠ w.heap.size + 1; omega), e1]; rfl)
  · rw [World.frozen?_setCell, World.frozen?_setCell]; exact f1
  · have b0 : Below w.heap.size w w1 := (show Below w.heap.size w W.drew from h.bw.drew).trans (b1.mono (by omega))
    exact (((b0.alloc b0.size o).grown hg (by rw [World.size_alloc]; have := b0.size; omega) (fun k e => by have := own_ge own k e; omega)).setCell (p := ⟨w.heap.size, 0, none⟩) (Nat.le_refl _) _).setCell (p := ⟨w.heap.size + 1, 0, none⟩) (by show w.heap.size ≤ w.heap.size + 1; omega) _
  · rw [World.size_setCell, World.size_setCell]; omega
  · rw [World.size_setCell, World.size_setCell]; omega
end
set_option maxRecDepth 100000 in
set_option maxHeartbeats 4000000 in
theorem tfI (L : List UInt8) (w : World) (hL : L.length ≤ 1048576) : Calls Try.prog 8 #[.string ⟨L.toArray⟩] w fun e w' => ∃ k v, Fr L k ∧ e = .returned (.tuple #[v, .int .i64 (pos L k : Int)]) ∧ w'.ownsRow w.heap.size 9 1 v k ((outs L k).map (fun d => .string ⟨d.toArray⟩)) ∧ Below w.heap.size w w' := by
  refine (callsIn_wide (n := 8)).1 ?_
  have hro : Fence.wide.round = none := rfl
  have mixed : Try.prog.follows .mixedOrders = true := Try.checked.mixed
  have hw1 : Fence.wide.fn 21 := trivial
  refine callsIn_of_wp_marks Try.func8 rfl trivial ?_ hro
  simp only [Try.ntmps8, List.size_toArray, List.length_cons, List.length_nil, Nat.reduceAdd, Nat.reduceSub, Array.replicate_succ, Array.replicate_zero, List.push_toArray, List.append_toArray, List.nil_append, List.cons_append]
  gi_wp2_with fail
  refine (callsIn_wide.2 (frC _ _)).mono ?_
  rintro e w3 ⟨rfl, rfl⟩
  gi_wp2_with fail
  have IV0 := Lib.hid (inv0 w L)
  obtain ⟨W0, hW0⟩ : ∃ W0, W0 = ((w.alloc (.cells #[.slice none 0 0] 25)).alloc (.cells #[.int .i64 0] 3)).alloc (.cells #[.string ⟨L.toArray⟩] 9) := ⟨_, rfl⟩
  rw [← hW0] at IV0 ⊢
  clear hW0
  have zW := IV0.out.sz
  refine rf.range hro (by omega) (gf := 28) (lb := #[.pointer (some ⟨w.heap.size + 2, 0, none⟩)]) rfl trivial (enters_of Try.func28 (by kernel_rfl) rfl)
    (frIt 7 (by omega) (w.heap.size + 2) L hL) (fun _ => rfl)
    (fun pre W => Inv w L pre W ∧ W0.heap.size ≤ W.heap.size)
    (fun _ _ _ => False)
    (fun x a' _ => a' = { tmps := #[.string ⟨L.toArray⟩, undef, .slice none 0 0, .int .i64 0, .pointer (some ⟨w.heap.size, 0, none⟩), .pointer (some ⟨w.heap.size + 1, 0, none⟩), .string ⟨x.1.toArray⟩, .int .i64 (x.2 : Int), .string ⟨L.toArray⟩, .func (.func 28) #[] #[.pointer (some ⟨w.heap.size + 1 + 1, 0, none⟩)], .string ⟨x.1.toArray⟩, .int .i64 (x.2 : Int), undef, undef, undef, undef, undef, undef, undef, undef], defers := [] })
    (fun s A B row hs hg hr => ⟨hs.1.grown hg (fun r e => ⟨by have := (hr r e).1; omega, (hr r e).2⟩), Nat.le_trans hs.2 hg.size⟩)
    (fun _ _ _ _ _ hs _ _ => hs)
    (fun x a' s A B row hs hg hr => hs)
    (fun pre W h => h.1.bx)
    ⟨IV0.out, Nat.le_refl _⟩ ?assign ?body ?done ?stop
  case assign =>
    rintro lp pre x W K hI hV hK
    dsimp only [enc]
    gi_wp2
    exact hK _ _ (KeepsFrom.refl _ _) hI rfl
  case body =>
    rintro lp pre x a' W ⟨hI, hz⟩ hV rfl
    obtain ⟨k, kr, kg, rfl, rfl⟩ := hV
    have rp := run_pos kr
    have dl := dat_len kg.2.2.1
    have k1 : k ≤ 131072 := by omega
    have TX := Lib.hid (txs_snoc (evs L k) (ev L k))
    have LO := Lib.hid (lo_snoc (evs L k) (ev L k))
    have LE := evs_len L k
    have S2 := kg.2.1
    obtain ⟨D, hD⟩ : ∃ D, D = (ev L k).1 := ⟨_, rfl⟩
    obtain ⟨q, hq⟩ : ∃ q, q = (ev L k).2 := ⟨_, rfl⟩
    have HD := Lib.hid hD
    have HQ := Lib.hid hq
    have ld : D.length ≤ 100000 := by rw [hD]; show (dat L (pos L k)).length ≤ _; omega
    rw [← hD] at TX ⊢
    rw [← hq] at LO ⊢
    have INV := Lib.hid hI
    obtain ⟨v, hc, ho⟩ := hI.li
    rw [LE] at ho
    have OWN := Lib.hid ho
    have zw := hI.sz
    have ds : (⟨D.toArray⟩ : ByteArray).size ≤ 281474976710656 := by show D.toArray.size ≤ _; simp; omega
    clear hI kr kg rp dl S2 hD hq ho
    gi_wp2_with fail
    refine wpIn_region_any mixed (st.anyIn (by kernel_rfl) (fun ⟨_, _, h⟩ => h) _ _ _ _ ?_)
    change wpAny _ _ _ _ _ _ _ W.drew
    obtain ⟨iS, his, hs0, hs1, hs2⟩ := info_parts infoS
    have hc' : W.drew.cell? ⟨w.heap.size, 0, none⟩ = some v := hc
    refine wpAny_take (i := 1) (oi := { dst := some 13, op := Op.move (Operand.tmp 6), type := 9, pos := "l12_journals.go:102", after := #[], guard := none }) (v := .string ⟨D.toArray⟩) rfl (by kernel_rfl) (by kernel_rfl) (by kernel_rfl) (fun _ _ _ h => h) (Or.inl ⟨by rfl, fun w2 => by go_simp⟩) ?_
    simp only [Act.put, List.setIfInBounds_toArray, List.set_cons_zero, List.set_cons_succ]
    refine wpAny_take (i := 5) (oi := { dst := some 17, op := Op.move (Operand.tmp 7), type := 3, pos := "l12_journals.go:102", after := #[{ on := 6, ground := Ground.gcOnly Departure.lateStores }], guard := none }) (v := .int .i64 (q : Int)) rfl (by kernel_rfl) (by kernel_rfl) (by kernel_rfl) (fun _ _ _ h => h) (Or.inl ⟨by rfl, fun w2 => by go_simp⟩) ?_
    simp only [Act.put, List.setIfInBounds_toArray, List.set_cons_zero, List.set_cons_succ]
    refine wpAny_ready (rs := [0, 2]) (by kernel_rfl) (by simp) ?_
    refine AllReady.cons rfl (fun K hK => ?_) (AllReady.cons rfl (fun K hK => ?_) AllReady.nil)
    · skip
      go_simp
      refine hK _ _ ?_
      clear hK K
      refine wpAny_ready (rs := [2]) (by kernel_rfl) (by simp) ?_
      refine AllReady.cons rfl (fun K hK => ?_) AllReady.nil
      go_simp
      refine (clC _ _ ds).mono ?_
      rintro e w1 ⟨rfl, b1⟩
      refine hK _ _ ?_
      clear hK K
      have B1 := Lib.hid b1
      have ze := b1.size
      have hc1 : w1.cell? ⟨w.heap.size, 0, none⟩ = some v := (World.cell?_of_block (w := W) (a := ⟨w.heap.size, 0, none⟩) (b1.block _ (show w.heap.size < W.heap.size by omega))).trans hc
      clear b1
      refine wpAny_ready (rs := [3]) (by kernel_rfl) (by simp) ?_
      refine AllReady.cons rfl (fun K hK => ?_) AllReady.nil
      go_simp
      refine hK _ _ ?_
      clear hK K
      refine wpAny_ready (rs := [4]) (by kernel_rfl) (by simp) ?_
      refine AllReady.cons rfl (fun K hK => ?_) AllReady.nil
      have hnews : ∀ j u, [Value.string ⟨D.toArray⟩][j]? = some u → (w1.alloc (.cells #[.string ⟨D.toArray⟩] 9)).cell? ((⟨w1.heap.size, 0, none⟩ : Addr).add j) = some u := fun j u hj => by
        match j, hj with
        | 0, hj => simp at hj; subst hj; exact gen.box_cell (gen.box_refl w1 _) 0 rfl
      refine step_own rfl (.tmp 12) (.tmp 15) 25 rfl (w.heap.size + 3) 9 iS (.string ⟨#[]⟩) 1 16 Try.underlying25 his hs0 hs1 hs2 rfl (by decide) v k (txs (evs L k)) rfl (by have := own_box (pre := evs L k) (by rw [LE]; exact OWN.out) B1.out (.cells #[.string ⟨D.toArray⟩] 9); rw [LE] at this; exact this) ⟨w1.heap.size, 0, none⟩ 1 1 [.string ⟨D.toArray⟩] rfl rfl hnews (by intro u hu; simp at hu; subst hu; rfl) (by unfold maxLen; omega) (by omega) (by rw [World.size_alloc]; have zd : W.drew.heap.size = W.heap.size := rfl; omega) ?_
      intro v3 w3 hown3 hgrow3 _
      obtain ⟨a3, m3, c3, rfl⟩ := own_slice hown3
      clear hnews
      refine hK _ _ ?_
      clear hK K
      simp only [Act.put, List.setIfInBounds_toArray]
      have O3 := old3 INV.out (by rw [LE]; exact OWN.out) B1.out hgrow3
      have ST := Lib.hid (Inv.step (x := ev L k) W0.heap.size INV.out (by rw [LE]; exact OWN.out) B1.out hgrow3 (by rw [LE, ← HD.out]; exact hown3))
      have e0 : w3.cell? ⟨w.heap.size, 0, none⟩ = some v := (World.cell?_of_block (w := W) (a := ⟨w.heap.size, 0, none⟩) (O3 w.heap.size (by omega))).trans hc
      have e1 : w3.cell? ⟨w.heap.size + 1, 0, none⟩ = some (.int .i64 (lo (evs L k) : Int)) := (World.cell?_of_block (w := W) (a := ⟨w.heap.size + 1, 0, none⟩) (O3 (w.heap.size + 1) (by omega))).trans INV.out.of
      have f0 : w3.frozen? ⟨w.heap.size, 0, none⟩ = false := (World.frozen?_of_block (w := W) (a := ⟨w.heap.size, 0, none⟩) (O3 w.heap.size (by omega))).trans INV.out.lf
      have f1 : w3.frozen? ⟨w.heap.size + 1, 0, none⟩ = false := (World.frozen?_of_block (w := W) (a := ⟨w.heap.size + 1, 0, none⟩) (O3 (w.heap.size + 1) (by omega))).trans INV.out.ff
      clear O3 hown3 hgrow3
      refine wpAny_ready (rs := [6]) (by kernel_rfl) (by simp) ?_
      refine AllReady.cons rfl (fun K hK => ?_) AllReady.nil
      go_simp
      refine hK _ _ ?_
      clear hK K
      refine wpAny_ready (rs := [7]) (by kernel_rfl) (by simp) ?_
      refine AllReady.cons rfl (fun K hK => ?_) AllReady.nil
      go_simp
      refine hK _ _ ?_
      clear hK K
      refine wpAny_done (by kernel_rfl) ?_ _
      rw [HQ.out]
      exact ⟨ST.out.1, trivial, ST.out.2.1, Nat.le_trans hz ST.out.2.2⟩
    · skip
      go_simp
      refine (clC _ _ ds).mono ?_
      rintro e w1 ⟨rfl, b1⟩
      refine hK _ _ ?_
      clear hK K
      have B1 := Lib.hid b1
      have ze := b1.size
      have hc1 : w1.cell? ⟨w.heap.size, 0, none⟩ = some v := (World.cell?_of_block (w := W) (a := ⟨w.heap.size, 0, none⟩) (b1.block _ (show w.heap.size < W.heap.size by omega))).trans hc
      clear b1
      refine wpAny_ready (rs := [0, 3]) (by kernel_rfl) (by simp) ?_
      refine AllReady.cons rfl (fun K hK => ?_) (AllReady.cons rfl (fun K hK => ?_) AllReady.nil)
      · skip
        go_simp
        refine hK _ _ ?_
        clear hK K
        refine wpAny_ready (rs := [3]) (by kernel_rfl) (by simp) ?_
        refine AllReady.cons rfl (fun K hK => ?_) AllReady.nil
        go_simp
        refine hK _ _ ?_
        clear hK K
        refine wpAny_ready (rs := [4]) (by kernel_rfl) (by simp) ?_
        refine AllReady.cons rfl (fun K hK => ?_) AllReady.nil
        have hnews : ∀ j u, [Value.string ⟨D.toArray⟩][j]? = some u → (w1.alloc (.cells #[.string ⟨D.toArray⟩] 9)).cell? ((⟨w1.heap.size, 0, none⟩ : Addr).add j) = some u := fun j u hj => by
          match j, hj with
          | 0, hj => simp at hj; subst hj; exact gen.box_cell (gen.box_refl w1 _) 0 rfl
        refine step_own rfl (.tmp 12) (.tmp 15) 25 rfl (w.heap.size + 3) 9 iS (.string ⟨#[]⟩) 1 16 Try.underlying25 his hs0 hs1 hs2 rfl (by decide) v k (txs (evs L k)) rfl (by have := own_box (pre := evs L k) (by rw [LE]; exact OWN.out) B1.out (.cells #[.string ⟨D.toArray⟩] 9); rw [LE] at this; exact this) ⟨w1.heap.size, 0, none⟩ 1 1 [.string ⟨D.toArray⟩] rfl rfl hnews (by intro u hu; simp at hu; subst hu; rfl) (by unfold maxLen; omega) (by omega) (by rw [World.size_alloc]; have zd : W.drew.heap.size = W.heap.size := rfl; omega) ?_
        intro v3 w3 hown3 hgrow3 _
        obtain ⟨a3, m3, c3, rfl⟩ := own_slice hown3
        clear hnews
        refine hK _ _ ?_
        clear hK K
        simp only [Act.put, List.setIfInBounds_toArray]
        have O3 := old3 INV.out (by rw [LE]; exact OWN.out) B1.out hgrow3
        have ST := Lib.hid (Inv.step (x := ev L k) W0.heap.size INV.out (by rw [LE]; exact OWN.out) B1.out hgrow3 (by rw [LE, ← HD.out]; exact hown3))
        have e0 : w3.cell? ⟨w.heap.size, 0, none⟩ = some v := (World.cell?_of_block (w := W) (a := ⟨w.heap.size, 0, none⟩) (O3 w.heap.size (by omega))).trans hc
        have e1 : w3.cell? ⟨w.heap.size + 1, 0, none⟩ = some (.int .i64 (lo (evs L k) : Int)) := (World.cell?_of_block (w := W) (a := ⟨w.heap.size + 1, 0, none⟩) (O3 (w.heap.size + 1) (by omega))).trans INV.out.of
        have f0 : w3.frozen? ⟨w.heap.size, 0, none⟩ = false := (World.frozen?_of_block (w := W) (a := ⟨w.heap.size, 0, none⟩) (O3 w.heap.size (by omega))).trans INV.out.lf
        have f1 : w3.frozen? ⟨w.heap.size + 1, 0, none⟩ = false := (World.frozen?_of_block (w := W) (a := ⟨w.heap.size + 1, 0, none⟩) (O3 (w.heap.size + 1) (by omega))).trans INV.out.ff
        clear O3 hown3 hgrow3
        refine wpAny_ready (rs := [6]) (by kernel_rfl) (by simp) ?_
        refine AllReady.cons rfl (fun K hK => ?_) AllReady.nil
        go_simp
        refine hK _ _ ?_
        clear hK K
        refine wpAny_ready (rs := [7]) (by kernel_rfl) (by simp) ?_
        refine AllReady.cons rfl (fun K hK => ?_) AllReady.nil
        go_simp
        refine hK _ _ ?_
        clear hK K
        refine wpAny_done (by kernel_rfl) ?_ _
        rw [HQ.out]
        exact ⟨ST.out.1, trivial, ST.out.2.1, Nat.le_trans hz ST.out.2.2⟩
      · skip
        go_simp
        refine hK _ _ ?_
        clear hK K
        have hc2 : (w1.alloc (.cells #[.string ⟨D.toArray⟩] 9)).cell? ⟨w.heap.size, 0, none⟩ = some v := (World.cell?_of_block (w := w1) (a := ⟨w.heap.size, 0, none⟩) (Below.heap_alloc w1 (.cells #[.string ⟨D.toArray⟩] 9) w.heap.size (by have zd : W.drew.heap.size = W.heap.size := rfl; omega))).trans hc1
        refine wpAny_ready (rs := [0]) (by kernel_rfl) (by simp) ?_
        refine AllReady.cons rfl (fun K hK => ?_) AllReady.nil
        go_simp
        refine hK _ _ ?_
        clear hK K
        refine wpAny_ready (rs := [4]) (by kernel_rfl) (by simp) ?_
        refine AllReady.cons rfl (fun K hK => ?_) AllReady.nil
        have hnews : ∀ j u, [Value.string ⟨D.toArray⟩][j]? = some u → (w1.alloc (.cells #[.string ⟨D.toArray⟩] 9)).cell? ((⟨w1.heap.size, 0, none⟩ : Addr).add j) = some u := fun j u hj => by
          match j, hj with
          | 0, hj => simp at hj; subst hj; exact gen.box_cell (gen.box_refl w1 _) 0 rfl
        refine step_own rfl (.tmp 12) (.tmp 15) 25 rfl (w.heap.size + 3) 9 iS (.string ⟨#[]⟩) 1 16 Try.underlying25 his hs0 hs1 hs2 rfl (by decide) v k (txs (evs L k)) rfl (by have := own_box (pre := evs L k) (by rw [LE]; exact OWN.out) B1.out (.cells #[.string ⟨D.toArray⟩] 9); rw [LE] at this; exact this) ⟨w1.heap.size, 0, none⟩ 1 1 [.string ⟨D.toArray⟩] rfl rfl hnews (by intro u hu; simp at hu; subst hu; rfl) (by unfold maxLen; omega) (by omega) (by rw [World.size_alloc]; have zd : W.drew.heap.size = W.heap.size := rfl; omega) ?_
        intro v3 w3 hown3 hgrow3 _
        obtain ⟨a3, m3, c3, rfl⟩ := own_slice hown3
        clear hnews
        refine hK _ _ ?_
        clear hK K
        simp only [Act.put, List.setIfInBounds_toArray]
        have O3 := old3 INV.out (by rw [LE]; exact OWN.out) B1.out hgrow3
        have ST := Lib.hid (Inv.step (x := ev L k) W0.heap.size INV.out (by rw [LE]; exact OWN.out) B1.out hgrow3 (by rw [LE, ← HD.out]; exact hown3))
        have e0 : w3.cell? ⟨w.heap.size, 0, none⟩ = some v := (World.cell?_of_block (w := W) (a := ⟨w.heap.size, 0, none⟩) (O3 w.heap.size (by omega))).trans hc
        have e1 : w3.cell? ⟨w.heap.size + 1, 0, none⟩ = some (.int .i64 (lo (evs L k) : Int)) := (World.cell?_of_block (w := W) (a := ⟨w.heap.size + 1, 0, none⟩) (O3 (w.heap.size + 1) (by omega))).trans INV.out.of
        have f0 : w3.frozen? ⟨w.heap.size, 0, none⟩ = false := (World.frozen?_of_block (w := W) (a := ⟨w.heap.size, 0, none⟩) (O3 w.heap.size (by omega))).trans INV.out.lf
        have f1 : w3.frozen? ⟨w.heap.size + 1, 0, none⟩ = false := (World.frozen?_of_block (w := W) (a := ⟨w.heap.size + 1, 0, none⟩) (O3 (w.heap.size + 1) (by omega))).trans INV.out.ff
        clear O3 hown3 hgrow3
        refine wpAny_ready (rs := [6]) (by kernel_rfl) (by simp) ?_
        refine AllReady.cons rfl (fun K hK => ?_) AllReady.nil
        go_simp
        refine hK _ _ ?_
        clear hK K
        refine wpAny_ready (rs := [7]) (by kernel_rfl) (by simp) ?_
        refine AllReady.cons rfl (fun K hK => ?_) AllReady.nil
        go_simp
        refine hK _ _ ?_
        clear hK K
        refine wpAny_done (by kernel_rfl) ?_ _
        rw [HQ.out]
        exact ⟨ST.out.1, trivial, ST.out.2.1, Nat.le_trans hz ST.out.2.2⟩
  case done =>
    rintro xs W D hD hK ⟨k, hk, rfl⟩ ⟨hI, hz⟩
    obtain ⟨v, hc, ho⟩ := hI.li
    have c5 := hI.of
    rw [lo_evs] at c5
    rw [txs_evs, evs_len] at ho
    have OWN := Lib.hid ho
    have BW := Lib.hid hI.bw
    clear hI ho
    gi_wp2
    gi_region
    gi_wp2
    refine ⟨by simp, .inl ⟨_, _, rfl, run_takeDeferred (show W.drew.heap[D]? = _ from hK), ?_⟩⟩
    refine ⟨.tuple #[v, .int .i64 (pos L k : Int)], ?_, k, v, hk, rfl, ?_, ?_⟩
    · simp [results, Try.f8, go_sem]
    · exact own_put (own_mono (show W.drew.ownsRow _ _ _ _ _ _ from OWN.out) (by omega)) hK rfl
    · exact (show Below w.heap.size w W.drew from BW.out.drew).trans (belowK_b (w := w) (Nat.le_refl _) W.drew D _ _ (by omega) hK rfl rfl)
  case stop => intro c pre W D _ _ h; exact h.elim
end Go.Proofs.Ytibkoacphfdlkaa.frm
