/-
  Plain helpers of this seat's proofs: the contract of the landed function that lists the balances of a map in order. Conditions: none.
-/
import Derived.Test.YtnkdjnfbllkgiaaRng
import Derived.Test.YtnkdjnfbllkgiaaSrt5
import Derived.Test.YtnkdjnfbllkgiaaFl
namespace Go.Proofs.Ytnkdjnfbllkgiaa.mp
open Go.ChangeShapes Go.WideShapes Go.ChangeAt Go.RowKit
open Go.ChangeMaps (setBlock)
open led (F5 z5 nn wn same at4 addE Apart addK addAll)
open five (Row At)
theorem wpList_len_is (w : World) {ops : Array Oper} {rest : List Oper} {o : Oper} {a : Act} {Q : Exit → Act → World → Prop} {b : Nat} {L : List F5}
    (hg : o.guard = none) (m : Operand) (hop : o.op = Op.call { callee := Callee.builtin Builtin.len, args := #[m], argTypes := #[68] }) (hm : a.eval m = .map (some b)) (h : Is w b L)
    (hK : wpList Try.prog ops Q rest (a.put o.dst (.int .i64 L.length)) w) : wpList Try.prog ops Q (o :: rest) a w := by
  refine wpList_plain hg fun K' hK' => ?_
  obtain ⟨es, clock, hb, E⟩ := h
  have hl : es.size = L.length := by have := E.len; simpa using this
  have hrun : (Builtin.len_ #[68] o.type #[.map (some b)]).run Try.prog w = .ok (.int .i64 L.length) w := by
    rw [← hl]
    simp [Builtin.len_, run_underlying Try.underlying68, MapKept.run_getObj_map hb, goInt, Result.andThen]
  unfold Oper.wp
  simp [execOp, hop, resolve, invoke, builtin, hm, hrun, Result.andThen]
  exact hK' _ _ hK
/-- Without those that are 0. -/
def nz (l : List F5) : List F5 := l.filter fun x => decide (nn x ≠ 0)
theorem nz_yes (l : List F5) {x : F5} (h : nn x ≠ 0) : nz (l ++ [x]) = nz l ++ [x] := by
  unfold nz
  rw [List.filter_append, List.filter_cons_of_pos (by simp [h]), List.filter_nil]
theorem nz_no (l : List F5) {x : F5} (h : nn x = 0) : nz (l ++ [x]) = nz l := by
  unfold nz
  rw [List.filter_append, List.filter_cons_of_neg (by simp [h]), List.filter_nil, List.append_nil]
theorem nz_len (l : List F5) : (nz l).length ≤ l.length := List.length_filter_le _ _
theorem Ranges.len {w : World} {b r : Nat} {L done : List F5} (h : Ranges w b r L done) : done.length ≤ L.length := by
  obtain ⟨es, clock, seen, E, _, _, es', hp, hm⟩ := h
  have h1 := hp.length_eq
  have h2 := List.length_filter_le (fun e : MapEntry => seen.contains e.born) es.toList
  have h3 := E.len
  rw [← hm, List.length_map]
  omega
theorem news6 (w : World) (o : Obj) (x : F5) : ∀ j u, [Value.int .i64 x.1, .int .i64 x.2.1, .int .i64 x.2.2.1, .int .i64 x.2.2.2.1, .int .i64 x.2.2.2.2][j]? = some u → ((w.alloc o).alloc (.cells #[.int .i64 x.1, .int .i64 x.2.1, .int .i64 x.2.2.1, .int .i64 x.2.2.2.1, .int .i64 x.2.2.2.2] 52)).cell? ((⟨w.heap.size + 1, 0, none⟩ : Addr).add j) = some u := by
  have := draw.news5 (w.alloc o) x
  rw [World.size_alloc] at this
  exact this
theorem left_keep {w w' : World} {b r : Nat} (e1 : w'.heap[b]? = w.heap[b]?) (e2 : w'.heap[r]? = w.heap[r]?) : w'.rangeLeft b r = w.rangeLeft b r := by
  unfold World.rangeLeft
  rw [e1, e2]
/-- The balances that are not 0, in order, in memory of their own. -/
def Listed (w : World) (L : List F5) (e : Ending) (w' : World) : Prop := ∃ cap g, ∃ r : List F5, e = .returned (.slice (some ⟨g, 0, none⟩) r.length cap) ∧ Row w' (some ⟨g, 0, none⟩) cap g r ∧ w.heap.size ≤ g ∧ g < w'.heap.size ∧ r.Perm (nz L) ∧ r.Pairwise (fun x y => ¬ led.cmpP y x < 0) ∧ Below w.heap.size w w'
set_option maxRecDepth 40000 in
set_option maxHeartbeats 4000000 in
theorem listI (w : World) (b : Nat) (L : List F5) (hM : Is w b L) (hn : L.length ≤ 1000) : Calls Try.prog 56 #[.map (some b)] w (Listed w L) := by
  have HM := Lib.hid hM
  have bl := hM.lt
  clear hM
  obtain ⟨i5, hi, hz0, hz1, hz2⟩ := info_parts five.infoE
  go_enter Try.func56, Try.ntmps56
  go_wp2_with (first
    | (at_len; refine wpList_len_is _ rfl _ rfl rfl HM.out ?_)
    | (at_make; refine wpList_make_own _ rfl _ _ 31 rfl w.heap.size 52 i5 (.agg #[.int .i64 0, .int .i64 0, .int .i64 0, .int .i64 0, .int .i64 0]) 5 Try.underlying31 hi hz0 hz1 _ _ _ L.length rfl rfl rfl ?b2 ?b3 (Nat.le_refl _) ?_))
  case b2 => (try rw [hz2]); omega
  case b3 => unfold maxLen; omega
  intro w0 hown0 hgrow0
  have B0 := Lib.hid ((Below.refl w.heap.size w).grown hgrow0 (Nat.le_refl _) (fun k h => by cases h))
  have M0 := Lib.hid (HM.out.keep (w' := w0) (B0.out.block b bl))
  obtain ⟨o, hrange, RG⟩ := rng_start M0.out
  have RG0 := Lib.hid RG
  have OW0 := Lib.hid (hown0.alloc o)
  have LT0 := Lib.hid (draw.own_lt hown0 w.heap.size rfl)
  have BB0 := Lib.hid (B0.out.alloc B0.out.size o)
  clear hown0 hgrow0 RG
  go_wp2
  go_loopw [3] (fun v wr => ∃ done, Hid (Ranges wr b w0.heap.size L done) ∧ Hid (wr.ownsRow w.heap.size 52 5 v (nz done).length (draw.fl (nz done))) ∧ Hid (v ≠ .slice none 0 0) ∧ Hid (Below w.heap.size w wr) ∧ Hid (∀ k, v.ownBlock = some k → k ≠ w0.heap.size)) (fun _ wr => wr.rangeLeft b w0.heap.size)
  case atStart => exact ⟨[], RG0, OW0, Lib.hid (fun h => by cases h), BB0, Lib.hid (fun k hk => by injection hk with hk; rw [← hk]; exact Nat.ne_of_lt LT0.out)⟩
  case round =>
    obtain ⟨done, RG, OW, NN, BB, NE⟩ := hrel
    have LN := RG.out.len
    have NL := nz_len done
    rcases RG.out.next with ⟨hnext, hperm⟩ | ⟨x, w1, hx, hnext, hen, RG1, hless, hsz, hoth, hbel⟩
    · have PM := Lib.hid (hperm.filter (fun x => decide (nn x ≠ 0)))
      obtain ⟨cap, g, hv, R, g1, g2⟩ := draw.of_owns5n OW.out NN.out
      subst hv
      have SRT := Lib.hid (srt.sortI wr cap g (nz done) R g2 (by omega))
      clear R hperm
      go_wp2_with fail
      refine SRT.out.mono ?_
      rintro e w2 ⟨rfl, r, hp, hs, R2, hsz, hB⟩
      have PM2 := Lib.hid hp
      have SS2 := Lib.hid hs
      have RR2 := Lib.hid R2
      have BB2 := Lib.hid (BB.out.trans (hB w.heap.size g1))
      have z2 := hsz
      clear hp hs R2 hB hnext
      go_wp2
      go_ret
      exact ⟨cap, g, r, by rw [PM2.out.length_eq]; rfl, RR2.out, g1, by omega, PM2.out.trans PM.out, SS2.out.imp (fun h => by omega), BB2.out⟩
    · have XL := Lib.hid RG1.len
      have RG1h := Lib.hid RG1
      have LESS := Lib.hid hless
      have OW1 := Lib.hid (draw.owns_keep (wr' := w1) OW.out fun g hg => hoth g (NE.out g hg))
      have BB1 := Lib.hid (BB.out.trans (hbel w.heap.size B0.out.size))
      have RL1 := RG1.lt.2.1
      have RL0 := RG1.lt.1
      obtain ⟨n, hnn⟩ : ∃ n, n = nn x := ⟨_, rfl⟩
      rw [← hnn] at hnext hen
      have HN := Lib.hid hnn
      unfold kv at hnext hen
      clear hx RG1 hless hoth hbel hnn hsz hrange
      by_cases h0 : n = 0
      · have t1 : (n != 0) = false := by simp [h0]
        have NO := Lib.hid (nz_no done (x := x) (by rw [← HN.out]; exact h0))
        clear h0
        go_wp2
        go_roundw
        case rel => exact ⟨done ++ [x], Lib.hid (RG1h.out.keep (Below.heap_alloc w1 _ _ RL0) (Below.heap_alloc w1 _ _ RL1)), by rw [NO.out]; exact Lib.hid (OW1.out.alloc _), NN, Lib.hid (BB1.out.alloc BB1.out.size _), NE⟩
        case measure => rw [left_keep (Below.heap_alloc w1 _ _ RL0) (Below.heap_alloc w1 _ _ RL1)]; exact LESS.out
      · have t1 : (n != 0) = true := by simp [h0]
        have YES := Lib.hid (nz_yes done (x := x) (by rw [← HN.out]; exact h0))
        clear h0
        have szW := BB1.out.size
        go_wp2_with (at_builtin; refine wpList_append_own_at _ rfl _ _ 31 rfl w.heap.size 52 i5 (.agg #[.int .i64 0, .int .i64 0, .int .i64 0, .int .i64 0, .int .i64 0]) 5 40 Try.underlying31 hi hz0 hz1 hz2 rfl (by decide) _ _ _ rfl ((OW1.out.alloc _).alloc _) ⟨w1.heap.size + 1, 0, none⟩ 1 1 [.int .i64 x.1, .int .i64 x.2.1, .int .i64 x.2.2.1, .int .i64 x.2.2.2.1, .int .i64 n] rfl rfl (by rw [HN.out]; exact news6 w1 _ x) (by rw [HN.out]; exact draw.one5 x) (by unfold maxLen; omega) (by omega) (by simp; omega) ?_)
        intro v3 w3 hown3 hgrow3 hnil3 hloc3
        have KB : ∀ k, k < w1.heap.size → (∀ j, u3.ownBlock = some j → k ≠ j) → w3.heap[k]? = w1.heap[k]? := fun k hk hne =>
          (hgrow3.block k (by simp; omega) (fun e => hne k e.symm rfl)).trans ((Below.heap_alloc _ _ k (by simp; omega)).trans (Below.heap_alloc w1 _ k hk))
        have kb := KB b RL0 (fun j hj => by have := draw.own_ge OW1.out j hj; omega)
        have kr := KB w0.heap.size RL1 (fun j hj => Ne.symm (NE.out j hj))
        have RG3 := Lib.hid (RG1h.out.keep kb kr)
        have OW3 := Lib.hid (show w3.ownsRow w.heap.size 52 5 v3 (nz (done ++ [x])).length (draw.fl (nz (done ++ [x]))) from by rw [YES.out, List.length_append, draw.fl_app]; rw [HN.out] at hown3; exact hown3)
        have NN3 := Lib.hid (show v3 ≠ .slice none 0 0 from hnil3)
        have BB3 := Lib.hid (show Below w.heap.size w w3 from ((BB1.out.alloc BB1.out.size _).alloc (by simp; omega) _).grown hgrow3 (by simp; omega) (draw.own_ge OW1.out))
        have NE3 := Lib.hid (show ∀ k, v3.ownBlock = some k → k ≠ w0.heap.size from fun k hk => by
          rcases hloc3 with h | h
          · exact NE.out k (h.symm.trans hk)
          · rw [h] at hk; injection hk with hk; omega)
        have LS3 := Lib.hid (show w3.rangeLeft b w0.heap.size < wr.rangeLeft b w0.heap.size from by rw [left_keep kb kr]; exact LESS.out)
        clear KB kb kr hown3 hgrow3 hnil3 hloc3 hnext hen
        go_wp2
        go_roundw
        case rel => exact ⟨done ++ [x], RG3, OW3, NN3, BB3, NE3⟩
        case measure => exact LS3.out
end Go.Proofs.Ytnkdjnfbllkgiaa.mp
