/-
  Plain helpers of this seat's proofs: a list of words that grows by appends; its text. Conditions: none.
-/
import Derived.Test.YtcpglphhhmgjkaaDoorTxi
import Derived.Test.YtcpglphhhmgjkaaDoorCm4
import Derived.Test.YtcpglphhhmgjkaaDoorTxn
import Derived.Maps.AppendAt
import Derived.Lib.Join
namespace Go.Proofs.YtcpglphhhmgjkaaDoor.cm
open Go.ChangeShapes Go.WideShapes Go.ChangeAt Go.RowKit
open gen
open four (F4)
/-- A command as text, or nothing. -/
noncomputable def ctx (s : Sc) (l : List F4) : List UInt8 := if ok s l = true then txt s l else []
def sts (ls : List (List UInt8)) : List Value := ls.map (fun d => .string ⟨d.toArray⟩)
theorem sts_snoc (ls : List (List UInt8)) (x : List UInt8) : sts (ls ++ [x]) = sts ls ++ [.string ⟨x.toArray⟩] := by simp [sts]
theorem infoW : (Tryd.prog.info? 9).map (fun i => (i.zero, i.size, i.bytes)) = some (some (.string ⟨#[]⟩), 1, 16) := by kernel_rfl
/-- The words so far: what lay below N but their first block g is as it was in w0; their own block is g or a new one. -/
structure WI (w w0 : World) (N g : Nat) (ls : List (List UInt8)) (v : Value) (wr : World) : Prop where
  bw : Below w.heap.size w wr
  sz : N ≤ wr.heap.size
  old : ∀ k, k < N → k ≠ g → wr.heap[k]? = w0.heap[k]?
  own : wr.ownsRow g 9 1 v ls.length (sts ls)
  nb : ∀ k, v.ownBlock = some k → k = g ∨ N ≤ k
  live : v ≠ .slice none 0 0
theorem ownCells {w w' : World} {B : Nat} {e : TypeId} {size : Nat} {v : Value} {n : Nat} {xs : List Value} (h : w.ownsRow B e size v n xs) (hb : Below w.heap.size w w') : w'.ownsRow B e size v n xs := by
  obtain ⟨h1, h2⟩ := h
  refine ⟨h1, ?_⟩
  rcases h2 with h2 | ⟨g, cap, cur, hv, hg, hh, r⟩
  · exact Or.inl h2
  · exact Or.inr ⟨g, cap, cur, hv, hg, by rw [hb.block g (Array.getElem?_eq_some_iff.1 hh).1]; exact hh, r⟩
theorem WI.stay {w w0 wr wr' : World} {N g : Nat} {ls : List (List UInt8)} {v : Value} (h : WI w w0 N g ls v wr) (hb : Below wr.heap.size wr wr') : WI w w0 N g ls v wr' :=
  ⟨h.bw.trans (hb.mono h.bw.size), Nat.le_trans h.sz hb.size, fun k hk hg => (hb.block k (Nat.lt_of_lt_of_le hk h.sz)).trans (h.old k hk hg), ownCells h.own hb, h.nb, h.live⟩
theorem WI.app {w w0 wr w5 : World} {N g : Nat} {ls : List (List UInt8)} {v v' : Value} {x : List UInt8} (h : WI w w0 N g ls v wr) (hg : w.heap.size ≤ g) (hN : w.heap.size ≤ N) (hown : w5.ownsRow g 9 1 v' (ls.length + 1) (sts ls ++ [.string ⟨x.toArray⟩]))
    (hgrow : wr.grownBy w5 v.ownBlock) (hnil : v' ≠ .slice none 0 0) (hat : v'.ownBlock = v.ownBlock ∨ v'.ownBlock = some wr.heap.size) : WI w w0 N g (ls ++ [x]) v' w5 := by
  have lb : ∀ k, v.ownBlock = some k → w.heap.size ≤ k := fun k e => by rcases h.nb k e with q | q <;> omega
  refine ⟨h.bw.grown hgrow h.bw.size lb, Nat.le_trans h.sz hgrow.size, fun k hk hkg => ?_, ?_, fun k e => ?_, hnil⟩
  · rw [hgrow.block k (Nat.lt_of_lt_of_le hk h.sz) (fun e => by rcases h.nb k e.symm with q | q <;> omega)]
    exact h.old k hk hkg
  · rw [sts_snoc, List.length_append]; exact hown
  · rcases hat with q | q
    · rw [q] at e; exact h.nb k e
    · rw [q] at e; injection e with e; exact .inr (by rw [← e]; exact h.sz)
/-- The words of a command. -/
def nwd (s : Sc) (j : Nat) : List UInt8 := Lib.decDigits ((nums s).getD j 0).toNat
def itd (x : F4) : List UInt8 := Lib.decDigits x.1.toNat ++ 120 :: Lib.decDigits x.2.1.toNat
def wn (s : Sc) (j : Nat) : List (List UInt8) := [s.key.data.toList, nw s.k] ++ (List.range j).map (nwd s)
def wi (s : Sc) (l : List F4) (i : Nat) : List (List UInt8) := wn s (cnt s.k) ++ (List.range i).map (fun i => itd (l.getD i four.zz))
theorem wn_succ (s : Sc) (j : Nat) : wn s (j + 1) = wn s j ++ [nwd s j] := by unfold wn; rw [List.range_succ, List.map_append, List.append_assoc]; rfl
theorem wi_succ (s : Sc) (l : List F4) (i : Nat) : wi s l (i + 1) = wi s l i ++ [itd (l.getD i four.zz)] := by unfold wi; rw [List.range_succ, List.map_append, List.append_assoc]; rfl
theorem wn_len (s : Sc) (j : Nat) : (wn s j).length = 2 + j := by unfold wn; simp; omega
theorem wi_len (s : Sc) (l : List F4) (i : Nat) : (wi s l i).length = 2 + cnt s.k + i := by unfold wi; rw [List.length_append, wn_len]; simp
theorem tail_tn (s : Sc) : ∀ j, Lib.joinTail [32] ((List.range j).map (nwd s)) = tn s j
  | 0 => rfl
  | j + 1 => by
    have ih := tail_tn s j
    unfold Lib.joinTail at ih ⊢
    rw [List.range_succ, List.map_append, List.map_append, List.flatten_append, ih]
    show tn s j ++ _ = tn s j ++ sd _
    congr 1
    simp [sd, nwd]
theorem tail_ti (l : List F4) : ∀ i, Lib.joinTail [32] ((List.range i).map (fun i => itd (l.getD i four.zz))) = ti l i
  | 0 => rfl
  | i + 1 => by
    have ih := tail_ti l i
    unfold Lib.joinTail at ih ⊢
    rw [List.range_succ, List.map_append, List.map_append, List.flatten_append, ih]
    show ti l i ++ _ = ti l i ++ si _
    congr 1
    simp [si, itd]
/-- The words, joined, are the text. -/
theorem join_txt (s : Sc) (l : List F4) : Lib.join (wi s l l.length) [32] = txt s l := by
  unfold wi wn
  rw [show ([s.key.data.toList, nw s.k] : List (List UInt8)) ++ (List.range (cnt s.k)).map (nwd s) ++ (List.range l.length).map (fun i => itd (l.getD i four.zz)) = s.key.data.toList :: ([nw s.k] ++ (List.range (cnt s.k)).map (nwd s) ++ (List.range l.length).map (fun i => itd (l.getD i four.zz))) from rfl, Lib.join_cons]
  have app : ∀ a b : List (List UInt8), Lib.joinTail [32] (a ++ b) = Lib.joinTail [32] a ++ Lib.joinTail [32] b := fun a b => by unfold Lib.joinTail; rw [List.map_append, List.flatten_append]
  rw [app, app, tail_tn, tail_ti]
  unfold txt
  simp [Lib.joinTail]
end Go.Proofs.YtcpglphhhmgjkaaDoor.cm
