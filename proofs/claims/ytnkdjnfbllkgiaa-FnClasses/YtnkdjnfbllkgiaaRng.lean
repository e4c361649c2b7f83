/-
  Plain helpers of this seat's proofs: a range over the map of balances, whatever order it takes. Conditions: none.
-/
import Derived.Test.YtnkdjnfbllkgiaaAddP
import Derived.Maps.RangeRun
import Derived.Maps.RangeWalk
namespace Go.Proofs.Ytnkdjnfbllkgiaa.mp
open Go.ChangeShapes Go.WideShapes Go.ChangeAt Go.RowKit
open Go.ChangeMaps (setBlock)
open led (F5 z5 nn wn same at4 addE Apart addK addAll)
open five (Row At)
/-- An entry as five numbers. -/
def num : Option Value → Int
  | some (.int _ n) => n
  | _ => 0
def un (e : MapEntry) : F5 := match e.key with
  | .agg cs => (num cs[0]?, num cs[1]?, num cs[2]?, num cs[3]?, num (some e.val))
  | _ => z5
theorem un_of {e : MapEntry} {x : F5} (hk : e.key = kv x) (hv : e.val = .int .i64 (nn x)) : un e = x := by
  unfold un
  rw [hk, hv]
  rfl
theorem Ent.un {es : Array MapEntry} {clock : Nat} {L : List F5} (E : Ent es clock L) : es.toList.map un = L := by
  refine List.ext_getElem? fun j => ?_
  rw [List.getElem?_map]
  cases h : es.toList[j]? with
  | none =>
    have : L.length ≤ j := by have := List.getElem?_eq_none_iff.1 h; have := E.len; omega
    rw [List.getElem?_eq_none this]; rfl
  | some e =>
    obtain ⟨x, hx, hk, hv⟩ := E.get h
    rw [hx]
    show some (mp.un e) = some x
    rw [un_of hk hv]
theorem filt_push {e : MapEntry} {seen : Array Nat} (hs : seen.contains e.born = false) : ∀ {l : List MapEntry}, (l.map (·.born)).Nodup → e ∈ l → (l.filter fun x => (seen.push e.born).contains x.born).Perm ((l.filter fun x => seen.contains x.born) ++ [e])
  | [], _, h => by simp at h
  | a :: l, hn, h => by
    rw [List.map_cons, List.nodup_cons] at hn
    have pc : ∀ x : MapEntry, (seen.push e.born).contains x.born = (seen.contains x.born || x.born == e.born) := fun x => by
      rw [Array.contains_push]
    by_cases ha : a.born = e.born
    · have he : a = e := by
        rcases List.mem_cons.1 h with rfl | h
        · rfl
        · exact absurd (List.mem_map.2 ⟨e, h, ha.symm⟩) hn.1
      subst he
      have h1 : (l.filter fun x => (seen.push a.born).contains x.born) = l.filter fun x => seen.contains x.born := List.filter_congr fun x hx => by
        rw [pc]
        have : (x.born == a.born) = false := by
          simp only [beq_eq_false_iff_ne, ne_eq]
          exact fun q => hn.1 (List.mem_map.2 ⟨x, hx, q⟩)
        rw [this, Bool.or_false]
      rw [List.filter_cons_of_pos (by rw [pc]; simp), List.filter_cons_of_neg (by rw [hs]; decide), h1]
      exact (List.perm_append_singleton a _).symm
    · have hl : e ∈ l := by
        rcases List.mem_cons.1 h with rfl | h
        · exact absurd rfl ha
        · exact h
      have hb : (seen.push e.born).contains a.born = seen.contains a.born := by
        rw [pc]
        have : (a.born == e.born) = false := by simp [ha]
        rw [this, Bool.or_false]
      have ih := filt_push hs hn.2 hl
      cases hc : seen.contains a.born with
      | true =>
        rw [List.filter_cons_of_pos (by rw [hb]; exact hc), List.filter_cons_of_pos (by rw [hc])]
        exact ih.cons a
      | false =>
        rw [List.filter_cons_of_neg (by rw [hb, hc]; decide), List.filter_cons_of_neg (by rw [hc]; decide)]
        exact ih
/-- A range over the map under way: what has come out. -/
structure Rng (w : World) (b r : Nat) (L done : List F5) (es : Array MapEntry) (clock : Nat) (seen : Array Nat) : Prop where
  ent : Ent es clock L
  map : w.heap[b]? = some (.map es clock)
  it : w.heap[r]? = some (.mapIter (some b) clock seen clock)
  done : ∃ es' : List MapEntry, es'.Perm (es.toList.filter fun e => seen.contains e.born) ∧ es'.map un = done
def Ranges (w : World) (b r : Nat) (L done : List F5) : Prop := ∃ es clock seen, Rng w b r L done es clock seen
theorem Ranges.keep {w w' : World} {b r : Nat} {L done : List F5} (h : Ranges w b r L done) (e1 : w'.heap[b]? = w.heap[b]?) (e2 : w'.heap[r]? = w.heap[r]?) : Ranges w' b r L done := by
  obtain ⟨es, clock, seen, h⟩ := h
  exact ⟨es, clock, seen, h.ent, e1.trans h.map, e2.trans h.it, h.done⟩
theorem Ranges.lt {w : World} {b r : Nat} {L done : List F5} (h : Ranges w b r L done) : b < w.heap.size ∧ r < w.heap.size ∧ b ≠ r := by
  obtain ⟨es, clock, seen, h⟩ := h
  refine ⟨(Array.getElem?_eq_some_iff.1 h.map).1, (Array.getElem?_eq_some_iff.1 h.it).1, fun e => ?_⟩
  subst e
  have := h.map.symm.trans h.it
  injection this with this
  cases this
theorem rng_start {w : World} {b : Nat} {L : List F5} (h : Is w b L) : ∃ o, (Instr.range 68 (.map (some b))).run Try.prog w = .ok (.pointer (some ⟨w.heap.size, 0, none⟩)) (w.alloc o) ∧ Ranges (w.alloc o) b w.heap.size L [] := by
  obtain ⟨es, clock, hb, E⟩ := h
  have lt : b < w.heap.size := (Array.getElem?_eq_some_iff.1 hb).1
  refine ⟨_, run_range_map w _ _ _ b es clock Try.underlying68 hb, es, clock, #[], E, ((MapKept.heap_alloc w _).2 b lt).trans hb, (MapKept.heap_alloc w _).1, [], ?_, rfl⟩
  rw [List.filter_eq_nil_iff.2 (by simp)]
theorem Ranges.next {w : World} {b r : Nat} {L done : List F5} (h : Ranges w b r L done) :
    ((∀ ty, (Instr.next (.pointer (some ⟨r, 0, none⟩)) false ty).run Try.prog w = .ok (.tuple #[.bool false]) w) ∧ done.Perm L) ∨
    ∃ x w', x ∈ L ∧ (∀ ty, (Instr.next (.pointer (some ⟨r, 0, none⟩)) false ty).run Try.prog w = .ok (.tuple #[.bool true, kv x, .int .i64 (nn x)]) w') ∧ (Instr.entry (.pointer (some ⟨r, 0, none⟩))).run Try.prog w' = .ok (.tuple #[kv x, .int .i64 (nn x)]) w' ∧
      Ranges w' b r L (done ++ [x]) ∧ w'.rangeLeft b r < w.rangeLeft b r ∧ w'.heap.size = w.heap.size ∧ (∀ i, i ≠ r → w'.heap[i]? = w.heap[i]?) ∧ ∀ B, B ≤ r → Below B w w' := by
  obtain ⟨hlb, hlr, hne⟩ := h.lt
  obtain ⟨es, clock, seen, E, hb, hr, es', hp, hm⟩ := h
  rcases run_next_at (P := Try.prog) w 0 r b clock clock seen es clock hr hb E.born (Nat.le_refl _) with ⟨h0, hrun⟩ | ⟨e, he, w1, hal, hrun⟩
  · refine .inl ⟨fun _ => hrun, ?_⟩
    have : (es.toList.filter fun e => seen.contains e.born) = es.toList := List.filter_eq_self.2 (all_seen es seen h0)
    rw [this] at hp
    rw [← hm, ← E.un]
    exact hp.map _
  · obtain ⟨hem, hes⟩ := mem_left he
    obtain ⟨j, hj⟩ := List.getElem?_of_mem hem
    obtain ⟨x, hx, hk, hv⟩ := E.get hj
    have hs : w1.heap = w.heap := by rcases hal with rfl | rfl <;> rfl
    have hr1 : w1.heap[r]? = some (.mapIter (some b) clock seen clock) := by rw [hs]; exact hr
    have hset := MapKept.heap_set (o' := .mapIter (some b) clock (seen.push e.born) clock) hr1
    have hbs : (setBlock w1 r (.mapIter (some b) clock (seen.push e.born) clock)).heap[b]? = some (.map es clock) := by
      rw [show (setBlock w1 r (.mapIter (some b) clock (seen.push e.born) clock)).heap[b]? = w1.heap[b]? from hset.2 b hne, hs]; exact hb
    have hen := run_entry_at (P := Try.prog) (setBlock w1 r (.mapIter (some b) clock (seen.push e.born) clock)) r b clock seen es clock e hset.1 hbs hem E.nodup
    rw [hk, hv] at hrun hen
    refine .inr ⟨x, _, List.mem_of_getElem? hx, fun _ => hrun, hen, ⟨es, clock, seen.push e.born, E, hbs, hset.1, es' ++ [e], ?_, ?_⟩, ?_, ?_, fun i hi => ?_, fun B hB => ?_⟩
    · exact (hp.append_right _).trans (filt_push hes E.nodup hem).symm
    · rw [List.map_append, hm, List.map_cons, List.map_nil, un_of hk hv]
    · unfold World.rangeLeft
      rw [hbs, hb, hr, show (setBlock w1 r (.mapIter (some b) clock (seen.push e.born) clock)).heap[r]? = some (.mapIter (some b) clock (seen.push e.born) clock) from hset.1]
      exact left_shrinks es seen e he
    · simp [setBlock, hs]
    · rw [show (setBlock w1 r (.mapIter (some b) clock (seen.push e.born) clock)).heap[i]? = w1.heap[i]? from hset.2 i hi, hs]
    · have b1 : Below B w w1 := by rcases hal with rfl | rfl; exact Below.refl _ _; exact (Below.refl _ _).drew
      exact setBlock_below b1 hB
end Go.Proofs.Ytnkdjnfbllkgiaa.mp
