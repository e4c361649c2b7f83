/-
  Plain helpers of this seat's proofs: the map of balances as it lies in memory, and what a look-up, an entry and a store do to it. Conditions: none.
-/
import Derived.Test.YtnkdjnfbllkgiaaFive
import Derived.Test.YtnkdjnfbllkgiaaBal
import Derived.DeepKeys4
import Derived.WideKeyEntry
import Derived.Maps.RangeRun
namespace Go.Proofs.Ytnkdjnfbllkgiaa.mp
open Go.ChangeShapes Go.WideShapes Go.ChangeAt Go.RowKit
open Go.ChangeMaps (setBlock modify_eq_set)
open Go.WideMaps (KeyLaw)
open led (F5 z5 nn wn same at4 addE Apart)

theorem laidOut : laidOutB Try.prog = true := by kernel_rfl
theorem rowK : (71 : TypeId) < Try.prog.types.size := of_decide_eq_true (by kernel_rfl)
theorem law : KeyLaw Try.prog 71 := deep_law_laid laidOut (m := 3) (by omega) rowK (by kernel_rfl) (by rw [Try.underlying71])

/-- A place of a balance as a value. -/
def kv (x : F5) : Value := .agg #[.int .i64 x.1, .int .i64 x.2.1, .int .i64 x.2.2.1, .int .i64 x.2.2.2.1]
theorem kv_iff {x y : F5} : kv x = kv y ↔ same x y := by
  unfold kv same
  constructor
  · intro h
    injection h with h
    simp at h
    exact h
  · rintro ⟨h1, h2, h3, h4⟩
    rw [h1, h2, h3, h4]
/-- The four numbers of a place are 64-bit numbers. -/
structure W4 (x : F5) : Prop where
  h0 : (Lit.int .i64 x.1).wf = true
  h1 : (Lit.int .i64 x.2.1).wf = true
  h2 : (Lit.int .i64 x.2.2.1).wf = true
  h3 : (Lit.int .i64 x.2.2.2.1).wf = true
theorem W4.of_in {x : F5} (h : led.In x) : W4 x := by
  obtain ⟨a, b, c, d⟩ := h
  exact ⟨WalkArith.wf_i64 (by omega), WalkArith.wf_i64 (by omega), WalkArith.wf_i64 (by omega), WalkArith.wf_i64 (by omega)⟩
theorem W4.same {x y : F5} (h : W4 x) (e : same y x) : W4 y := by
  obtain ⟨e1, e2, e3, e4⟩ := e
  exact ⟨by rw [e1]; exact h.h0, by rw [e2]; exact h.h1, by rw [e3]; exact h.h2, by rw [e4]; exact h.h3⟩
theorem key_ok {x : F5} (h : W4 x) : ∃ l, keyOf Try.prog 71 (kv x) = some l := by
  have kt : Try.prog.keyType 71 = true := by kernel_rfl
  have c1 : Try.prog.cellsOf 71 = 4 := by kernel_rfl
  have c2 : Try.prog.cellsOf 25 = 3 := by kernel_rfl
  have c3 : Try.prog.cellsOf 2 = 1 := by kernel_rfl
  obtain ⟨n, hn⟩ : ∃ n, Try.prog.types.size = n + 3 := ⟨129, by kernel_rfl⟩
  have kI : ∀ m (y : Int), (Lit.int .i64 y).wf = true → Try.prog.keyLits (m + 1) 2 [.int .i64 y] = some [.int .i64 y] := fun m y hy => by
    unfold Program.keyLits
    simp only [Try.underlying2]
    exact if_pos ⟨trivial, hy⟩
  have kA : ∀ m, Try.prog.keyLits (m + 2) 25 [.int .i64 x.1, .int .i64 x.2.1, .int .i64 x.2.2.1] = some [.int .i64 x.1, .int .i64 x.2.1, .int .i64 x.2.2.1] := fun m => by
    unfold Program.keyLits
    simp only [Try.underlying25]
    refine (if_pos ⟨by rw [c2]; rfl, by decide +kernel⟩).trans ?_
    simp [c3, kI m _ h.h0, kI m _ h.h1, kI m _ h.h2]
  have kB : Try.prog.keyLits (Try.prog.types.size + 1) 71 [.int .i64 x.1, .int .i64 x.2.1, .int .i64 x.2.2.1, .int .i64 x.2.2.2.1] = some [.int .i64 x.1, .int .i64 x.2.1, .int .i64 x.2.2.1, .int .i64 x.2.2.2.1] := by
    rw [hn]
    unfold Program.keyLits
    simp only [Try.underlying71]
    refine (if_pos ⟨by rw [c1]; rfl, by decide +kernel⟩).trans ?_
    simp [c2, c3, kA (n + 1), kI (n + 2) _ h.h3]
  refine ⟨.string (keyBytes [.int .i64 x.1, .int .i64 x.2.1, .int .i64 x.2.2.1, .int .i64 x.2.2.2.1]), ?_⟩
  unfold keyOf kv
  rw [Try.underlying71]
  dsimp only
  have f1 : (Value.agg #[.int .i64 x.1, .int .i64 x.2.1, .int .i64 x.2.2.1, .int .i64 x.2.2.2.1]).formed Try.prog 71 = true := by
    simp [Value.formed, Try.underlying71, c1]
  have cl : (Value.agg #[.int .i64 x.1, .int .i64 x.2.1, .int .i64 x.2.2.1, .int .i64 x.2.2.2.1]).cells.toList = [.int .i64 x.1, .int .i64 x.2.1, .int .i64 x.2.2.1, .int .i64 x.2.2.2.1] := rfl
  rw [kt, f1, cl, kB, if_pos (by rfl)]
  rfl

/-- The entries of the map, in the order in which they came. -/
structure Ent (es : Array MapEntry) (clock : Nat) (L : List F5) : Prop where
  all : es.toList.map (fun e => (e.key, e.val)) = L.map fun x => (kv x, Value.int .i64 (nn x))
  born : ∀ e ∈ es.toList, e.born < clock
  nodup : (es.toList.map (·.born)).Nodup
  apart : Apart L
  wf : ∀ x ∈ L, W4 x
/-- Block b is a map with these balances. -/
def Is (w : World) (b : Nat) (L : List F5) : Prop := ∃ es clock, w.heap[b]? = some (.map es clock) ∧ Ent es clock L
theorem Is.keep {w w' : World} {b : Nat} {L : List F5} (h : Is w b L) (e : w'.heap[b]? = w.heap[b]?) : Is w' b L := by
  obtain ⟨es, clock, h1, h2⟩ := h
  exact ⟨es, clock, e.trans h1, h2⟩
theorem Is.lt {w : World} {b : Nat} {L : List F5} (h : Is w b L) : b < w.heap.size := by
  obtain ⟨es, clock, h1, _⟩ := h
  exact (Array.getElem?_eq_some_iff.1 h1).1
theorem Ent.get {es : Array MapEntry} {clock : Nat} {L : List F5} (E : Ent es clock L) {j : Nat} {e : MapEntry} (h : es.toList[j]? = some e) : ∃ x, L[j]? = some x ∧ e.key = kv x ∧ e.val = .int .i64 (nn x) := by
  have q : (es.toList.map (fun e => (e.key, e.val)))[j]? = (L.map fun x => (kv x, Value.int .i64 (nn x)))[j]? := by rw [E.all]
  rw [List.getElem?_map, List.getElem?_map, h] at q
  cases hx : L[j]? with
  | none => simp [hx] at q
  | some x =>
    simp [hx] at q
    exact ⟨x, rfl, q.1, q.2⟩
theorem Ent.has {es : Array MapEntry} {clock : Nat} {L : List F5} (E : Ent es clock L) {j : Nat} {x : F5} (h : L[j]? = some x) : ∃ e, es.toList[j]? = some e ∧ e.key = kv x ∧ e.val = .int .i64 (nn x) := by
  have q : (es.toList.map (fun e => (e.key, e.val)))[j]? = (L.map fun x => (kv x, Value.int .i64 (nn x)))[j]? := by rw [E.all]
  rw [List.getElem?_map, List.getElem?_map, h] at q
  cases hx : es.toList[j]? with
  | none => simp [hx] at q
  | some e =>
    simp [hx] at q
    exact ⟨e, rfl, q.1, q.2⟩
theorem Ent.len {es : Array MapEntry} {clock : Nat} {L : List F5} (E : Ent es clock L) : es.toList.length = L.length := by
  have := congrArg List.length E.all
  simpa using this
theorem Ent.keys {es : Array MapEntry} {clock : Nat} {L : List F5} (E : Ent es clock L) : ∀ e ∈ es.toList, ∃ l, keyOf Try.prog 71 e.key = some l := fun e he => by
  obtain ⟨j, hj⟩ := List.getElem?_of_mem he
  obtain ⟨x, hx, hk, _⟩ := E.get hj
  rw [hk]
  exact key_ok (E.wf x (List.mem_of_getElem? hx))
theorem Ent.empty : Ent #[] 0 [] := ⟨rfl, by simp, by simp, List.Pairwise.nil, by simp⟩
theorem wn_self (x : F5) : wn x (nn x) = x := rfl
/-- What the search for a key finds. -/
theorem Ent.find {es : Array MapEntry} {clock : Nat} {L : List F5} (E : Ent es clock L) {p : F5} (hp : W4 p) (w : World) :
    ((Instr.findKey 71 (kv p) es.toList).run Try.prog w = .ok none w ∧ ∀ x ∈ L, ¬ same x p) ∨
    ∃ j e x, (Instr.findKey 71 (kv p) es.toList).run Try.prog w = .ok (some (j, .int .i64 (nn x))) w ∧ es.toList[j]? = some e ∧ e.key = kv p ∧ L[j]? = some x ∧ same x p := by
  obtain ⟨l, hl⟩ := key_ok hp
  rcases law.find w hl es.toList E.keys with ⟨h1, h2⟩ | ⟨j, e, h1, h2, h3⟩
  · refine .inl ⟨h1, fun x hx hs => ?_⟩
    obtain ⟨j, hj⟩ := List.getElem?_of_mem hx
    obtain ⟨e, he, hk, _⟩ := E.has hj
    exact h2 e (List.mem_of_getElem? he) (hk.trans (kv_iff.2 hs))
  · obtain ⟨x, hx, hk, hv⟩ := E.get h2
    exact .inr ⟨j, e, x, by rw [h1, hv], h2, h3, hx, kv_iff.1 (hk.symm.trans h3)⟩
theorem zeroE (w : World) : (zeroValue 2).run Try.prog w = .ok (.int .i64 0) w := by kernel_rfl
/-- m[k]. -/
theorem look {w : World} {b : Nat} {L : List F5} {p : F5} (h : Is w b L) (hp : W4 p) : (Instr.lookup 68 (.map (some b)) (kv p) false).run Try.prog w = .ok (.int .i64 (at4 L p)) w := by
  obtain ⟨es, clock, hb, E⟩ := h
  obtain ⟨l, hl⟩ := key_ok hp
  rcases E.find hp w with ⟨h1, h2⟩ | ⟨j, e, x, h1, h2, h3, h4, h5⟩
  · rw [led.at4_miss h2]
    simp [Instr.lookup, run_underlying Try.underlying68, MapKept.run_getObj_map hb, law.check w _ hl, h1, Result.andThen]
  · rw [led.at4_hit E.apart h4 h5]
    simp [Instr.lookup, run_underlying Try.underlying68, MapKept.run_getObj_map hb, law.check w _ hl, h1, Result.andThen]
theorem Ent.push {es : Array MapEntry} {clock : Nat} {L : List F5} (E : Ent es clock L) {p : F5} (hp : W4 p) (hm : ∀ x ∈ L, ¬ same x p) (n : Int) : Ent (es.push ⟨kv p, .int .i64 n, clock⟩) (clock + 1) (L ++ [wn p n]) := by
  refine ⟨?_, fun e he => ?_, ?_, ?_, fun x hx => ?_⟩
  · simp [E.all]
    exact ⟨rfl, rfl⟩
  · simp only [Array.toList_push, List.mem_append, List.mem_singleton] at he
    rcases he with he | rfl
    · have := E.born e he; omega
    · exact Nat.lt_succ_self _
  · simp only [Array.toList_push, List.map_append, List.map_cons, List.map_nil]
    refine List.nodup_append.2 ⟨E.nodup, by simp, fun a ha c hc e1 => ?_⟩
    simp only [List.mem_singleton] at hc
    obtain ⟨x, hx, rfl⟩ := List.mem_map.1 ha
    have := E.born x hx
    omega
  · refine List.pairwise_append.2 ⟨E.apart, List.pairwise_singleton _ _, fun x hx y hy => ?_⟩
    simp at hy
    subst hy
    exact fun q => hm x hx (q.trans (led.same_wn p n))
  · rcases List.mem_append.1 hx with hx | hx
    · exact E.wf x hx
    · simp at hx
      subst hx
      exact hp.same (led.same_wn p n)
theorem Ent.set {es : Array MapEntry} {clock : Nat} {L : List F5} (E : Ent es clock L) {p x : F5} {j : Nat} {e : MapEntry} (he : es.toList[j]? = some e) (hx : L[j]? = some x) (hs : same x p) (n : Int) :
    Ent (es.modify j fun e' => { e' with key := kv p, val := .int .i64 n }) clock (L.set j (wn x n)) := by
  have hl : (es.modify j fun e' => { e' with key := kv p, val := .int .i64 n }).toList = es.toList.set j { e with key := kv p, val := .int .i64 n } := by
    rw [Array.toList_modify, modify_eq_set _ _ _ _ he]
  have hj : j < es.toList.length := (List.getElem?_eq_some_iff.1 he).1
  have hjL : j < L.length := (List.getElem?_eq_some_iff.1 hx).1
  have hb : (es.toList.set j { e with key := kv p, val := .int .i64 n }).map (·.born) = es.toList.map (·.born) := by
    rw [List.map_set]
    exact WideElems.set_self _ _ _ (by rw [List.getElem?_map, he]; rfl)
  refine ⟨?_, fun e' h' => ?_, ?_, ?_, fun y hy => ?_⟩
  · rw [hl, List.map_set, List.map_set, E.all]
    have q : kv (wn x n) = kv p := kv_iff.2 ((led.same_wn x n).trans hs)
    rw [q]; rfl
  · rw [hl] at h'
    have m1 : e'.born ∈ (es.toList.set j { e with key := kv p, val := .int .i64 n }).map (·.born) := List.mem_map.2 ⟨e', h', rfl⟩
    rw [hb] at m1
    obtain ⟨y, hy, ey⟩ := List.mem_map.1 m1
    rw [← ey]
    exact E.born y hy
  · rw [hl, hb]; exact E.nodup
  · rw [← show addE L (wn p (n - nn x)) = L.set j (wn x n) from by
      rw [led.addE_hit E.apart hx (hs.trans (led.same_wn p _).symm), led.nn_wn, show nn x + (n - nn x) = n by omega]]
    exact led.addE_apart E.apart
  · rcases List.mem_or_eq_of_mem_set hy with hy | rfl
    · exact E.wf y hy
    · exact (E.wf x (List.mem_of_getElem? hx)).same (led.same_wn x n)
/-- m[k] = the balance there plus n. -/
theorem store {w : World} {b : Nat} {L : List F5} {p : F5} (h : Is w b L) (hp : W4 p) (n : Int) :
    ∃ w', (Instr.mapUpdate 68 (.map (some b)) (kv p) (.int .i64 (at4 L p + n))).run Try.prog w = .ok () w' ∧ Is w' b (addE L (wn p n)) ∧ w'.heap.size = w.heap.size ∧ ∃ o, w' = setBlock w b o := by
  obtain ⟨es, clock, hb, E⟩ := h
  obtain ⟨l, hl⟩ := key_ok hp
  rcases E.find hp w with ⟨h1, h2⟩ | ⟨j, e, x, h1, h2, h3, h4, h5⟩
  · refine ⟨setBlock w b (.map (es.push ⟨kv p, .int .i64 (0 + n), clock⟩) (clock + 1)), ?_, ⟨_, _, (MapKept.heap_set hb).1, ?_⟩, ?_, _, rfl⟩
    · rw [led.at4_miss h2]
      simp [Instr.mapUpdate, run_underlying Try.underlying68, MapKept.run_getObj_map hb, law.check w false hl, h1, MapKept.run_setObj_map _ hb, Result.andThen, setBlock]
    · have := E.push hp h2 (0 + n)
      rw [Int.zero_add] at this ⊢
      rw [led.addE_miss (fun x hx q => h2 x hx (q.trans (led.same_wn p n)))]
      exact this
    · simp [setBlock]
  · have hj : es[j]? = some e := by simpa using h2
    refine ⟨setBlock w b (.map (es.modify j fun e' => { e' with key := kv p, val := .int .i64 (nn x + n) }) clock), ?_, ⟨_, _, (MapKept.heap_set hb).1, ?_⟩, ?_, _, rfl⟩
    · rw [led.at4_hit E.apart h4 h5]
      simp [Instr.mapUpdate, run_underlying Try.underlying68, MapKept.run_getObj_map hb, law.check w false hl, h1, hj, h3, law.stays w hl, MapKept.run_setObj_map _ hb, Result.andThen, setBlock]
    · have := E.set h2 h4 h5 (nn x + n)
      rw [led.addE_hit E.apart h4 (h5.trans (led.same_wn p n).symm), led.nn_wn]
      exact this
    · simp [setBlock]
theorem at4_add0 : ∀ (L : List F5) (p : F5), at4 (addE L (wn p 0)) p = at4 L p
  | [], p => by
    show (if same (wn p 0) p then nn (wn p 0) else at4 [] p) = 0
    rw [if_pos (led.same_wn p 0)]; rfl
  | x :: l, p => by
    unfold addE
    by_cases h : same x p
    · rw [if_pos (h.trans (led.same_wn p 0).symm)]
      show (if same (wn x (nn x + nn (wn p 0))) p then nn (wn x (nn x + nn (wn p 0))) else _) = _
      rw [if_pos ((led.same_wn x _).trans h), led.nn_wn, led.nn_wn, at4, if_pos h]; omega
    · rw [if_neg (fun q => h (q.trans (led.same_wn p 0))), at4, at4, if_neg h, if_neg h, at4_add0 l p]
/-- The place of a balance is made; what is stored there then. -/
theorem entry {w : World} {b : Nat} {L : List F5} {p : F5} (h : Is w b L) (hp : W4 p) :
    ∃ (st : Int) (w1 : World), (Instr.mapEntry 68 (.map (some b)) (kv p)).run Try.prog w = .ok (.tuple #[.int .i64 (at4 L p), .int .i64 st]) w1 ∧ Is w1 b (addE L (wn p 0)) ∧ (∃ o, w1 = setBlock w b o) ∧
      ∀ n : Int, ∃ w2, (Instr.entryStore 68 (.map (some b)) (.int .i64 st) (.int .i64 (at4 L p + n))).run Try.prog w1 = .ok () w2 ∧ Is w2 b (addE L (wn p n)) ∧ ∃ o, w2 = setBlock w b o := by
  obtain ⟨es, clock, hb, E⟩ := h
  obtain ⟨l, hl⟩ := key_ok hp
  rcases E.find hp w with ⟨h1, h2⟩ | ⟨j, e, x, h1, h2, h3, h4, h5⟩
  · have hb1 := (MapKept.heap_set (o' := .map (es.push ⟨kv p, .int .i64 0, clock⟩) (clock + 1)) hb).1
    refine ⟨clock, setBlock w b (.map (es.push ⟨kv p, .int .i64 0, clock⟩) (clock + 1)), ?_, ⟨_, _, hb1, ?_⟩, ⟨_, rfl⟩, fun n => ⟨setBlock w b (.map (es.push ⟨kv p, .int .i64 (0 + n), clock⟩) (clock + 1)), ?_, ⟨_, _, (MapKept.heap_set hb).1, ?_⟩, _, rfl⟩⟩
    · rw [led.at4_miss h2]
      simp [Instr.mapEntry, run_underlying Try.underlying68, MapKept.run_getObj_map hb, law.check w false hl, h1, MapKept.run_setObj_map _ hb, Result.andThen, setBlock, goInt]
    · have := E.push hp h2 0
      rw [led.addE_miss (fun x hx q => h2 x hx (q.trans (led.same_wn p 0)))]
      exact this
    · have hidx : (es.push ⟨kv p, .int .i64 0, clock⟩).findIdx? (fun e => ((e.born : Nat) : Int) == ((clock : Nat) : Int)) = some es.size := by
        rw [WideElems.findIdx_arr]
        have E1 := E.push hp h2 0
        exact WideElems.findIdx_born (l := (es.push ⟨kv p, .int .i64 0, clock⟩).toList) (j := es.size) (e0 := ⟨kv p, .int .i64 0, clock⟩) E1.nodup (by simp)
      have hmod : (es.push ⟨kv p, .int .i64 0, clock⟩).modify es.size (fun e => { e with val := .int .i64 (0 + n) }) = es.push ⟨kv p, .int .i64 (0 + n), clock⟩ := by
        apply Array.ext'
        rw [Array.toList_modify, Array.toList_push, Array.toList_push, ← Array.length_toList, WideElems.modify_last]
      rw [led.at4_miss h2]
      have hb1' : (setBlock w b (.map (es.push ⟨kv p, .int .i64 0, clock⟩) (clock + 1))).heap[b]? = some (.map (es.push ⟨kv p, .int .i64 0, clock⟩) (clock + 1)) := hb1
      have hlt : b < w.heap.size := (Array.getElem?_eq_some_iff.1 hb).1
      unfold Instr.entryStore
      simp only [Sem.run_bind, MapKept.run_getObj_map hb1', Result.andThen, asInt, asIntOf, Sem.run_pure, hidx, hmod, MapKept.run_setObj_map _ hb1']
      simp [setBlock]
    · have := E.push hp h2 (0 + n)
      rw [Int.zero_add] at this ⊢
      rw [led.addE_miss (fun x hx q => h2 x hx (q.trans (led.same_wn p n)))]
      exact this
  · have hj : es[j]? = some e := by simpa using h2
    have hsame : es.modify j (fun e => { e with key := kv p }) = es := by
      apply Array.ext'
      rw [Array.toList_modify, modify_eq_set _ _ _ _ h2]
      have : ({ e with key := kv p } : MapEntry) = e := by rw [← h3]
      rw [this]
      exact WideElems.set_self _ _ _ h2
    have hb1' : (setBlock w b (.map es clock)).heap[b]? = some (.map es clock) := (MapKept.heap_set (o' := .map es clock) hb).1
    have hx0 : addE L (wn p 0) = L := by
      rw [led.addE_hit E.apart h4 (h5.trans (led.same_wn p 0).symm), led.nn_wn, Int.add_zero, wn_self]
      exact WideElems.set_self _ _ _ h4
    refine ⟨e.born, setBlock w b (.map es clock), ?_, ⟨_, _, hb1', by rw [hx0]; exact E⟩, ⟨_, rfl⟩, fun n => ⟨setBlock w b (.map (es.modify j fun e' => { e' with key := kv p, val := .int .i64 (nn x + n) }) clock), ?_, ⟨_, _, (MapKept.heap_set hb).1, ?_⟩, _, rfl⟩⟩
    · rw [led.at4_hit E.apart h4 h5]
      simp [Instr.mapEntry, run_underlying Try.underlying68, MapKept.run_getObj_map hb, law.check w false hl, h1, hj, h3, law.stays w hl, hsame, MapKept.run_setObj_map _ hb, Result.andThen, setBlock, goInt]
    · have hidx : es.findIdx? (fun e' => ((e'.born : Nat) : Int) == ((e.born : Nat) : Int)) = some j := by
        rw [WideElems.findIdx_arr]
        exact WideElems.findIdx_born E.nodup h2
      have hmod : es.modify j (fun e => { e with val := .int .i64 (nn x + n) }) = es.modify j (fun e' => { e' with key := kv p, val := .int .i64 (nn x + n) }) := by
        apply Array.ext'
        rw [Array.toList_modify, Array.toList_modify, modify_eq_set _ _ _ _ h2, modify_eq_set _ _ _ _ h2, ← h3]
      rw [led.at4_hit E.apart h4 h5]
      unfold Instr.entryStore
      simp only [Sem.run_bind, MapKept.run_getObj_map hb1', Result.andThen, asInt, asIntOf, Sem.run_pure, hidx, hmod, MapKept.run_setObj_map _ hb1']
      simp [setBlock]
    · have := E.set h2 h4 h5 (nn x + n)
      rw [led.addE_hit E.apart h4 (h5.trans (led.same_wn p n).symm), led.nn_wn]
      exact this
end Go.Proofs.Ytnkdjnfbllkgiaa.mp
