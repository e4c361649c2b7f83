/-
  Plain helpers of this seat's proofs: writing into one Part of a slice. Conditions: none.
-/
import Derived.Test.YtchpjojndkkmeaaDoorFl7
namespace Go.Proofs.YtchpjojndkkmeaaDoor.seven
open Go.ChangeShapes Go.WideShapes Go.ChangeAt Go.RowKit
open gen
theorem getD_set_same {l : List F7} {k : Nat} (h : k < l.length) (x : F7) : (l.set k x).getD k zz = x := by
  rw [List.getD_eq_getElem?_getD, List.getElem?_set_self h]; rfl
theorem getD_set_other {l : List F7} {k i : Nat} (h : i ≠ k) (x : F7) : (l.set k x).getD i zz = l.getD i zz := by
  rw [List.getD_eq_getElem?_getD, List.getElem?_set_ne (Ne.symm h), List.getD_eq_getElem?_getD]
theorem rowSet0 {w : World} {a : Option Addr} {cap g k : Nat} {l : List F7} {x : F7} (r : Row w a cap g l) (hk : k < l.length) (hx : l.getD k zz = x) (v : Int) : Row (w.setCell ⟨g, k * 7, none⟩ (.int .i64 v)) a cap g (l.set k (v, x.2.1, x.2.2.1, x.2.2.2.1, x.2.2.2.2.1, x.2.2.2.2.2.1, x.2.2.2.2.2.2)) := by
  refine ⟨fun h => r.addr (by simpa using h), by simpa using r.room, fun i hi => ?_, fun h i => by rw [World.frozen?_setCell]; exact r.free (by simpa using h) i⟩
  simp at hi
  by_cases e : i = k
  · subst e
    rw [getD_set_same hi]
    have h0 := r.cells i hi
    rw [hx] at h0
    constructor
    · exact World.cell?_setCell_same' w ⟨g, i * 7, none⟩ (.int .i64 v) (by rw [h0.c0]; rfl)
    · exact (World.cell?_setCell_other w ⟨g, i * 7, none⟩ ⟨g, i * 7 + 1, none⟩ (.int .i64 v) (fun q => by injection q with q1 q2; omega)).trans h0.c1
    · exact (World.cell?_setCell_other w ⟨g, i * 7, none⟩ ⟨g, i * 7 + 2, none⟩ (.int .i64 v) (fun q => by injection q with q1 q2; omega)).trans h0.c2
    · exact (World.cell?_setCell_other w ⟨g, i * 7, none⟩ ⟨g, i * 7 + 3, none⟩ (.int .i64 v) (fun q => by injection q with q1 q2; omega)).trans h0.c3
    · exact (World.cell?_setCell_other w ⟨g, i * 7, none⟩ ⟨g, i * 7 + 4, none⟩ (.int .i64 v) (fun q => by injection q with q1 q2; omega)).trans h0.c4
    · exact (World.cell?_setCell_other w ⟨g, i * 7, none⟩ ⟨g, i * 7 + 5, none⟩ (.int .i64 v) (fun q => by injection q with q1 q2; omega)).trans h0.c5
    · exact (World.cell?_setCell_other w ⟨g, i * 7, none⟩ ⟨g, i * 7 + 6, none⟩ (.int .i64 v) (fun q => by injection q with q1 q2; omega)).trans h0.c6
  · rw [getD_set_other e]
    have h1 := r.cells i hi
    constructor
    · exact (World.cell?_setCell_other w ⟨g, k * 7, none⟩ ⟨g, i * 7, none⟩ (.int .i64 v) (fun q => by injection q with q1 q2; omega)).trans h1.c0
    · exact (World.cell?_setCell_other w ⟨g, k * 7, none⟩ ⟨g, i * 7 + 1, none⟩ (.int .i64 v) (fun q => by injection q with q1 q2; omega)).trans h1.c1
    · exact (World.cell?_setCell_other w ⟨g, k * 7, none⟩ ⟨g, i * 7 + 2, none⟩ (.int .i64 v) (fun q => by injection q with q1 q2; omega)).trans h1.c2
    · exact (World.cell?_setCell_other w ⟨g, k * 7, none⟩ ⟨g, i * 7 + 3, none⟩ (.int .i64 v) (fun q => by injection q with q1 q2; omega)).trans h1.c3
    · exact (World.cell?_setCell_other w ⟨g, k * 7, none⟩ ⟨g, i * 7 + 4, none⟩ (.int .i64 v) (fun q => by injection q with q1 q2; omega)).trans h1.c4
    · exact (World.cell?_setCell_other w ⟨g, k * 7, none⟩ ⟨g, i * 7 + 5, none⟩ (.int .i64 v) (fun q => by injection q with q1 q2; omega)).trans h1.c5
    · exact (World.cell?_setCell_other w ⟨g, k * 7, none⟩ ⟨g, i * 7 + 6, none⟩ (.int .i64 v) (fun q => by injection q with q1 q2; omega)).trans h1.c6
theorem rowSet1 {w : World} {a : Option Addr} {cap g k : Nat} {l : List F7} {x : F7} (r : Row w a cap g l) (hk : k < l.length) (hx : l.getD k zz = x) (v : Int) : Row (w.setCell ⟨g, k * 7 + 1, none⟩ (.int .i64 v)) a cap g (l.set k (x.1, v, x.2.2.1, x.2.2.2.1, x.2.2.2.2.1, x.2.2.2.2.2.1, x.2.2.2.2.2.2)) := by
  refine ⟨fun h => r.addr (by simpa using h), by simpa using r.room, fun i hi => ?_, fun h i => by rw [World.frozen?_setCell]; exact r.free (by simpa using h) i⟩
  simp at hi
  by_cases e : i = k
  · subst e
    rw [getD_set_same hi]
    have h0 := r.cells i hi
    rw [hx] at h0
    constructor
    · exact (World.cell?_setCell_other w ⟨g, i * 7 + 1, none⟩ ⟨g, i * 7, none⟩ (.int .i64 v) (fun q => by injection q with q1 q2; omega)).trans h0.c0
    · exact World.cell?_setCell_same' w ⟨g, i * 7 + 1, none⟩ (.int .i64 v) (by rw [h0.c1]; rfl)
    · exact (World.cell?_setCell_other w ⟨g, i * 7 + 1, none⟩ ⟨g, i * 7 + 2, none⟩ (.int .i64 v) (fun q => by injection q with q1 q2; omega)).trans h0.c2
    · exact (World.cell?_setCell_other w ⟨g, i * 7 + 1, none⟩ ⟨g, i * 7 + 3, none⟩ (.int .i64 v) (fun q => by injection q with q1 q2; omega)).trans h0.c3
    · exact (World.cell?_setCell_other w ⟨g, i * 7 + 1, none⟩ ⟨g, i * 7 + 4, none⟩ (.int .i64 v) (fun q => by injection q with q1 q2; omega)).trans h0.c4
    · exact (World.cell?_setCell_other w ⟨g, i * 7 + 1, none⟩ ⟨g, i * 7 + 5, none⟩ (.int .i64 v) (fun q => by injection q with q1 q2; omega)).trans h0.c5
    · exact (World.cell?_setCell_other w ⟨g, i * 7 + 1, none⟩ ⟨g, i * 7 + 6, none⟩ (.int .i64 v) (fun q => by injection q with q1 q2; omega)).trans h0.c6
  · rw [getD_set_other e]
    have h1 := r.cells i hi
    constructor
    · exact (World.cell?_setCell_other w ⟨g, k * 7 + 1, none⟩ ⟨g, i * 7, none⟩ (.int .i64 v) (fun q => by injection q with q1 q2; omega)).trans h1.c0
    · exact (World.cell?_setCell_other w ⟨g, k * 7 + 1, none⟩ ⟨g, i * 7 + 1, none⟩ (.int .i64 v) (fun q => by injection q with q1 q2; omega)).trans h1.c1
    · exact (World.cell?_setCell_other w ⟨g, k * 7 + 1, none⟩ ⟨g, i * 7 + 2, none⟩ (.int .i64 v) (fun q => by injection q with q1 q2; omega)).trans h1.c2
    · exact (World.cell?_setCell_other w ⟨g, k * 7 + 1, none⟩ ⟨g, i * 7 + 3, none⟩ (.int .i64 v) (fun q => by injection q with q1 q2; omega)).trans h1.c3
    · exact (World.cell?_setCell_other w ⟨g, k * 7 + 1, none⟩ ⟨g, i * 7 + 4, none⟩ (.int .i64 v) (fun q => by injection q with q1 q2; omega)).trans h1.c4
    · exact (World.cell?_setCell_other w ⟨g, k * 7 + 1, none⟩ ⟨g, i * 7 + 5, none⟩ (.int .i64 v) (fun q => by injection q with q1 q2; omega)).trans h1.c5
    · exact (World.cell?_setCell_other w ⟨g, k * 7 + 1, none⟩ ⟨g, i * 7 + 6, none⟩ (.int .i64 v) (fun q => by injection q with q1 q2; omega)).trans h1.c6
theorem rowSet2 {w : World} {a : Option Addr} {cap g k : Nat} {l : List F7} {x : F7} (r : Row w a cap g l) (hk : k < l.length) (hx : l.getD k zz = x) (v : Int) : Row (w.setCell ⟨g, k * 7 + 2, none⟩ (.int .i64 v)) a cap g (l.set k (x.1, x.2.1, v, x.2.2.2.1, x.2.2.2.2.1, x.2.2.2.2.2.1, x.2.2.2.2.2.2)) := by
  refine ⟨fun h => r.addr (by simpa using h), by simpa using r.room, fun i hi => ?_, fun h i => by rw [World.frozen?_setCell]; exact r.free (by simpa using h) i⟩
  simp at hi
  by_cases e : i = k
  · subst e
    rw [getD_set_same hi]
    have h0 := r.cells i hi
    rw [hx] at h0
    constructor
    · exact (World.cell?_setCell_other w ⟨g, i * 7 + 2, none⟩ ⟨g, i * 7, none⟩ (.int .i64 v) (fun q => by injection q with q1 q2; omega)).trans h0.c0
    · exact (World.cell?_setCell_other w ⟨g, i * 7 + 2, none⟩ ⟨g, i * 7 + 1, none⟩ (.int .i64 v) (fun q => by injection q with q1 q2; omega)).trans h0.c1
    · exact World.cell?_setCell_same' w ⟨g, i * 7 + 2, none⟩ (.int .i64 v) (by rw [h0.c2]; rfl)
    · exact (World.cell?_setCell_other w ⟨g, i * 7 + 2, none⟩ ⟨g, i * 7 + 3, none⟩ (.int .i64 v) (fun q => by injection q with q1 q2; omega)).trans h0.c3
    · exact (World.cell?_setCell_other w ⟨g, i * 7 + 2, none⟩ ⟨g, i * 7 + 4, none⟩ (.int .i64 v) (fun q => by injection q with q1 q2; omega)).trans h0.c4
    · exact (World.cell?_setCell_other w ⟨g, i * 7 + 2, none⟩ ⟨g, i * 7 + 5, none⟩ (.int .i64 v) (fun q => by injection q with q1 q2; omega)).trans h0.c5
    · exact (World.cell?_setCell_other w ⟨g, i * 7 + 2, none⟩ ⟨g, i * 7 + 6, none⟩ (.int .i64 v) (fun q => by injection q with q1 q2; omega)).trans h0.c6
  · rw [getD_set_other e]
    have h1 := r.cells i hi
    constructor
    · exact (World.cell?_setCell_other w ⟨g, k * 7 + 2, none⟩ ⟨g, i * 7, none⟩ (.int .i64 v) (fun q => by injection q with q1 q2; omega)).trans h1.c0
    · exact (World.cell?_setCell_other w ⟨g, k * 7 + 2, none⟩ ⟨g, i * 7 + 1, none⟩ (.int .i64 v) (fun q => by injection q with q1 q2; omega)).trans h1.c1
    · exact (World.cell?_setCell_other w ⟨g, k * 7 + 2, none⟩ ⟨g, i * 7 + 2, none⟩ (.int .i64 v) (fun q => by injection q with q1 q2; omega)).trans h1.c2
    · exact (World.cell?_setCell_other w ⟨g, k * 7 + 2, none⟩ ⟨g, i * 7 + 3, none⟩ (.int .i64 v) (fun q => by injection q with q1 q2; omega)).trans h1.c3
    · exact (World.cell?_setCell_other w ⟨g, k * 7 + 2, none⟩ ⟨g, i * 7 + 4, none⟩ (.int .i64 v) (fun q => by injection q with q1 q2; omega)).trans h1.c4
    · exact (World.cell?_setCell_other w ⟨g, k * 7 + 2, none⟩ ⟨g, i * 7 + 5, none⟩ (.int .i64 v) (fun q => by injection q with q1 q2; omega)).trans h1.c5
    · exact (World.cell?_setCell_other w ⟨g, k * 7 + 2, none⟩ ⟨g, i * 7 + 6, none⟩ (.int .i64 v) (fun q => by injection q with q1 q2; omega)).trans h1.c6
theorem rowSet3 {w : World} {a : Option Addr} {cap g k : Nat} {l : List F7} {x : F7} (r : Row w a cap g l) (hk : k < l.length) (hx : l.getD k zz = x) (v : Int) : Row (w.setCell ⟨g, k * 7 + 3, none⟩ (.int .i64 v)) a cap g (l.set k (x.1, x.2.1, x.2.2.1, v, x.2.2.2.2.1, x.2.2.2.2.2.1, x.2.2.2.2.2.2)) := by
  refine ⟨fun h => r.addr (by simpa using h), by simpa using r.room, fun i hi => ?_, fun h i => by rw [World.frozen?_setCell]; exact r.free (by simpa using h) i⟩
  simp at hi
  by_cases e : i = k
  · subst e
    rw [getD_set_same hi]
    have h0 := r.cells i hi
    rw [hx] at h0
    constructor
    · exact (World.cell?_setCell_other w ⟨g, i * 7 + 3, none⟩ ⟨g, i * 7, none⟩ (.int .i64 v) (fun q => by injection q with q1 q2; omega)).trans h0.c0
    · exact (World.cell?_setCell_other w ⟨g, i * 7 + 3, none⟩ ⟨g, i * 7 + 1, none⟩ (.int .i64 v) (fun q => by injection q with q1 q2; omega)).trans h0.c1
    · exact (World.cell?_setCell_other w ⟨g, i * 7 + 3, none⟩ ⟨g, i * 7 + 2, none⟩ (.int .i64 v) (fun q => by injection q with q1 q2; omega)).trans h0.c2
    · exact World.cell?_setCell_same' w ⟨g, i * 7 + 3, none⟩ (.int .i64 v) (by rw [h0.c3]; rfl)
    · exact (World.cell?_setCell_other w ⟨g, i * 7 + 3, none⟩ ⟨g, i * 7 + 4, none⟩ (.int .i64 v) (fun q => by injection q with q1 q2; omega)).trans h0.c4
    · exact (World.cell?_setCell_other w ⟨g, i * 7 + 3, none⟩ ⟨g, i * 7 + 5, none⟩ (.int .i64 v) (fun q => by injection q with q1 q2; omega)).trans h0.c5
    · exact (World.cell?_setCell_other w ⟨g, i * 7 + 3, none⟩ ⟨g, i * 7 + 6, none⟩ (.int .i64 v) (fun q => by injection q with q1 q2; omega)).trans h0.c6
  · rw [getD_set_other e]
    have h1 := r.cells i hi
    constructor
    · exact (World.cell?_setCell_other w ⟨g, k * 7 + 3, none⟩ ⟨g, i * 7, none⟩ (.int .i64 v) (fun q => by injection q with q1 q2; omega)).trans h1.c0
    · exact (World.cell?_setCell_other w ⟨g, k * 7 + 3, none⟩ ⟨g, i * 7 + 1, none⟩ (.int .i64 v) (fun q => by injection q with q1 q2; omega)).trans h1.c1
    · exact (World.cell?_setCell_other w ⟨g, k * 7 + 3, none⟩ ⟨g, i * 7 + 2, none⟩ (.int .i64 v) (fun q => by injection q with q1 q2; omega)).trans h1.c2
    · exact (World.cell?_setCell_other w ⟨g, k * 7 + 3, none⟩ ⟨g, i * 7 + 3, none⟩ (.int .i64 v) (fun q => by injection q with q1 q2; omega)).trans h1.c3
    · exact (World.cell?_setCell_other w ⟨g, k * 7 + 3, none⟩ ⟨g, i * 7 + 4, none⟩ (.int .i64 v) (fun q => by injection q with q1 q2; omega)).trans h1.c4
    · exact (World.cell?_setCell_other w ⟨g, k * 7 + 3, none⟩ ⟨g, i * 7 + 5, none⟩ (.int .i64 v) (fun q => by injection q with q1 q2; omega)).trans h1.c5
    · exact (World.cell?_setCell_other w ⟨g, k * 7 + 3, none⟩ ⟨g, i * 7 + 6, none⟩ (.int .i64 v) (fun q => by injection q with q1 q2; omega)).trans h1.c6
theorem rowSet4 {w : World} {a : Option Addr} {cap g k : Nat} {l : List F7} {x : F7} (r : Row w a cap g l) (hk : k < l.length) (hx : l.getD k zz = x) (v : Int) : Row (w.setCell ⟨g, k * 7 + 4, none⟩ (.int .i64 v)) a cap g (l.set k (x.1, x.2.1, x.2.2.1, x.2.2.2.1, v, x.2.2.2.2.2.1, x.2.2.2.2.2.2)) := by
  refine ⟨fun h => r.addr (by simpa using h), by simpa using r.room, fun i hi => ?_, fun h i => by rw [World.frozen?_setCell]; exact r.free (by simpa using h) i⟩
  simp at hi
  by_cases e : i = k
  · subst e
    rw [getD_set_same hi]
    have h0 := r.cells i hi
    rw [hx] at h0
    constructor
    · exact (World.cell?_setCell_other w ⟨g, i * 7 + 4, none⟩ ⟨g, i * 7, none⟩ (.int .i64 v) (fun q => by injection q with q1 q2; omega)).trans h0.c0
    · exact (World.cell?_setCell_other w ⟨g, i * 7 + 4, none⟩ ⟨g, i * 7 + 1, none⟩ (.int .i64 v) (fun q => by injection q with q1 q2; omega)).trans h0.c1
    · exact (World.cell?_setCell_other w ⟨g, i * 7 + 4, none⟩ ⟨g, i * 7 + 2, none⟩ (.int .i64 v) (fun q => by injection q with q1 q2; omega)).trans h0.c2
    · exact (World.cell?_setCell_other w ⟨g, i * 7 + 4, none⟩ ⟨g, i * 7 + 3, none⟩ (.int .i64 v) (fun q => by injection q with q1 q2; omega)).trans h0.c3
    · exact World.cell?_setCell_same' w ⟨g, i * 7 + 4, none⟩ (.int .i64 v) (by rw [h0.c4]; rfl)
    · exact (World.cell?_setCell_other w ⟨g, i * 7 + 4, none⟩ ⟨g, i * 7 + 5, none⟩ (.int .i64 v) (fun q => by injection q with q1 q2; omega)).trans h0.c5
    · exact (World.cell?_setCell_other w ⟨g, i * 7 + 4, none⟩ ⟨g, i * 7 + 6, none⟩ (.int .i64 v) (fun q => by injection q with q1 q2; omega)).trans h0.c6
  · rw [getD_set_other e]
    have h1 := r.cells i hi
    constructor
    · exact (World.cell?_setCell_other w ⟨g, k * 7 + 4, none⟩ ⟨g, i * 7, none⟩ (.int .i64 v) (fun q => by injection q with q1 q2; omega)).trans h1.c0
    · exact (World.cell?_setCell_other w ⟨g, k * 7 + 4, none⟩ ⟨g, i * 7 + 1, none⟩ (.int .i64 v) (fun q => by injection q with q1 q2; omega)).trans h1.c1
    · exact (World.cell?_setCell_other w ⟨g, k * 7 + 4, none⟩ ⟨g, i * 7 + 2, none⟩ (.int .i64 v) (fun q => by injection q with q1 q2; omega)).trans h1.c2
    · exact (World.cell?_setCell_other w ⟨g, k * 7 + 4, none⟩ ⟨g, i * 7 + 3, none⟩ (.int .i64 v) (fun q => by injection q with q1 q2; omega)).trans h1.c3
    · exact (World.cell?_setCell_other w ⟨g, k * 7 + 4, none⟩ ⟨g, i * 7 + 4, none⟩ (.int .i64 v) (fun q => by injection q with q1 q2; omega)).trans h1.c4
    · exact (World.cell?_setCell_other w ⟨g, k * 7 + 4, none⟩ ⟨g, i * 7 + 5, none⟩ (.int .i64 v) (fun q => by injection q with q1 q2; omega)).trans h1.c5
    · exact (World.cell?_setCell_other w ⟨g, k * 7 + 4, none⟩ ⟨g, i * 7 + 6, none⟩ (.int .i64 v) (fun q => by injection q with q1 q2; omega)).trans h1.c6
theorem rowSet5 {w : World} {a : Option Addr} {cap g k : Nat} {l : List F7} {x : F7} (r : Row w a cap g l) (hk : k < l.length) (hx : l.getD k zz = x) (v : Int) : Row (w.setCell ⟨g, k * 7 + 5, none⟩ (.int .i64 v)) a cap g (l.set k (x.1, x.2.1, x.2.2.1, x.2.2.2.1, x.2.2.2.2.1, v, x.2.2.2.2.2.2)) := by
  refine ⟨fun h => r.addr (by simpa using h), by simpa using r.room, fun i hi => ?_, fun h i => by rw [World.frozen?_setCell]; exact r.free (by simpa using h) i⟩
  simp at hi
  by_cases e : i = k
  · subst e
    rw [getD_set_same hi]
    have h0 := r.cells i hi
    rw [hx] at h0
    constructor
    · exact (World.cell?_setCell_other w ⟨g, i * 7 + 5, none⟩ ⟨g, i * 7, none⟩ (.int .i64 v) (fun q => by injection q with q1 q2; omega)).trans h0.c0
    · exact (World.cell?_setCell_other w ⟨g, i * 7 + 5, none⟩ ⟨g, i * 7 + 1, none⟩ (.int .i64 v) (fun q => by injection q with q1 q2; omega)).trans h0.c1
    · exact (World.cell?_setCell_other w ⟨g, i * 7 + 5, none⟩ ⟨g, i * 7 + 2, none⟩ (.int .i64 v) (fun q => by injection q with q1 q2; omega)).trans h0.c2
    · exact (World.cell?_setCell_other w ⟨g, i * 7 + 5, none⟩ ⟨g, i * 7 + 3, none⟩ (.int .i64 v) (fun q => by injection q with q1 q2; omega)).trans h0.c3
    · exact (World.cell?_setCell_other w ⟨g, i * 7 + 5, none⟩ ⟨g, i * 7 + 4, none⟩ (.int .i64 v) (fun q => by injection q with q1 q2; omega)).trans h0.c4
    · exact World.cell?_setCell_same' w ⟨g, i * 7 + 5, none⟩ (.int .i64 v) (by rw [h0.c5]; rfl)
    · exact (World.cell?_setCell_other w ⟨g, i * 7 + 5, none⟩ ⟨g, i * 7 + 6, none⟩ (.int .i64 v) (fun q => by injection q with q1 q2; omega)).trans h0.c6
  · rw [getD_set_other e]
    have h1 := r.cells i hi
    constructor
    · exact (World.cell?_setCell_other w ⟨g, k * 7 + 5, none⟩ ⟨g, i * 7, none⟩ (.int .i64 v) (fun q => by injection q with q1 q2; omega)).trans h1.c0
    · exact (World.cell?_setCell_other w ⟨g, k * 7 + 5, none⟩ ⟨g, i * 7 + 1, none⟩ (.int .i64 v) (fun q => by injection q with q1 q2; omega)).trans h1.c1
    · exact (World.cell?_setCell_other w ⟨g, k * 7 + 5, none⟩ ⟨g, i * 7 + 2, none⟩ (.int .i64 v) (fun q => by injection q with q1 q2; omega)).trans h1.c2
    · exact (World.cell?_setCell_other w ⟨g, k * 7 + 5, none⟩ ⟨g, i * 7 + 3, none⟩ (.int .i64 v) (fun q => by injection q with q1 q2; omega)).trans h1.c3
    · exact (World.cell?_setCell_other w ⟨g, k * 7 + 5, none⟩ ⟨g, i * 7 + 4, none⟩ (.int .i64 v) (fun q => by injection q with q1 q2; omega)).trans h1.c4
    · exact (World.cell?_setCell_other w ⟨g, k * 7 + 5, none⟩ ⟨g, i * 7 + 5, none⟩ (.int .i64 v) (fun q => by injection q with q1 q2; omega)).trans h1.c5
    · exact (World.cell?_setCell_other w ⟨g, k * 7 + 5, none⟩ ⟨g, i * 7 + 6, none⟩ (.int .i64 v) (fun q => by injection q with q1 q2; omega)).trans h1.c6
theorem rowSet6 {w : World} {a : Option Addr} {cap g k : Nat} {l : List F7} {x : F7} (r : Row w a cap g l) (hk : k < l.length) (hx : l.getD k zz = x) (v : Int) : Row (w.setCell ⟨g, k * 7 + 6, none⟩ (.int .i64 v)) a cap g (l.set k (x.1, x.2.1, x.2.2.1, x.2.2.2.1, x.2.2.2.2.1, x.2.2.2.2.2.1, v)) := by
  refine ⟨fun h => r.addr (by simpa using h), by simpa using r.room, fun i hi => ?_, fun h i => by rw [World.frozen?_setCell]; exact r.free (by simpa using h) i⟩
  simp at hi
  by_cases e : i = k
  · subst e
    rw [getD_set_same hi]
    have h0 := r.cells i hi
    rw [hx] at h0
    constructor
    · exact (World.cell?_setCell_other w ⟨g, i * 7 + 6, none⟩ ⟨g, i * 7, none⟩ (.int .i64 v) (fun q => by injection q with q1 q2; omega)).trans h0.c0
    · exact (World.cell?_setCell_other w ⟨g, i * 7 + 6, none⟩ ⟨g, i * 7 + 1, none⟩ (.int .i64 v) (fun q => by injection q with q1 q2; omega)).trans h0.c1
    · exact (World.cell?_setCell_other w ⟨g, i * 7 + 6, none⟩ ⟨g, i * 7 + 2, none⟩ (.int .i64 v) (fun q => by injection q with q1 q2; omega)).trans h0.c2
    · exact (World.cell?_setCell_other w ⟨g, i * 7 + 6, none⟩ ⟨g, i * 7 + 3, none⟩ (.int .i64 v) (fun q => by injection q with q1 q2; omega)).trans h0.c3
    · exact (World.cell?_setCell_other w ⟨g, i * 7 + 6, none⟩ ⟨g, i * 7 + 4, none⟩ (.int .i64 v) (fun q => by injection q with q1 q2; omega)).trans h0.c4
    · exact (World.cell?_setCell_other w ⟨g, i * 7 + 6, none⟩ ⟨g, i * 7 + 5, none⟩ (.int .i64 v) (fun q => by injection q with q1 q2; omega)).trans h0.c5
    · exact World.cell?_setCell_same' w ⟨g, i * 7 + 6, none⟩ (.int .i64 v) (by rw [h0.c6]; rfl)
  · rw [getD_set_other e]
    have h1 := r.cells i hi
    constructor
    · exact (World.cell?_setCell_other w ⟨g, k * 7 + 6, none⟩ ⟨g, i * 7, none⟩ (.int .i64 v) (fun q => by injection q with q1 q2; omega)).trans h1.c0
    · exact (World.cell?_setCell_other w ⟨g, k * 7 + 6, none⟩ ⟨g, i * 7 + 1, none⟩ (.int .i64 v) (fun q => by injection q with q1 q2; omega)).trans h1.c1
    · exact (World.cell?_setCell_other w ⟨g, k * 7 + 6, none⟩ ⟨g, i * 7 + 2, none⟩ (.int .i64 v) (fun q => by injection q with q1 q2; omega)).trans h1.c2
    · exact (World.cell?_setCell_other w ⟨g, k * 7 + 6, none⟩ ⟨g, i * 7 + 3, none⟩ (.int .i64 v) (fun q => by injection q with q1 q2; omega)).trans h1.c3
    · exact (World.cell?_setCell_other w ⟨g, k * 7 + 6, none⟩ ⟨g, i * 7 + 4, none⟩ (.int .i64 v) (fun q => by injection q with q1 q2; omega)).trans h1.c4
    · exact (World.cell?_setCell_other w ⟨g, k * 7 + 6, none⟩ ⟨g, i * 7 + 5, none⟩ (.int .i64 v) (fun q => by injection q with q1 q2; omega)).trans h1.c5
    · exact (World.cell?_setCell_other w ⟨g, k * 7 + 6, none⟩ ⟨g, i * 7 + 6, none⟩ (.int .i64 v) (fun q => by injection q with q1 q2; omega)).trans h1.c6
end Go.Proofs.YtchpjojndkkmeaaDoor.seven
