/-
  Plain helpers of this seat's proofs: contracts of the comparison and of the pieces of the stable sort. Conditions: none.
-/
import Derived.Test.YtchpjojndkkmeaaDoorRows
import Derived.Test.YtchpjojndkkmeaaDoorLift
import Derived.Test.YtchpjojndkkmeaaDoorMrg
import Derived.Test.YtchpjojndkkmeaaDoorShelf2
import Derived.Shelf.SlSortFuncK.ComposeK
namespace Go.Proofs.YtchpjojndkkmeaaDoor.srt
open Go.Shelf Go.RowKit Go.Lib Go.Sort
open mrg (El)

theorem nan (a : Int) (W : World) : Calls Tryd.prog 69 #[.int .i64 a] W fun e w' => e = .returned (.bool false) ∧ W = w' := by
  have t : (a != a) = false := by simp
  go_enter Tryd.func69, Tryd.ntmps69
  go_wp2
  go_ret
  exact ⟨rfl, rfl⟩
def cmp2 (a b : Int) : Int := if a < b then -1 else if b < a then 1 else 0
theorem compare (a b : Int) (W : World) : Calls Tryd.prog 49 #[.int .i64 a, .int .i64 b] W fun e w' => e = .returned (.int .i64 (cmp2 a b)) ∧ W = w' := by
  by_cases h1 : a < b
  · have e : cmp2 a b = -1 := if_pos h1
    rw [e]
    clear e
    have t1 : decide (a < b) = true := by simp; omega
    go_enter Tryd.func49, Tryd.ntmps49
    go_wp2_with (go_at_call 69; refine (nan _ _).mono ?_; rintro e w' ⟨rfl, rfl⟩)
    go_ret
    exact ⟨rfl, rfl⟩
  · have t1 : decide (a < b) = false := by simp; omega
    by_cases h2 : b < a
    · have e : cmp2 a b = 1 := by unfold cmp2; rw [if_neg h1, if_pos h2]
      rw [e]
      clear e
      have t2 : decide (b < a) = true := by simp; omega
      clear h1
      go_enter Tryd.func49, Tryd.ntmps49
      go_wp2_with (go_at_call 69; refine (nan _ _).mono ?_; rintro e w' ⟨rfl, rfl⟩)
      go_ret
      exact ⟨rfl, rfl⟩
    · have e : cmp2 a b = 0 := by unfold cmp2; rw [if_neg h1, if_neg h2]
      rw [e]
      clear e
      have t2 : decide (b < a) = false := by simp; omega
      clear h1 h2
      go_enter Tryd.func49, Tryd.ntmps49
      go_wp2_with (go_at_call 69; refine (nan _ _).mono ?_; rintro e w' ⟨rfl, rfl⟩)
      go_ret
      exact ⟨rfl, rfl⟩

/-- An element's two cells. -/
def enc (x : El) : List Value := [.int .i64 x.1, .int .i64 x.2]
theorem enc_len (x : El) : (enc x).length = 2 := rfl
theorem enc_one (x : El) : ∀ v ∈ enc x, v.oneCell' = true := fun v hv => by
  simp [enc] at hv; rcases hv with rfl | rfl <;> rfl

set_option maxHeartbeats 1000000 in
theorem closure (x y : El) (W : World) : Calls Tryd.prog 48 #[.agg #[.int .i64 x.1, .int .i64 x.2], .agg #[.int .i64 y.1, .int .i64 y.2]] W fun e w' => e = .returned (.int .i64 (mrg.cf x y)) ∧ ∃ q os', w' = grow (W.drewN q) os' := by
  have hcon := fun W' => compare y.2 x.2 W'
  have e : cmp2 y.2 x.2 = mrg.cf x y := rfl
  rw [e] at hcon
  clear e
  generalize mrg.cf x y = r at hcon ⊢
  go_enter Tryd.func48, Tryd.ntmps48
  go_wp2_with (go_at_call 49; refine (hcon _).mono ?_; rintro e w' ⟨rfl, rfl⟩)
  go_ret
  exact ⟨rfl, 0, _, by rw [alloc_eq_grow, alloc_eq_grow, grow_grow]; rfl⟩
theorem enters : ∀ args w, (callFunc 48 args).run Tryd.prog w = .ok (.enter 48 args) w := enters_of Tryd.func48 (by kernel_rfl) rfl
theorem cmpLays (blk off size : Nat) (w : World) : CmpLays Tryd.prog 48 #[] enc 2 mrg.cf blk off size w := fun _ _ _ _ x y => closure x y _

/-- What a piece of the sort leaves: the row holds elements of which p holds; nothing else old has turned. -/
def Post (W : World) (blk off : Nat) (d : Array El) (p : Array El → Prop) (e : Ending) (w' : World) : Prop :=
  e = .returned (.tuple #[]) ∧ ∃ n d' os, w' = sortWorldK enc 2 W blk off n d' os ∧ d'.size = d.size ∧ p d'

theorem ins (blk off cap a b : Nat) (d : Array El) (W : World) (hH : HoldsK enc 2 W blk off d) (hblk : blk < W.heap.size) (hab : a ≤ b) (hb : b ≤ d.size) (hsz : d.size ≤ 1048576)
    (hq : ∀ k j, a ≤ k → k < j → j < b → (mrg.at' d k).1 < (mrg.at' d j).1) :
    Calls Tryd.prog 75 #[.slice (some ⟨blk, off, none⟩) d.size cap, .int .i64 a, .int .i64 b, .func (.func 48) #[] #[]] W (Post W blk off d fun d' => mrg.Srt a b (mrg.at' d') ∧ mrg.Frm a b (mrg.at' d) (mrg.at' d')) := by
  have h := AnyQ.insertionSortCmpFunc Tryd.insIv 2 Tryd.isAgg74 Tryd.sizeOf74 enc enc_len enc_one mrg.cf 48 #[] blk off cap a b d W enters (cmpLays blk off d.size W) hH hblk hab hb (by omega)
  obtain ⟨s1, s2, s3⟩ := mrg.ins_sort d a b hab hb hq
  exact h.mono fun e w' ⟨he, n, os, hw⟩ => ⟨he, n, _, os, hw, s1, s2, s3⟩
end Go.Proofs.YtchpjojndkkmeaaDoor.srt
