/-
  Plain helpers of this seat's proofs: the landed CmdOk. Conditions: none.
-/
import Derived.Test.YtcpglphhhmgjkaaDoorCoJ
import Derived.Test.YtcpglphhhmgjkaaDoorCoI0
import Derived.Test.YtcpglphhhmgjkaaDoorCm3
import Derived.Test.YtcpglphhhmgjkaaDoorCmk
namespace Go.Proofs.YtcpglphhhmgjkaaDoor.cm
open Go.ChangeShapes Go.WideShapes Go.ChangeAt Go.RowKit
open gen
open four (F4)
theorem ok_eq (s : Sc) (l : List F4) : ok s l = (((kind s && fl s && idB s) && dB (Zs s)) && dB (Its s l) && dB (Key s.key)) := by
  unfold ok
  generalize dB (Zs s) = a
  generalize dB (Its s l) = b
  generalize dB (Key s.key) = c
  generalize kind s = d
  generalize fl s = e
  generalize idB s = f
  cases a <;> cases b <;> cases c <;> cases d <;> cases e <;> cases f <;> rfl
set_option maxRecDepth 20000 in
set_option maxHeartbeats 8000000 in
theorem okI (w : World) (s : Sc) (ai : Option Addr) (ci gi : Nat) (l : List F4) (r : four.Row w ai ci gi l) (hf : Frm w) (hl : l.length ≤ 1048576) (hk : s.key.size ≤ 1048576) :
    Calls Tryd.prog 10 #[.agg #[.int .i64 s.k, .string s.key, .int .i64 s.a, .int .i64 s.b, .int .i64 s.c, .int .i64 s.d, .int .i64 s.e, .int .i64 s.f, .slice ai l.length ci]] w fun e w' => e = .returned (.bool (ok s l)) ∧ Below w.heap.size w w' := by
  have b0 : Below w.heap.size w (w.alloc (.cells #[.int .i64 s.k, .string s.key, .int .i64 s.a, .int .i64 s.b, .int .i64 s.c, .int .i64 s.d, .int .i64 s.e, .int .i64 s.f, .slice ai l.length ci] 29)) := bAl (Below.refl _ _) (Nat.le_refl _) _
  have B0 := Lib.hid b0
  have O0 := Lib.hid (CB.new w s ai l.length ci 29)
  have z0 : (w.alloc (.cells #[.int .i64 s.k, .string s.key, .int .i64 s.a, .int .i64 s.b, .int .i64 s.c, .int .i64 s.d, .int .i64 s.e, .int .i64 s.f, .slice ai l.length ci] 29)).heap.size = w.heap.size + 1 := by simp only [sz_al]
  have HR := Lib.hid (fun W (hb : Below w.heap.size w W) => r.keep (w' := W) fun h => hb.block gi (r.lt h))
  have HF := Lib.hid (fun W (hb : Below w.heap.size w W) => hf.below hb hf.lt)
  clear r hf b0
  have EQ := ok_eq s l
  have C1 := Lib.hid (fun W hb => nI s ai l.length ci W w.heap.size hb)
  have C2 := Lib.hid (fun W hb hf hk => zeroI s ai l.length ci W w.heap.size hb hf hk)
  have C3 := Lib.hid (fun W hb hr => itemsI s ai ci gi l W w.heap.size hb hr hl)
  have C4 := Lib.hid (fun W => keyI s.key W hk)
  have KK := Lib.hid (show (kind s && fl s && idB s) = true → inR s.k 1 13 = true from fun h => by
    simp only [Bool.and_eq_true] at h
    exact h.1.1)
  obtain ⟨T, hT⟩ : ∃ T, T = ok s l := ⟨_, rfl⟩
  rw [← hT] at EQ ⊢
  clear hT
  generalize (kind s && fl s && idB s) = t1 at C1 EQ KK
  generalize dB (Zs s) = t2 at C2 EQ
  generalize dB (Its s l) = t3 at C3 EQ
  generalize dB (Key s.key) = t4 at C4 EQ
  have EQ := Lib.hid EQ
  generalize l.length = n at *
  go_enter Tryd.func10, Tryd.ntmps10
  go_wp2_with fail
  generalize w.alloc (.cells #[.int .i64 s.k, .string s.key, .int .i64 s.a, .int .i64 s.b, .int .i64 s.c, .int .i64 s.d, .int .i64 s.e, .int .i64 s.f, .slice ai n ci] 29) = W0 at B0 O0 z0 ⊢
  have o0 := O0.out.lt
  refine (C1.out _ O0.out).mono ?_
  rintro e w1 ⟨rfl, b⟩
  have B1 := Lib.hid (B0.out.trans (b.mono B0.out.size))
  have O1 := Lib.hid (O0.out.keep (b.block w.heap.size o0))
  have o1 := O1.out.lt
  clear b B0 O0 o0 z0
  cases t1
  · have NO := Lib.hid (show T = false from EQ.out)
    go_wp2
    go_ret
    exact ⟨by rw [NO.out]; rfl, B1.out⟩
  go_wp2_with fail
  refine (C2.out _ O1.out (HF.out _ B1.out) (KK.out (by first | rfl | trivial))).mono ?_
  rintro e w2 ⟨rfl, b⟩
  have B2 := Lib.hid (B1.out.trans (b.mono B1.out.size))
  have O2 := Lib.hid (O1.out.keep (b.block w.heap.size o1))
  have o2 := O2.out.lt
  clear b B1 O1 o1
  cases t2
  · have NO := Lib.hid (show T = false from EQ.out)
    go_wp2
    go_ret
    exact ⟨by rw [NO.out]; rfl, B2.out⟩
  go_wp2_with fail
  refine (C3.out _ O2.out (HR.out _ B2.out)).mono ?_
  rintro e w3 ⟨rfl, b⟩
  have B3 := Lib.hid (B2.out.trans (b.mono B2.out.size))
  have O3 := Lib.hid (O2.out.keep (b.block w.heap.size o2))
  clear b B2 O2 o2
  have y1 := O3.out.c1
  cases t3
  · have NO := Lib.hid (show T = false from EQ.out)
    go_wp2
    go_ret
    exact ⟨by rw [NO.out]; rfl, B3.out⟩
  go_wp2_with fail
  refine (C4.out _).mono ?_
  rintro e w4 ⟨rfl, rfl⟩
  have YES := Lib.hid (show T = t4 from EQ.out)
  go_wp2
  go_ret
  exact ⟨by rw [YES.out]; rfl, B3.out⟩
end Go.Proofs.YtcpglphhhmgjkaaDoor.cm
