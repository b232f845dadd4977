/- What this text proves: the law of FnExactNewSender: the program and the model answer alike, for every window; the answer owns its memory. -/
import Derived.Test.YtmmedhjmilgnbaaNwS
import Derived.Test.YtmmedhjmilgnbaaSnd
namespace Go.Proofs.Ytmmedhjmilgnbaa
open Go.ChangeShapes Go.WideShapes Go.ChangeAt Go.RowKit
set_option linter.unusedVariables false

theorem below_none {w w' : World} (h : w.grownBy w' none) : Below w.heap.size w w' := ⟨h.os, h.tape, h.output, h.size, fun k hk => h.block k hk (by simp)⟩
theorem Box.newer {w W : World} (h : Below w.heap.size w W) (vs : List Value) (T : TypeId) : Below w.heap.size w (W.alloc (.cells vs.toArray T)) := h.alloc h.size _

set_option maxHeartbeats 2000000 in
theorem law_newsender (b : Int) (_ : -9223372036854775808 ≤ b ∧ b ≤ 9223372036854775807) (w : World) :
    Calls Try.prog 5 #[.int .i64 b] w fun e w' => e = .returned (.bool true) ∧ Below w.heap.size w w' := by
  have HX := Lib.hid (new_spec b)
  have HY := Lib.hid (new_impl b)
  generalize nwW b = X at *
  generalize nwB b = B at *
  have HE := Lib.hid (fun W => (show Calls Try.prog 24 #[seV 0 X (.slice none 0 0) 0, seV 0 X (.slice none 0 0) 0] W fun e w' => e = .returned (.bool true) ∧ Below W.heap.size W w' from eq_snd 0 X 0 [] (by simp) (.slice none 0 0) (.slice none 0 0) W.heap.size W.heap.size W (OwnR.nil _ _ _ _) (OwnR.nil _ _ _ _)))
  have HM := Lib.hid (fun W => (show Calls Try.prog 27 #[seV 0 X (.slice none 0 0) 0, .int .i64 1] W fun e w' => e = .returned (.int .i64 1) ∧ Below W.heap.size W w' from (mark_snd 0 X 0 [] (by simp) (.slice none 0 0) W.heap.size W (OwnR.nil _ _ _ _) (Nat.le_refl _)).mono fun e w' h => ⟨h.1, below_none h.2.1⟩))
  have HH := Lib.hid (fun W => (show Calls Try.prog 28 #[seV 0 X (.slice none 0 0) 0, .int .i64 1] W fun e w' => e = .returned (.int .i64 1) ∧ Below W.heap.size W w' from held_snd 0 X 0 0 (by omega) (.slice none 0 0) W ⟨none, 0, rfl, fun h => absurd h (Nat.lt_irrefl 0)⟩))
  have hBB : (B != B) = false := by simp
  go_enter Try.func5, Try.ntmps5
  go_wp2_with fail
  refine (HX.out _).mono ?_
  rintro e w1 ⟨rfl, hb1⟩
  have P1 := Lib.hid (Box.made w1 (seL 0 X (.slice none 0 0) 0) 42 w1.heap.size rfl)
  have B1 := Lib.hid (Box.newer hb1 (seL 0 X (.slice none 0 0) 0) 42)
  clear hb1
  go_wp2_with fail
  refine (HY.out _).mono ?_
  rintro e w2 ⟨rfl, hb2⟩
  have P2 := Lib.hid ((P1.out.more hb2).alloc (.cells (seL 0 X (.slice none 0 0) 0).toArray 42))
  have Q2 := Lib.hid (Box.made w2 (seL 0 X (.slice none 0 0) 0) 42 w2.heap.size rfl)
  have B2 := Lib.hid (Box.newer (B1.out.trans (hb2.mono B1.out.size)) (seL 0 X (.slice none 0 0) 0) 42)
  obtain ⟨k0, k1, k2, k3⟩ := P2.out.fourS
  clear hb2 P1
  go_wp2_with fail
  refine (HE.out _).mono ?_
  rintro e w3 ⟨rfl, hb3⟩
  have P3 := Lib.hid (P2.out.more hb3)
  have Q3 := Lib.hid (Q2.out.more hb3)
  have B3 := Lib.hid (B2.out.trans (hb3.mono B2.out.size))
  obtain ⟨q0, q1, q2, q3⟩ := Q3.out.fourS
  clear hb3 P2 Q2 k0 k1 k2 k3
  go_wp2_with fail
  refine (HM.out _).mono ?_
  rintro e w4 ⟨rfl, hb4⟩
  have P4 := Lib.hid (P3.out.more hb4)
  have Q4 := Lib.hid (Q3.out.more hb4)
  have B4 := Lib.hid (B3.out.trans (hb4.mono B3.out.size))
  clear hb4 P3 Q3 q0 q1 q2 q3
  obtain ⟨q0, q1, q2, q3⟩ := Q4.out.fourS
  go_wp2_with fail
  refine (HH.out _).mono ?_
  rintro e w5 ⟨rfl, hb5⟩
  have P5 := Lib.hid (P4.out.more hb5)
  have Q5 := Lib.hid (Q4.out.more hb5)
  have B5 := Lib.hid (B4.out.trans (hb5.mono B4.out.size))
  clear hb5 P4 Q4 q0 q1 q2 q3
  go_wp2_with fail
  refine (HY.out _).mono ?_
  rintro e w6 ⟨rfl, hb6⟩
  have P6 := Lib.hid ((P5.out.more hb6).alloc (.cells (seL 0 X (.slice none 0 0) 0).toArray 42))
  have Q6 := Lib.hid ((Q5.out.more hb6).alloc (.cells (seL 0 X (.slice none 0 0) 0).toArray 42))
  have R6 := Lib.hid (Box.made w6 (seL 0 X (.slice none 0 0) 0) 42 w6.heap.size rfl)
  have B6 := Lib.hid (Box.newer (B5.out.trans (hb6.mono B5.out.size)) (seL 0 X (.slice none 0 0) 0) 42)
  obtain ⟨k0, k1, k2, k3⟩ := P6.out.fourS
  clear hb6 P5 Q5
  go_wp2_with fail
  refine (HE.out _).mono ?_
  rintro e w7 ⟨rfl, hb7⟩
  have Q7 := Lib.hid (Q6.out.more hb7)
  have B7 := Lib.hid (B6.out.trans (hb7.mono B6.out.size))
  obtain ⟨q0, q1, q2, q3⟩ := Q7.out.fourS
  clear hb7 P6 Q6 R6 k0 k1 k2 k3
  go_wp2_with fail
  refine (HH.out _).mono ?_
  rintro e w8 ⟨rfl, hb8⟩
  have B8 := Lib.hid (B7.out.trans (hb8.mono B7.out.size))
  clear hb8 Q7 q0 q1 q2 q3
  go_wp2
  go_ret
  exact ⟨rfl, B8.out⟩
end Go.Proofs.Ytmmedhjmilgnbaa
