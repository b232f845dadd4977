/- What this text proves: the law of FnExactTakeCommand: the program and the model answer alike, for every receiver and text. -/
import Derived.Test.YtmmedhjmilgnbaaDoorTcS
import Derived.Test.YtmmedhjmilgnbaaDoorTcI
namespace Go.Proofs.YtmmedhjmilgnbaaDoor
open Go.ChangeShapes Go.WideShapes Go.ChangeAt Go.RowKit
set_option linter.unusedVariables false

set_option maxHeartbeats 1000000 in
theorem law_takecommand (x : Int) (p q : Bool) (t : Int) (s : ByteArray) (_ : -9223372036854775808 ≤ x ∧ x ≤ 9223372036854775807) (_ : -9223372036854775808 ≤ t ∧ t ≤ 9223372036854775807) (hs : s.size ≤ maxLen) (w : World) (hS : ∃ a0 a1 a2, Sents w a0 a1 a2) :
    Calls Tryd.prog 5 #[rcV x p q t, .string s] w fun e w' => e = .returned (.bool true) ∧ Below w.heap.size w w' := by
  obtain ⟨a0, a1, a2, hS⟩ := hS
  have F0 := Fit.made w (rcL x p q t) 47
  by_cases hL : s.size ≤ 1048576
  · have hx := fun W => take_spec x p q t s hL W
    have hy := fun W h => take_impl x p q t s hL W a0 a1 a2 h
    obtain ⟨⟨X, P, Q, T, D, B⟩, hP⟩ : ∃ R, tkC x p q t s = R := ⟨_, rfl⟩
    simp only [hP, retT] at hx hy
    have HT := Lib.hid (to_rcv x p q t)
    have HX := Lib.hid hx
    have HY := Lib.hid hy
    have HE := Lib.hid (eq_rcv X P Q T)
    have HS := Lib.hid hS
    have d1 : decide (1048576 < s.size) = false := by simp; omega
    have d2 : decide ((1048576 : Int) < (s.size : Int)) = false := by simp; omega
    have hB : (B != B) = false := by simp
    have hself : (D.toList == D.toList) = true := beq_self_eq_true _
    clear hx hy hL hP hS
    go_enter Tryd.func5, Tryd.ntmps5
    go_wp2_with fail
    refine (HT.out _).mono ?_
    rintro e w1 ⟨rfl, hb1⟩
    have F1 := Lib.hid (F0.more hb1)
    clear hb1 F0
    go_wp2_with fail
    refine (HX.out _).mono ?_
    rintro e w2 ⟨rfl, hb2⟩
    have F2 := Lib.hid ((F1.out.more hb2).more ((Below.refl _ _).alloc (Nat.le_refl _) (.cells (rcL X P Q T).toArray 31)))
    have R2 := Lib.hid (Box.made w2 (rcL X P Q T) 31 w2.heap.size rfl)
    obtain ⟨k0, k1, k2, k3⟩ := F2.out.box.fourR
    clear hb2
    go_wp2_with fail
    refine (HT.out _).mono ?_
    rintro e w3 ⟨rfl, hb3⟩
    have F3 := Lib.hid (F2.out.more hb3)
    have R3 := Lib.hid (R2.out.more hb3)
    have HY3 := Lib.hid (HY.out _ (HS.out.more F3.out.below))
    clear hb3 k0 k1 k2 k3
    go_wp2_with fail
    refine HY3.out.mono ?_
    rintro e w4 ⟨rfl, hb4⟩
    have F4 := Lib.hid ((F3.out.more hb4).more ((Below.refl _ _).alloc (Nat.le_refl _) (.cells (rcL X P Q T).toArray 31)))
    have R4 := Lib.hid ((R3.out.more hb4).alloc (.cells (rcL X P Q T).toArray 31))
    obtain ⟨k0, k1, k2, k3⟩ := R4.out.fourR
    clear hb4
    go_wp2_with fail
    refine (HE.out _).mono ?_
    rintro e w5 ⟨rfl, hb5⟩
    have F5 := Lib.hid (F4.out.more hb5)
    clear hb5 k0 k1 k2 k3
    go_wp2
    go_ret
    exact ⟨rfl, F5.out.below⟩
  · have d1 : decide (1048576 < s.size) = true := by simp; omega
    have d2 : decide ((1048576 : Int) < (s.size : Int)) = true := by simp; omega
    have F1 := Lib.hid F0
    clear hL F0 hS
    go_enter Tryd.func5, Tryd.ntmps5
    go_wp2
    go_ret
    exact ⟨rfl, F1.out.below⟩
end Go.Proofs.YtmmedhjmilgnbaaDoor
