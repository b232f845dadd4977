/- What this text proves: the laws of FnExactEncodeCommand and FnExactDecodeCommand: the program and the model answer alike, for every kind, number and text. -/
import Derived.Test.YtmmedhjmilgnbaaCmdD
namespace Go.Proofs.Ytmmedhjmilgnbaa
open Go.ChangeShapes Go.WideShapes Go.ChangeAt Go.RowKit
set_option linter.unusedVariables false

theorem law_encodecommand (k q : Int) (d : ByteArray) (_ : -9223372036854775808 ≤ k ∧ k ≤ 9223372036854775807) (_ : -9223372036854775808 ≤ q ∧ q ≤ 9223372036854775807) (hd : d.size ≤ maxLen) (w : World) :
    Calls Try.prog 7 #[.int .i64 k, .int .i64 q, .string d] w fun e w' => e = .returned (.bool true) ∧ Below w.heap.size w w' := by
  by_cases hL : d.size ≤ 1048576
  · have hx := encC_spec k q d (by omega)
    have hy := encC_impl k q d (by omega)
    have HX := Lib.hid hx
    have HY := Lib.hid hy
    have d1 : decide (1048576 < d.size) = false := by simp; omega
    have d2 : decide ((1048576 : Int) < (d.size : Int)) = false := by simp; omega
    generalize cmT k q d = T at *
    have hself : (T.toList == T.toList) = true := beq_self_eq_true _
    clear hx hy hL
    go_enter Try.func7, Try.ntmps7
    go_wp2_with fail
    refine (HX.out _).mono ?_
    rintro e w1 ⟨rfl, hb1⟩
    have W1 := Lib.hid hb1
    clear hb1
    go_wp2_with fail
    refine (HY.out _).mono ?_
    rintro e w2 ⟨rfl, hb2⟩
    have W2 := Lib.hid (W1.out.trans (hb2.mono W1.out.size))
    clear hb2
    go_wp2
    go_ret
    exact ⟨rfl, W2.out⟩
  · have d1 : decide (1048576 < d.size) = true := by simp; omega
    have d2 : decide ((1048576 : Int) < (d.size : Int)) = true := by simp; omega
    clear hL
    go_enter Try.func7, Try.ntmps7
    go_wp2
    go_ret
    exact ⟨rfl, Below.refl _ _⟩
set_option maxHeartbeats 1000000 in
theorem law_decodecommand (s : ByteArray) (hs : s.size ≤ maxLen) (w : World) :
    Calls Try.prog 8 #[.string s] w fun e w' => e = .returned (.bool true) ∧ Below w.heap.size w w' := by
  by_cases hL : s.size ≤ 1048576
  · have hx := decC_spec s hL
    have hy := decC_impl s hL
    obtain ⟨⟨K, Q, T, B⟩, hP⟩ : ∃ P, decC s = P := ⟨_, rfl⟩
    simp only [hP, retC] at hx hy
    have HX := Lib.hid hx
    have HY := Lib.hid hy
    have d1 : decide (1048576 < s.size) = false := by simp; omega
    have d2 : decide ((1048576 : Int) < (s.size : Int)) = false := by simp; omega
    have hK : (K != K) = false := by simp
    have hQ : (Q != Q) = false := by simp
    have hB : (B != B) = false := by simp
    have hself : (T.toList == T.toList) = true := beq_self_eq_true _
    clear hx hy hL hP
    go_enter Try.func8, Try.ntmps8
    go_wp2_with fail
    refine (HX.out _).mono ?_
    rintro e w1 ⟨rfl, hb1⟩
    have W1 := Lib.hid hb1
    clear hb1
    go_wp2_with fail
    refine (HY.out _).mono ?_
    rintro e w2 ⟨rfl, hb2⟩
    have W2 := Lib.hid (W1.out.trans (hb2.mono W1.out.size))
    clear hb2
    go_wp2
    go_ret
    exact ⟨rfl, W2.out⟩
  · have d1 : decide (1048576 < s.size) = true := by simp; omega
    have d2 : decide ((1048576 : Int) < (s.size : Int)) = true := by simp; omega
    clear hL
    go_enter Try.func8, Try.ntmps8
    go_wp2
    go_ret
    exact ⟨rfl, Below.refl _ _⟩
end Go.Proofs.Ytmmedhjmilgnbaa
