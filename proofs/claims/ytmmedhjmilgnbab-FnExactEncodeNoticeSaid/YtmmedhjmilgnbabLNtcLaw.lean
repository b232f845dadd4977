/- What this text proves: the laws of FnExactEncodeNotice and FnExactDecodeNotice: the program and the model answer alike, for every notice and text. -/
import Derived.Test.YtmmedhjmilgnbabNtcD
namespace Go.Proofs.Ytmmedhjmilgnbab
open Go.ChangeShapes Go.WideShapes Go.ChangeAt Go.RowKit
set_option linter.unusedVariables false

theorem law_encodenotice (x : Int) (p q : Bool) (_ : -9223372036854775808 ≤ x ∧ x ≤ 9223372036854775807) (w : World) :
    Calls Try.prog 3 #[ntV x p q] w fun e w' => e = .returned (.bool true) ∧ Below w.heap.size w w' := by
  have HT := Lib.hid (to_ntc x p q)
  have HX := Lib.hid (encN_spec x p q)
  have HY := Lib.hid (encN_impl x p q)
  generalize ntT x p q = T at *
  have hself : (T.toList == T.toList) = true := beq_self_eq_true _
  have B0 := Fit.made w (ntL x p q) 23
  go_enter Try.func3, Try.ntmps3
  go_wp2_with fail
  refine (HT.out _).mono ?_
  rintro e w1 ⟨rfl, hb1⟩
  have F1 := Lib.hid (B0.more hb1)
  clear hb1 B0
  go_wp2_with fail
  refine (HX.out _).mono ?_
  rintro e w2 ⟨rfl, hb2⟩
  have F2 := Lib.hid (F1.out.more hb2)
  obtain ⟨k0, k1, k2⟩ := F2.out.box.threeR
  clear hb2
  go_wp2_with fail
  refine (HT.out _).mono ?_
  rintro e w3 ⟨rfl, hb3⟩
  have F3 := Lib.hid (F2.out.more hb3)
  clear hb3 k0 k1 k2
  go_wp2_with fail
  refine (HY.out _).mono ?_
  rintro e w4 ⟨rfl, hb4⟩
  have F4 := Lib.hid (F3.out.more hb4)
  clear hb4
  go_wp2
  go_ret
  exact ⟨rfl, F4.out.below⟩
set_option maxHeartbeats 1000000 in
theorem law_decodenotice (s : ByteArray) (hs : s.size ≤ maxLen) (w : World) :
    Calls Try.prog 4 #[.string s] w fun e w' => e = .returned (.bool true) ∧ Below w.heap.size w w' := by
  by_cases hL : s.size ≤ 1048576
  · have hx := decN_spec s hL
    have hy := decN_impl s hL
    obtain ⟨⟨X, P, Q, B⟩, hP⟩ : ∃ P, decN s = P := ⟨_, rfl⟩
    simp only [hP, retN] at hx hy
    have HX := Lib.hid hx
    have HY := Lib.hid hy
    have HE := Lib.hid (eq_ntc X P Q)
    have d1 : decide (1048576 < s.size) = false := by simp; omega
    have d2 : decide ((1048576 : Int) < (s.size : Int)) = false := by simp; omega
    have hB : (B != B) = false := by simp
    clear hx hy hL hP
    go_enter Try.func4, Try.ntmps4
    go_wp2_with fail
    refine (HX.out _).mono ?_
    rintro e w1 ⟨rfl, hb1⟩
    have N1 := Lib.hid (Box.made w1 (ntL X P Q) 25 w1.heap.size rfl)
    have W1 := Lib.hid (hb1.alloc hb1.size (.cells (ntL X P Q).toArray 25))
    clear hb1
    go_wp2_with fail
    refine (HY.out _).mono ?_
    rintro e w2 ⟨rfl, hb2⟩
    have N2 := Lib.hid ((N1.out.more hb2).alloc (.cells (ntL X P Q).toArray 25))
    have W2 := Lib.hid ((W1.out.trans (hb2.mono W1.out.size)).alloc (W1.out.trans (hb2.mono W1.out.size)).size (.cells (ntL X P Q).toArray 25))
    obtain ⟨k0, k1, k2⟩ := N2.out.threeR
    clear hb2
    go_wp2_with fail
    refine (HE.out _).mono ?_
    rintro e w3 ⟨rfl, hb3⟩
    have W3 := Lib.hid (W2.out.trans (hb3.mono W2.out.size))
    clear hb3 k0 k1 k2
    go_wp2
    go_ret
    exact ⟨rfl, W3.out⟩
  · have d1 : decide (1048576 < s.size) = true := by simp; omega
    have d2 : decide ((1048576 : Int) < (s.size : Int)) = true := by simp; omega
    clear hL
    go_enter Try.func4, Try.ntmps4
    go_wp2
    go_ret
    exact ⟨rfl, Below.refl _ _⟩
end Go.Proofs.Ytmmedhjmilgnbab
