/- What this text proves: the laws of FnExactReceiverOk and FnExactNoticeOf: the program and the model answer alike, for every receiver. -/
import Derived.Test.YtmmedhjmilgnbaaRcv
namespace Go.Proofs.Ytmmedhjmilgnbaa
open Go.ChangeShapes Go.WideShapes Go.ChangeAt Go.RowKit
set_option linter.unusedVariables false

theorem law_receiverok (x : Int) (p q : Bool) (t : Int) (_ : -9223372036854775808 ≤ x ∧ x ≤ 9223372036854775807) (_ : -9223372036854775808 ≤ t ∧ t ≤ 9223372036854775807) (w : World) :
    Calls Try.prog 10 #[rcV x p q t] w fun e w' => e = .returned (.bool true) ∧ Below w.heap.size w w' := by
  have HT := Lib.hid (to_rcv x p q t)
  have HX := Lib.hid (ro_spec x p q t)
  have HY := Lib.hid (ro_impl x p q t)
  generalize decide (RcOk x t) = r at *
  have hrr : (r != r) = false := by simp
  have B0 := Box.made w (rcL x p q t) 59 w.heap.size rfl
  have W0 := Lib.hid ((Below.refl _ w).alloc (Nat.le_refl _) (.cells (rcL x p q t).toArray 59))
  go_enter Try.func10, Try.ntmps10
  go_wp2_with fail
  refine (HT.out _).mono ?_
  rintro e w1 ⟨rfl, hb1⟩
  have B1 := Lib.hid (B0.more hb1)
  have W1 := Lib.hid (W0.out.trans (hb1.mono W0.out.size))
  clear hb1 B0
  go_wp2_with fail
  refine (HX.out _).mono ?_
  rintro e w2 ⟨rfl, hb2⟩
  have B2 := Lib.hid (B1.out.more hb2)
  have W2 := Lib.hid (W1.out.trans (hb2.mono W1.out.size))
  obtain ⟨k0, k1, k2, k3⟩ := B2.out.fourR
  clear hb2
  go_wp2_with fail
  refine (HT.out _).mono ?_
  rintro e w3 ⟨rfl, hb3⟩
  have W3 := Lib.hid (W2.out.trans (hb3.mono W2.out.size))
  clear hb3 k0 k1 k2 k3
  go_wp2_with fail
  refine (HY.out _).mono ?_
  rintro e w4 ⟨rfl, hb4⟩
  have W4 := Lib.hid (W3.out.trans (hb4.mono W3.out.size))
  clear hb4
  go_wp2
  go_ret
  exact ⟨rfl, W4.out⟩
theorem law_noticeof (x : Int) (p q : Bool) (t : Int) (_ : -9223372036854775808 ≤ x ∧ x ≤ 9223372036854775807) (_ : -9223372036854775808 ≤ t ∧ t ≤ 9223372036854775807) (w : World) :
    Calls Try.prog 11 #[rcV x p q t] w fun e w' => e = .returned (.bool true) ∧ Below w.heap.size w w' := by
  have HT := Lib.hid (to_rcv x p q t)
  have HX := Lib.hid (no_spec x p q t)
  have HY := Lib.hid (no_impl x p q t)
  have HE := Lib.hid (eq_ntc x p q)
  have B0 := Box.made w (rcL x p q t) 59 w.heap.size rfl
  have W0 := Lib.hid ((Below.refl _ w).alloc (Nat.le_refl _) (.cells (rcL x p q t).toArray 59))
  go_enter Try.func11, Try.ntmps11
  go_wp2_with fail
  refine (HT.out _).mono ?_
  rintro e w1 ⟨rfl, hb1⟩
  have B1 := Lib.hid (B0.more hb1)
  have W1 := Lib.hid (W0.out.trans (hb1.mono W0.out.size))
  clear hb1 B0
  go_wp2_with fail
  refine (HX.out _).mono ?_
  rintro e w2 ⟨rfl, hb2⟩
  have B2 := Lib.hid ((B1.out.more hb2).alloc (.cells (ntL x p q).toArray 31))
  have N2 := Lib.hid (Box.made w2 (ntL x p q) 31 w2.heap.size rfl)
  have W2 := Lib.hid ((W1.out.trans (hb2.mono W1.out.size)).alloc (W1.out.trans (hb2.mono W1.out.size)).size (.cells (ntL x p q).toArray 31))
  obtain ⟨k0, k1, k2, k3⟩ := B2.out.fourR
  clear hb2
  go_wp2_with fail
  refine (HT.out _).mono ?_
  rintro e w3 ⟨rfl, hb3⟩
  have N3 := Lib.hid (N2.out.more hb3)
  have W3 := Lib.hid (W2.out.trans (hb3.mono W2.out.size))
  clear hb3 k0 k1 k2 k3
  go_wp2_with fail
  refine (HY.out _).mono ?_
  rintro e w4 ⟨rfl, hb4⟩
  have N4 := Lib.hid ((N3.out.more hb4).alloc (.cells (ntL x p q).toArray 31))
  have M4 := Lib.hid (Box.made w4 (ntL x p q) 31 w4.heap.size rfl)
  have W4 := Lib.hid ((W3.out.trans (hb4.mono W3.out.size)).alloc (W3.out.trans (hb4.mono W3.out.size)).size (.cells (ntL x p q).toArray 31))
  obtain ⟨n0, n1, n2⟩ := N4.out.threeR
  clear hb4
  go_wp2_with fail
  refine (HE.out _).mono ?_
  rintro e w5 ⟨rfl, hb5⟩
  have W5 := Lib.hid (W4.out.trans (hb5.mono W4.out.size))
  clear hb5 n0 n1 n2
  go_wp2
  go_ret
  exact ⟨rfl, W5.out⟩
end Go.Proofs.Ytmmedhjmilgnbaa
