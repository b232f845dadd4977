/- What this text proves: the laws of FnExactOrderOk, FnExactEncodeOrder and FnExactDecodeOrder: the program and the model answer alike. -/
import Derived.Test.YtebfefkknaalpaaOrdD
namespace Go.Proofs.Ytebfefkknaalpaa
open Go.ChangeShapes Go.WideShapes Go.ChangeAt Go.RowKit
set_option linter.unusedVariables false


set_option maxHeartbeats 1000000 in
theorem law_orderok (k : Int) (t : Int) (a : Int) (b : Int) (_ : -9223372036854775808 ≤ k ∧ k ≤ 9223372036854775807) (_ : -9223372036854775808 ≤ t ∧ t ≤ 9223372036854775807) (_ : -9223372036854775808 ≤ a ∧ a ≤ 9223372036854775807) (_ : -9223372036854775808 ≤ b ∧ b ≤ 9223372036854775807) (w : World) :
    Calls Try.prog 7 #[orV k t a b] w fun e w' => e = .returned (.bool true) ∧ Below w.heap.size w w' := by
  have F0 := Fit.made w (orL k t a b) 69
  have HT := Lib.hid (to_ord k t a b)
  have HX := Lib.hid (or_spec k t a b)
  have HY := Lib.hid (or_impl k t a b)
  generalize decide (OrOk k t a b) = r0 at *
  have hself : (r0 != r0) = false := by simp
  go_enter Try.func7, Try.ntmps7
  go_wp2_with fail
  refine (HT.out _).mono ?_
  rintro e w1 ⟨rfl, hb1⟩
  have F1 := Lib.hid (F0.more hb1)
  clear hb1 F0
  obtain ⟨k0, k1, k2, k3⟩ := F1.out.box.four4
  go_wp2_with fail
  refine (HX.out _).mono ?_
  rintro e w2 ⟨rfl, hb2⟩
  have F2 := Lib.hid (F1.out.more hb2)
  clear hb2 k0 k1 k2 k3
  obtain ⟨k0, k1, k2, k3⟩ := F2.out.box.four4
  go_wp2_with fail
  refine (HT.out _).mono ?_
  rintro e w3 ⟨rfl, hb3⟩
  have F3 := Lib.hid (F2.out.more hb3)
  clear hb3 k0 k1 k2 k3
  obtain ⟨k0, k1, k2, k3⟩ := F3.out.box.four4
  go_wp2_with fail
  refine (HY.out _).mono ?_
  rintro e w4 ⟨rfl, hb4⟩
  have F4 := Lib.hid (F3.out.more hb4)
  clear hb4 k0 k1 k2 k3
  obtain ⟨k0, k1, k2, k3⟩ := F4.out.box.four4
  go_wp2
  go_ret
  exact ⟨rfl, F4.out.below⟩

set_option maxHeartbeats 1000000 in
theorem law_encodeorder (k : Int) (t : Int) (a : Int) (b : Int) (_ : -9223372036854775808 ≤ k ∧ k ≤ 9223372036854775807) (_ : -9223372036854775808 ≤ t ∧ t ≤ 9223372036854775807) (_ : -9223372036854775808 ≤ a ∧ a ≤ 9223372036854775807) (_ : -9223372036854775808 ≤ b ∧ b ≤ 9223372036854775807) (w : World) :
    Calls Try.prog 8 #[orV k t a b] w fun e w' => e = .returned (.bool true) ∧ Below w.heap.size w w' := by
  have F0 := Fit.made w (orL k t a b) 69
  have HT := Lib.hid (to_ord k t a b)
  have HX := Lib.hid (encO_spec k t a b)
  have HY := Lib.hid (encO_impl k t a b)
  generalize orT k t a b = T at *
  have hself : (T.toList == T.toList) = true := beq_self_eq_true _
  go_enter Try.func8, Try.ntmps8
  go_wp2_with fail
  refine (HT.out _).mono ?_
  rintro e w1 ⟨rfl, hb1⟩
  have F1 := Lib.hid (F0.more hb1)
  clear hb1 F0
  obtain ⟨k0, k1, k2, k3⟩ := F1.out.box.four4
  go_wp2_with fail
  refine (HX.out _).mono ?_
  rintro e w2 ⟨rfl, hb2⟩
  have F2 := Lib.hid (F1.out.more hb2)
  clear hb2 k0 k1 k2 k3
  obtain ⟨k0, k1, k2, k3⟩ := F2.out.box.four4
  go_wp2_with fail
  refine (HT.out _).mono ?_
  rintro e w3 ⟨rfl, hb3⟩
  have F3 := Lib.hid (F2.out.more hb3)
  clear hb3 k0 k1 k2 k3
  obtain ⟨k0, k1, k2, k3⟩ := F3.out.box.four4
  go_wp2_with fail
  refine (HY.out _).mono ?_
  rintro e w4 ⟨rfl, hb4⟩
  have F4 := Lib.hid (F3.out.more hb4)
  clear hb4 k0 k1 k2 k3
  obtain ⟨k0, k1, k2, k3⟩ := F4.out.box.four4
  go_wp2
  go_ret
  exact ⟨rfl, F4.out.below⟩

set_option maxHeartbeats 1000000 in
theorem law_decodeorder (s : ByteArray) (hs : s.size ≤ maxLen) (w : World) :
    Calls Try.prog 9 #[.string s] w fun e w' => e = .returned (.bool true) ∧ Below w.heap.size w w' := by
  by_cases hL : s.size ≤ 1048576
  · have h1 := fun W => decO_spec s hL W
    have h2 := fun W => decO_impl s hL W
    obtain ⟨⟨X0, X1, X2, X3, BB⟩, hP⟩ : ∃ P, decO s = P := ⟨_, rfl⟩
    simp only [hP, retdecO] at h1 h2
    have H1 := Lib.hid h1
    have H2 := Lib.hid h2
    have HE := Lib.hid (eq_ord X0 X1 X2 X3)
    have hd : decide (1048576 < s.size) = false := by simp; omega
    have hd' : decide ((1048576 : Int) < (s.size : Int)) = false := by simp; omega
    have hB : (BB != BB) = false := by simp
    clear h1 h2 hP hL
    go_enter Try.func9, Try.ntmps9
    go_wp2_with fail
    refine (H1.out _).mono ?_
    rintro e w1 ⟨rfl, hb1⟩
    have B1 := Lib.hid hb1
    have BX := Lib.hid (Box.made w1 (orL X0 X1 X2 X3) 27 _ rfl)
    have BBX := Lib.hid ((Below.refl w1.heap.size w1).alloc (Nat.le_refl _) (.cells (orL X0 X1 X2 X3).toArray 27))
    clear hb1
    go_wp2_with fail
    refine (H2.out _).mono ?_
    rintro e w2 ⟨rfl, hb2⟩
    have B2 := Lib.hid (BBX.out.trans (hb2.mono BBX.out.size))
    have BX2 : Box (w2.alloc (.cells #[.int .i64 X0, .int .i64 X1, .int .i64 X2, .int .i64 X3] 27)) w1.heap.size (orL X0 X1 X2 X3) := (BX.out.more hb2).alloc _
    have BY2 : Box (w2.alloc (.cells #[.int .i64 X0, .int .i64 X1, .int .i64 X2, .int .i64 X3] 27)) w2.heap.size (orL X0 X1 X2 X3) := Box.made w2 (orL X0 X1 X2 X3) _ _ rfl
    have B3 := Lib.hid (B2.out.alloc B2.out.size (.cells #[.int .i64 X0, .int .i64 X1, .int .i64 X2, .int .i64 X3] 27))
    obtain ⟨k0, k1, k2, k3⟩ := BX2.four4
    obtain ⟨m0, m1, m2, m3⟩ := BY2.four4
    clear hb2 BX2 BY2
    go_wp2_with fail
    refine (HE.out _).mono ?_
    rintro e w3 ⟨rfl, hb3⟩
    have B4 := Lib.hid (B1.out.trans ((B3.out.trans (hb3.mono B3.out.size)).mono B1.out.size))
    clear hb3 k0 k1 k2 k3 m0 m1 m2 m3
    go_wp2
    go_ret
    exact ⟨rfl, B4.out⟩
  · have hd : decide (1048576 < s.size) = true := by simp; omega
    have hd' : decide ((1048576 : Int) < (s.size : Int)) = true := by simp; omega
    clear hL
    go_enter Try.func9, Try.ntmps9
    go_wp2
    go_ret
    exact ⟨rfl, Below.refl _ _⟩
end Go.Proofs.Ytebfefkknaalpaa
