/- What this text proves: the laws of FnExactRecordOk, FnExactEncodeRecord and FnExactDecodeRecord: the program and the model answer alike. -/
import Derived.Test.YtebfefkknaalpaaRcdD
namespace Go.Proofs.Ytebfefkknaalpaa
open Go.ChangeShapes Go.WideShapes Go.ChangeAt Go.RowKit
set_option linter.unusedVariables false


set_option maxHeartbeats 1000000 in
theorem law_recordok (i : Int) (q : Int) (t : Int) (d : ByteArray) (_ : -9223372036854775808 ≤ i ∧ i ≤ 9223372036854775807) (_ : -9223372036854775808 ≤ q ∧ q ≤ 9223372036854775807) (_ : -9223372036854775808 ≤ t ∧ t ≤ 9223372036854775807) (hd : d.size ≤ maxLen) (w : World) :
    Calls Try.prog 10 #[rdV i q t d] w fun e w' => e = .returned (.bool true) ∧ Below w.heap.size w w' := by
  have F0 := Fit.made w (rdL i q t d) 74
  have HT := Lib.hid (to_rcd i q t d)
  have hs := fun W => sz_rcd i q t d 1048576 (Nat.le_refl _) hd W
  by_cases hL : d.size ≤ 1048576
  · simp only [if_pos hL] at hs
    have hd0 : decide (1048576 - (d.size : Int) < 0) = false := by simp; omega
    have HS := Lib.hid hs
    clear hs
    have HX := Lib.hid (rd_spec i q t d)
    have HY := Lib.hid (rd_impl i q t d)
    generalize decide (RdOk i q t d) = r0 at *
    have hself : (r0 != r0) = false := by simp
    go_enter Try.func10, Try.ntmps10
    go_wp2_with fail
    refine (HS.out _).mono ?_
    rintro e w1 ⟨rfl, hb1⟩
    have F1 := Lib.hid (F0.more hb1)
    clear hb1 F0
    obtain ⟨k0, k1, k2, k3⟩ := F1.out.box.four4
    go_wp2_with fail
    refine (HT.out _).mono ?_
    rintro e w2 ⟨rfl, hb2⟩
    have F2 := Lib.hid (F1.out.more hb2)
    clear hb2 k0 k1 k2 k3
    obtain ⟨k0, k1, k2, k3⟩ := F2.out.box.four4
    go_wp2_with fail
    refine (HX.out _).mono ?_
    rintro e w3 ⟨rfl, hb3⟩
    have F3 := Lib.hid (F2.out.more hb3)
    clear hb3 k0 k1 k2 k3
    obtain ⟨k0, k1, k2, k3⟩ := F3.out.box.four4
    go_wp2_with fail
    refine (HT.out _).mono ?_
    rintro e w4 ⟨rfl, hb4⟩
    have F4 := Lib.hid (F3.out.more hb4)
    clear hb4 k0 k1 k2 k3
    obtain ⟨k0, k1, k2, k3⟩ := F4.out.box.four4
    go_wp2_with fail
    refine (HY.out _).mono ?_
    rintro e w5 ⟨rfl, hb5⟩
    have F5 := Lib.hid (F4.out.more hb5)
    clear hb5 k0 k1 k2 k3
    obtain ⟨k0, k1, k2, k3⟩ := F5.out.box.four4
    go_wp2
    go_ret
    exact ⟨rfl, F5.out.below⟩
  · simp only [if_neg hL] at hs
    have HS := Lib.hid hs
    clear hs
    go_enter Try.func10, Try.ntmps10
    go_wp2_with fail
    refine (HS.out _).mono ?_
    rintro e w1 ⟨rfl, hb1⟩
    have F1 := Lib.hid (F0.more hb1)
    clear hb1 F0
    obtain ⟨k0, k1, k2, k3⟩ := F1.out.box.four4
    go_wp2
    go_ret
    exact ⟨rfl, F1.out.below⟩

set_option maxHeartbeats 1000000 in
theorem law_encoderecord (i : Int) (q : Int) (t : Int) (d : ByteArray) (_ : -9223372036854775808 ≤ i ∧ i ≤ 9223372036854775807) (_ : -9223372036854775808 ≤ q ∧ q ≤ 9223372036854775807) (_ : -9223372036854775808 ≤ t ∧ t ≤ 9223372036854775807) (hd : d.size ≤ maxLen) (w : World) :
    Calls Try.prog 11 #[rdV i q t d] w fun e w' => e = .returned (.bool true) ∧ Below w.heap.size w w' := by
  have F0 := Fit.made w (rdL i q t d) 74
  have HT := Lib.hid (to_rcd i q t d)
  have hs := fun W => sz_rcd i q t d 1048576 (Nat.le_refl _) hd W
  by_cases hL : d.size ≤ 1048576
  · simp only [if_pos hL] at hs
    have hd0 : decide (1048576 - (d.size : Int) < 0) = false := by simp; omega
    have HS := Lib.hid hs
    clear hs
    have HX := Lib.hid (encR_spec i q t d)
    have HY := Lib.hid (encR_impl i q t d)
    generalize rdT i q t d = T at *
    have hself : (T.toList == T.toList) = true := beq_self_eq_true _
    go_enter Try.func11, Try.ntmps11
    go_wp2_with fail
    refine (HS.out _).mono ?_
    rintro e w1 ⟨rfl, hb1⟩
    have F1 := Lib.hid (F0.more hb1)
    clear hb1 F0
    obtain ⟨k0, k1, k2, k3⟩ := F1.out.box.four4
    go_wp2_with fail
    refine (HT.out _).mono ?_
    rintro e w2 ⟨rfl, hb2⟩
    have F2 := Lib.hid (F1.out.more hb2)
    clear hb2 k0 k1 k2 k3
    obtain ⟨k0, k1, k2, k3⟩ := F2.out.box.four4
    go_wp2_with fail
    refine (HX.out _).mono ?_
    rintro e w3 ⟨rfl, hb3⟩
    have F3 := Lib.hid (F2.out.more hb3)
    clear hb3 k0 k1 k2 k3
    obtain ⟨k0, k1, k2, k3⟩ := F3.out.box.four4
    go_wp2_with fail
    refine (HT.out _).mono ?_
    rintro e w4 ⟨rfl, hb4⟩
    have F4 := Lib.hid (F3.out.more hb4)
    clear hb4 k0 k1 k2 k3
    obtain ⟨k0, k1, k2, k3⟩ := F4.out.box.four4
    go_wp2_with fail
    refine (HY.out _).mono ?_
    rintro e w5 ⟨rfl, hb5⟩
    have F5 := Lib.hid (F4.out.more hb5)
    clear hb5 k0 k1 k2 k3
    obtain ⟨k0, k1, k2, k3⟩ := F5.out.box.four4
    go_wp2
    go_ret
    exact ⟨rfl, F5.out.below⟩
  · simp only [if_neg hL] at hs
    have HS := Lib.hid hs
    clear hs
    go_enter Try.func11, Try.ntmps11
    go_wp2_with fail
    refine (HS.out _).mono ?_
    rintro e w1 ⟨rfl, hb1⟩
    have F1 := Lib.hid (F0.more hb1)
    clear hb1 F0
    obtain ⟨k0, k1, k2, k3⟩ := F1.out.box.four4
    go_wp2
    go_ret
    exact ⟨rfl, F1.out.below⟩

set_option maxHeartbeats 1000000 in
theorem law_decoderecord (s : ByteArray) (hs : s.size ≤ maxLen) (w : World) :
    Calls Try.prog 12 #[.string s] w fun e w' => e = .returned (.bool true) ∧ Below w.heap.size w w' := by
  by_cases hL : s.size ≤ 1048576
  · have h1 := fun W => decR_spec s hL W
    have h2 := fun W => decR_impl s hL W
    obtain ⟨⟨X0, X1, X2, X3, BB⟩, hP⟩ : ∃ P, decR s = P := ⟨_, rfl⟩
    simp only [hP, retdecR] at h1 h2
    have H1 := Lib.hid h1
    have H2 := Lib.hid h2
    have HE := Lib.hid (eq_rcd X0 X1 X2 X3)
    have hd : decide (1048576 < s.size) = false := by simp; omega
    have hd' : decide ((1048576 : Int) < (s.size : Int)) = false := by simp; omega
    have hB : (BB != BB) = false := by simp
    clear h1 h2 hP hL
    go_enter Try.func12, Try.ntmps12
    go_wp2_with fail
    refine (H1.out _).mono ?_
    rintro e w1 ⟨rfl, hb1⟩
    have B1 := Lib.hid hb1
    have BX := Lib.hid (Box.made w1 (rdL X0 X1 X2 X3) 35 _ rfl)
    have BBX := Lib.hid ((Below.refl w1.heap.size w1).alloc (Nat.le_refl _) (.cells (rdL X0 X1 X2 X3).toArray 35))
    clear hb1
    go_wp2_with fail
    refine (H2.out _).mono ?_
    rintro e w2 ⟨rfl, hb2⟩
    have B2 := Lib.hid (BBX.out.trans (hb2.mono BBX.out.size))
    have BX2 : Box (w2.alloc (.cells #[.int .i64 X0, .int .i64 X1, .int .i64 X2, .string X3] 35)) w1.heap.size (rdL X0 X1 X2 X3) := (BX.out.more hb2).alloc _
    have BY2 : Box (w2.alloc (.cells #[.int .i64 X0, .int .i64 X1, .int .i64 X2, .string X3] 35)) w2.heap.size (rdL X0 X1 X2 X3) := Box.made w2 (rdL X0 X1 X2 X3) _ _ rfl
    have B3 := Lib.hid (B2.out.alloc B2.out.size (.cells #[.int .i64 X0, .int .i64 X1, .int .i64 X2, .string X3] 35))
    obtain ⟨k0, k1, k2, k3⟩ := BX2.four4
    obtain ⟨m0, m1, m2, m3⟩ := BY2.four4
    clear hb2 BX2 BY2
    go_wp2_with fail
    refine (HE.out _).mono ?_
    rintro e w3 ⟨rfl, hb3⟩
    have B4 := Lib.hid (B1.out.trans ((B3.out.trans (hb3.mono B3.out.size)).mono B1.out.size))
    clear hb3 k0 k1 k2 k3 m0 m1 m2 m3
    go_wp2
    go_ret
    exact ⟨rfl, B4.out⟩
  · have hd : decide (1048576 < s.size) = true := by simp; omega
    have hd' : decide ((1048576 : Int) < (s.size : Int)) = true := by simp; omega
    clear hL
    go_enter Try.func12, Try.ntmps12
    go_wp2
    go_ret
    exact ⟨rfl, Below.refl _ _⟩
end Go.Proofs.Ytebfefkknaalpaa
