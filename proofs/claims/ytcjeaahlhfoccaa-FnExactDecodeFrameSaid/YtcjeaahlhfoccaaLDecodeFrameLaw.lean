/- What this text proves: the law of FnExactDecodeFrame: the program and the model answer alike, for every text. -/
import Derived.Test.YtcjeaahlhfoccaaIFd
namespace Go.Proofs.Ytcjeaahlhfoccaa
open Go.ChangeShapes Go.WideShapes Go.ChangeAt Go.RowKit
set_option linter.unusedVariables false

set_option maxHeartbeats 1000000 in
theorem law_decodeframe (s : ByteArray) (hs : s.size ≤ maxLen) (w : World) :
    Calls Try.prog 11 #[.string s] w fun e w' => e = .returned (.bool true) ∧ Below w.heap.size w w' := by
  by_cases hL : s.size ≤ 1048576
  · have h1 := fun W => decF_spec s hL W
    have h2 := fun W => decF_impl s hL W
    obtain ⟨⟨A, Q, N, D, B⟩, hP⟩ : ∃ P, decF s = P := ⟨_, rfl⟩
    simp only [hP, retF] at h1 h2
    have H1 := Lib.hid h1
    have H2 := Lib.hid h2
    have HE := Lib.hid (eq_frm A Q N D)
    have hd : decide (1048576 < s.size) = false := by simp; omega
    have hd' : decide ((1048576 : Int) < (s.size : Int)) = false := by simp; omega
    have hN : (N != N) = false := by simp
    have hB : (B != B) = false := by simp
    clear h1 h2 hP hL
    go_enter Try.func11, Try.ntmps11
    go_wp2_with fail
    refine (H1.out _).mono ?_
    rintro e w1 ⟨rfl, hb1⟩
    have B1 := Lib.hid hb1
    have BX := Lib.hid (Box.made w1 (frL A Q N D) 39 _ rfl)
    have BBX := Lib.hid ((Below.refl w1.heap.size w1).alloc (Nat.le_refl _) (.cells (frL A Q N D).toArray 39))
    clear hb1
    go_wp2_with fail
    refine (H2.out _).mono ?_
    rintro e w2 ⟨rfl, hb2⟩
    have B2 := Lib.hid (BBX.out.trans (hb2.mono BBX.out.size))
    have BX2 : Box (w2.alloc (.cells #[.int .i64 A, .int .i64 Q, .int .i64 N, .string D] 39)) w1.heap.size (frL A Q N D) := (BX.out.more hb2).alloc _
    have BY2 : Box (w2.alloc (.cells #[.int .i64 A, .int .i64 Q, .int .i64 N, .string D] 39)) w2.heap.size (frL A Q N D) := Box.made w2 (frL A Q N D) _ _ rfl
    have B3 := Lib.hid (B2.out.alloc B2.out.size (.cells #[.int .i64 A, .int .i64 Q, .int .i64 N, .string D] 39))
    obtain ⟨k0, k1, k2, k3⟩ := BX2.four
    obtain ⟨m0, m1, m2, m3⟩ := BY2.four
    clear hb2 BX2 BY2
    go_wp2_with fail
    refine (HE.out _).mono ?_
    rintro e w3 ⟨rfl, hb3⟩
    have B4 := Lib.hid (B1.out.trans ((B3.out.trans (hb3.mono B3.out.size)).mono B1.out.size))
    clear hb3 k0 k1 k2 k3 m0 m1 m2 m3
    go_wp2
    go_ret
    exact ⟨rfl, B4.out⟩
  · have hd : decide (1048576 < s.size) = true := by simp; omega
    have hd' : decide ((1048576 : Int) < (s.size : Int)) = true := by simp; omega
    clear hL
    go_enter Try.func11, Try.ntmps11
    go_wp2
    go_ret
    exact ⟨rfl, Below.refl _ _⟩
end Go.Proofs.Ytcjeaahlhfoccaa
