/- What this text proves: the law of FnExactDecodePacket: the program and the model answer alike, for every text and index. -/
import Derived.Test.YtcjeaahlhfoccaaIPd
namespace Go.Proofs.Ytcjeaahlhfoccaa
open Go.ChangeShapes Go.WideShapes Go.ChangeAt Go.RowKit
set_option linter.unusedVariables false

set_option maxHeartbeats 1000000 in
theorem law_decodepacket (s : ByteArray) (a : Int) (hs : s.size ≤ maxLen) (ha : -9223372036854775808 ≤ a ∧ a ≤ 9223372036854775807) (w : World) :
    Calls Try.prog 8 #[.string s, .int .i64 a] w fun e w' => e = .returned (.bool true) ∧ Below w.heap.size w w' := by
  by_cases hL : s.size ≤ 1048576
  · have h1 := fun W => dec_spec s hL a ha W
    have h2 := fun W => dec_impl s hL a ha W
    obtain ⟨⟨A, Q, D, N, B⟩, hP⟩ : ∃ P, decP s a = P := ⟨_, rfl⟩
    simp only [hP, retD] at h1 h2
    have H1 := Lib.hid h1
    have H2 := Lib.hid h2
    have HE := Lib.hid (eq_pkt A Q D)
    have hd : decide (1048576 < s.size) = false := by simp; omega
    have hd' : decide ((1048576 : Int) < (s.size : Int)) = false := by simp; omega
    have hN : (N != N) = false := by simp
    have hB : (B != B) = false := by simp
    clear h1 h2 hP hL
    go_enter Try.func8, Try.ntmps8
    go_wp2_with fail
    refine (H1.out _).mono ?_
    rintro e w1 ⟨rfl, hb1⟩
    have B1 := Lib.hid hb1
    have BX := Lib.hid (Box.made w1 (pkL A Q D) 28 _ rfl)
    have BBX := Lib.hid ((Below.refl w1.heap.size w1).alloc (Nat.le_refl _) (.cells (pkL A Q D).toArray 28))
    clear hb1
    go_wp2_with fail
    refine (H2.out _).mono ?_
    rintro e w2 ⟨rfl, hb2⟩
    have B2 := Lib.hid (BBX.out.trans (hb2.mono BBX.out.size))
    have BX2 : Box (w2.alloc (.cells #[.int .i64 A, .int .i64 Q, .string D] 28)) w1.heap.size (pkL A Q D) := (BX.out.more hb2).alloc _
    have BY2 : Box (w2.alloc (.cells #[.int .i64 A, .int .i64 Q, .string D] 28)) w2.heap.size (pkL A Q D) := Box.made w2 (pkL A Q D) _ _ rfl
    have B3 := Lib.hid (B2.out.alloc B2.out.size (.cells #[.int .i64 A, .int .i64 Q, .string D] 28))
    obtain ⟨k0, k1, k2⟩ := BX2.three
    obtain ⟨m0, m1, m2⟩ := BY2.three
    clear hb2 BX2 BY2
    go_wp2_with fail
    refine (HE.out _).mono ?_
    rintro e w3 ⟨rfl, hb3⟩
    have B4 := Lib.hid (B1.out.trans ((B3.out.trans (hb3.mono B3.out.size)).mono B1.out.size))
    clear hb3 k0 k1 k2 m0 m1 m2
    go_wp2
    go_ret
    exact ⟨rfl, B4.out⟩
  · have hd : decide (1048576 < s.size) = true := by simp; omega
    have hd' : decide ((1048576 : Int) < (s.size : Int)) = true := by simp; omega
    clear hL
    go_enter Try.func8, Try.ntmps8
    go_wp2
    go_ret
    exact ⟨rfl, Below.refl _ _⟩
end Go.Proofs.Ytcjeaahlhfoccaa
