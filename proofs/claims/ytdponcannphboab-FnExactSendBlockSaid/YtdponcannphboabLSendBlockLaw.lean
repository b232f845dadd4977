/- What this text proves: the law of FnExactSendBlock: the program and the model answer alike, for every channel and string. -/
import Derived.Test.YtdponcannphboabSendS
namespace Go.Proofs.Ytdponcannphboab
open Go.ChangeShapes Go.WideShapes Go.ChangeAt Go.RowKit
set_option linter.unusedVariables false

set_option maxHeartbeats 2000000 in
theorem law_sendblock (a b c : Int) (s : ByteArray) (_ : -9223372036854775808 ≤ a ∧ a ≤ 9223372036854775807) (_ : -9223372036854775808 ≤ b ∧ b ≤ 9223372036854775807) (_ : -9223372036854775808 ≤ c ∧ c ≤ 9223372036854775807) (hs : s.size ≤ maxLen) (w : World) :
    Calls Try.prog 4 #[chV a b c, .string s] w fun e w' => e = .returned (.bool true) ∧ Below w.heap.size w w' := by
  have hs' : s.size ≤ 9223372036854775807 := by unfold maxLen at hs; omega
  by_cases hbig : 1048576 < s.size
  · have hd0 : decide ((1048576 : Int) < (s.size : Int)) = true := by simp; omega
    go_enter Try.func4, Try.ntmps4
    go_wp2
    go_ret
    exact ⟨rfl, (Below.refl _ w).alloc (Nat.le_refl _) _⟩
  · have hd0 : decide ((1048576 : Int) < (s.size : Int)) = false := by simp; omega
    have H0 := Lib.hid (to_chan a b c)
    have H1 := Lib.hid (send_spec a b c s (by omega))
    have H2 := Lib.hid (send_impl a b c s (by omega))
    generalize sendV a b c s = r at *
    obtain ⟨x, y⟩ := r
    simp only [retC] at H1 H2
    have H3 := Lib.hid (eq_chan x b c)
    go_enter Try.func4, Try.ntmps4
    go_wp2_with fail
    refine (H0.out _).mono ?_
    rintro e w1 ⟨rfl, hb1⟩
    have B1 := Lib.hid hb1
    clear hb1
    go_wp2_with fail
    refine (H1.out _).mono ?_
    rintro e w2 ⟨rfl, hb2⟩
    have B2 := Lib.hid (B1.out.trans (hb2.mono B1.out.size))
    have K2 := (BoxC.made w a b c _).more B2.out (by simp)
    have Z2 := Lib.hid B2.out.size
    have hz : w.heap.size < w2.heap.size := by
      have := Z2.out
      simp at this
      omega
    have M2 := (BoxC.made w2 x b c 27)
    have K3 := K2.more (n := w2.heap.size) ((Below.refl _ _).alloc (Nat.le_refl _) (.cells #[.int .i64 x, .int .i64 b, .int .i64 c] 27)) hz
    have B3 := Lib.hid (B2.out.trans (((Below.refl _ w2).alloc (Nat.le_refl _) (.cells #[.int .i64 x, .int .i64 b, .int .i64 c] 27)).mono Z2.out))
    have hz3 : (w2.alloc (.cells #[.int .i64 x, .int .i64 b, .int .i64 c] 27)).heap.size = w2.heap.size + 1 := by simp
    have HM2 := Lib.hid M2
    obtain ⟨k0, k1, k2⟩ := K2
    obtain ⟨j0, j1, j2⟩ := K3
    clear hb2 M2
    go_wp2_with fail
    generalize w2.alloc (.cells #[.int .i64 x, .int .i64 b, .int .i64 c] 27) = W3 at *
    refine (H0.out _).mono ?_
    rintro e w4 ⟨rfl, hb4⟩
    have B4 := Lib.hid (B3.out.trans (hb4.mono B3.out.size))
    have hz4 := hb4.size
    have M4 := Lib.hid (HM2.out.more hb4 (by omega))
    clear hb4 k0 k1 k2 j0 j1 j2
    go_wp2_with fail
    refine (H2.out _).mono ?_
    rintro e w5 ⟨rfl, hb5⟩
    have B5 := Lib.hid (B4.out.trans (hb5.mono B4.out.size))
    have hz5 := hb5.size
    have M5 := M4.out.more hb5 (by omega)
    obtain ⟨m0, m1, m2⟩ := M5.more (n := w5.heap.size) ((Below.refl _ _).alloc (Nat.le_refl _) (.cells #[.int .i64 x, .int .i64 b, .int .i64 c] 27)) (by omega)
    obtain ⟨n0, n1, n2⟩ := BoxC.made w5 x b c 27
    have B6 := Lib.hid (B5.out.trans (((Below.refl _ w5).alloc (Nat.le_refl _) (.cells #[.int .i64 x, .int .i64 b, .int .i64 c] 27)).mono B5.out.size))
    clear hb5 M5
    go_wp2_with fail
    refine (H3.out _).mono ?_
    rintro e w6 ⟨rfl, hb6⟩
    have B7 := Lib.hid (B6.out.trans (hb6.mono B6.out.size))
    clear hb6 m0 m1 m2 n0 n1 n2
    go_wp2
    go_ret
    exact ⟨rfl, ((Below.refl _ w).alloc (Nat.le_refl _) _).trans (B7.out.mono (by simp))⟩
end Go.Proofs.Ytdponcannphboab
