/- What this text proves: the law of FnExactBurstText: the program and the model answer alike, for every seed and string. -/
import Derived.Test.YtdponcannphboabBrstw
namespace Go.Proofs.Ytdponcannphboab
open Go.ChangeShapes Go.WideShapes Go.ChangeAt Go.RowKit
set_option linter.unusedVariables false

set_option maxHeartbeats 1000000 in
theorem law_burst (c : Int) (s : ByteArray) (_ : -9223372036854775808 ≤ c ∧ c ≤ 9223372036854775807) (hs : s.size ≤ maxLen) (w : World) :
    Calls Try.prog 3 #[.int .i64 c, .string s] w fun e w' => e = .returned (.bool true) ∧ Below w.heap.size w w' := by
  have hs' : s.size ≤ 9223372036854775807 := by unfold maxLen at hs; omega
  by_cases hbig : 1048576 < s.size
  · have hd0 : decide ((1048576 : Int) < (s.size : Int)) = true := by simp; omega
    go_enter Try.func3, Try.ntmps3
    go_wp2
    go_ret
    exact ⟨rfl, Below.refl _ _⟩
  · have hd0 : decide ((1048576 : Int) < (s.size : Int)) = false := by simp; omega
    have H1 := Lib.hid (burst_spec c s (by omega))
    have H2 := Lib.hid (burst_impl c s (by omega))
    generalize burstV c s = r at *
    obtain ⟨x, y⟩ := r
    simp only [retZ] at H1 H2
    go_enter Try.func3, Try.ntmps3
    go_wp2_with fail
    refine (H1.out _).mono ?_
    rintro e w1 ⟨rfl, hb1⟩
    go_wp2_with fail
    refine (H2.out _).mono ?_
    rintro e w2 ⟨rfl, hb2⟩
    go_wp2
    go_ret
    exact ⟨rfl, hb1.trans (hb2.mono hb1.size)⟩
end Go.Proofs.Ytdponcannphboab
