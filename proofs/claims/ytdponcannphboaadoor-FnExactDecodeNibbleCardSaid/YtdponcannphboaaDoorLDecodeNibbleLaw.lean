/- What this text proves: the law of FnExactDecodeNibble: the program and the model answer alike, for every number. -/
import Derived.Test.YtdponcannphboaaDoorLnkO
namespace Go.Proofs.YtdponcannphboaaDoor
open Go.ChangeShapes Go.WideShapes Go.ChangeAt Go.RowKit
set_option linter.unusedVariables false

set_option maxHeartbeats 1000000 in
theorem law_unword (n : Int) (_hn : -9223372036854775808 ≤ n ∧ n ≤ 9223372036854775807) (w : World) (hT : BitW w) :
    Calls Tryd.prog 4 #[.int .i64 n] w fun e w' => e = .returned (.bool true) ∧ Below w.heap.size w w' := by
  have H1 := Lib.hid (unword_spec n)
  have H2 := Lib.hid (unword_impl n w hT)
  clear hT
  generalize unwV n = r at *
  obtain ⟨x, y⟩ := r
  simp only [retP] at H1 H2
  go_enter Tryd.func4, Tryd.ntmps4
  go_wp2_with fail
  refine (H1.out _).mono ?_
  rintro e w1 ⟨rfl, rfl⟩
  go_wp2_with fail
  refine H2.out.mono ?_
  rintro e w2 ⟨rfl, hb2⟩
  go_wp2
  go_ret
  exact ⟨rfl, hb2⟩
end Go.Proofs.YtdponcannphboaaDoor
