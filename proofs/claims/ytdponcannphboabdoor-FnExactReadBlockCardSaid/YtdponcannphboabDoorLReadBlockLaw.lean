/- What this text proves: the law of FnExactReadBlock: the program and the model answer alike, for every string. -/
import Derived.Test.YtdponcannphboabDoorLnkV
namespace Go.Proofs.YtdponcannphboabDoor
open Go.ChangeShapes Go.WideShapes Go.ChangeAt Go.RowKit
set_option linter.unusedVariables false

set_option maxHeartbeats 1000000 in
theorem law_readblock (s : ByteArray) (hs : s.size ≤ maxLen) (w : World) (hT : BitW w) :
    Calls Tryd.prog 4 #[.string s] w fun e w' => e = .returned (.bool true) ∧ Below w.heap.size w w' := by
  have hs' : s.size ≤ 9223372036854775807 := by unfold maxLen at hs; omega
  by_cases hbig : 1048576 < s.size
  · clear hT
    have hd0 : decide ((1048576 : Int) < (s.size : Int)) = true := by simp; omega
    go_enter Tryd.func4, Tryd.ntmps4
    go_wp2
    go_ret
    exact ⟨rfl, Below.refl _ _⟩
  · have hd0 : decide ((1048576 : Int) < (s.size : Int)) = false := by simp; omega
    have HT := Lib.hid hT
    clear hT
    have H1 := Lib.hid (read_spec s (by omega))
    have H2 := Lib.hid (read_impl s (by omega))
    generalize readV s = r at *
    obtain ⟨x, y, z⟩ := r
    simp only [retB] at H1 H2
    go_enter Tryd.func4, Tryd.ntmps4
    go_wp2_with fail
    refine (H1.out _).mono ?_
    rintro e w1 ⟨rfl, hb1⟩
    go_wp2_with fail
    refine (H2.out _ (HT.out.more hb1)).mono ?_
    rintro e w2 ⟨rfl, hb2⟩
    go_wp2
    go_ret
    exact ⟨rfl, hb1.trans (hb2.mono hb1.size)⟩
end Go.Proofs.YtdponcannphboabDoor
