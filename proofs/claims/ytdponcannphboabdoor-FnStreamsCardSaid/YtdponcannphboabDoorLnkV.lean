/- What this text proves: the contracts of ReadBlock: program and model both return, for every text, what is read of a block. -/
import Derived.Test.YtdponcannphboabDoorLnkR
namespace Go.Proofs.YtdponcannphboabDoor
open Go.ChangeShapes Go.WideShapes Go.ChangeAt Go.RowKit
set_option linter.unusedVariables false

set_option maxHeartbeats 2000000 in
theorem read_impl (s : ByteArray) (hs : s.size ≤ 1048576) (w : World) (ht : BitW w) :
    Calls Tryd.prog 12 #[.string s] w fun e w' => e = retB (readV s) ∧ Below w.heap.size w w' := by
  have HT := Lib.hid (fun W (hb : Below w.heap.size w W) => ht.more hb)
  clear ht
  by_cases h0 : s.size = 0
  · have HV := Lib.hid (show readV s = (⟨#[]⟩, 0, false) by unfold readV; rw [if_pos h0])
    have d0 := text_none s h0
    go_enter Tryd.func12, Tryd.ntmps12
    go_wp2
    go_ret3
    exact ⟨by rw [HV.out]; rfl, Below.refl _ _⟩
  · have d0 := text_full s (by omega)
    have HV := Lib.hid (show decT (gatherT (scrT s)) = readV s by unfold readV; rw [if_neg h0])
    have H1 := Lib.hid (scram_impl s hs)
    have z1 := scrT_size s
    have z2 := gatherT_size (scrT s)
    have H2 := Lib.hid (gather_impl (scrT s) (by omega))
    have H3 := Lib.hid (unblock_impl (gatherT (scrT s)) (by omega))
    rw [HV.out] at H3
    generalize readV s = r at *
    obtain ⟨x, y, z⟩ := r
    simp only [retB] at H3
    go_enter Tryd.func12, Tryd.ntmps12
    go_wp2_with fail
    refine (H1.out _).mono ?_
    rintro e w1 ⟨rfl, hb1⟩
    go_wp2_with fail
    refine (H2.out _).mono ?_
    rintro e w2 ⟨rfl, hb2⟩
    go_wp2_with fail
    refine (H3.out _ (HT.out _ (hb1.trans (hb2.mono hb1.size)))).mono ?_
    rintro e w3 ⟨rfl, hb3⟩
    go_wp2
    go_ret3
    exact ⟨rfl, (hb1.trans (hb2.mono hb1.size)).trans (hb3.mono (Nat.le_trans hb1.size hb2.size))⟩

set_option maxHeartbeats 2000000 in
theorem read_spec (s : ByteArray) (hs : s.size ≤ 1048576) (w : World) :
    Calls Tryd.prog 11 #[.string s] w fun e w' => e = retB (readV s) ∧ Below w.heap.size w w' := by
  by_cases h0 : s.size = 0
  · have HV := Lib.hid (show readV s = (⟨#[]⟩, 0, false) by unfold readV; rw [if_pos h0])
    have d0 := text_none s h0
    go_enter Tryd.func11, Tryd.ntmps11
    go_wp2
    go_ret3
    exact ⟨by rw [HV.out]; rfl, Below.refl _ _⟩
  · have d0 := text_full s (by omega)
    have HV := Lib.hid (show decT (gatherT (scrT s)) = readV s by unfold readV; rw [if_neg h0])
    have H1 := Lib.hid (scram_spec s hs)
    have z1 := scrT_size s
    have z2 := gatherT_size (scrT s)
    have H2 := Lib.hid (gather_spec (scrT s) (by omega))
    have H3 := Lib.hid (unblock_spec (gatherT (scrT s)) (by omega))
    rw [HV.out] at H3
    generalize readV s = r at *
    obtain ⟨x, y, z⟩ := r
    simp only [retB] at H3
    go_enter Tryd.func11, Tryd.ntmps11
    go_wp2_with fail
    refine (H1.out _).mono ?_
    rintro e w1 ⟨rfl, hb1⟩
    go_wp2_with fail
    refine (H2.out _).mono ?_
    rintro e w2 ⟨rfl, hb2⟩
    go_wp2_with fail
    refine (H3.out _).mono ?_
    rintro e w3 ⟨rfl, hb3⟩
    go_wp2
    go_ret3
    exact ⟨rfl, (hb1.trans (hb2.mono hb1.size)).trans (hb3.mono (Nat.le_trans hb1.size hb2.size))⟩
end Go.Proofs.YtdponcannphboabDoor
