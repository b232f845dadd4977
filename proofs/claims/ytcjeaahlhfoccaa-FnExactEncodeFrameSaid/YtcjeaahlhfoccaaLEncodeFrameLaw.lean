/- What this text proves: the law of FnExactEncodeFrame: the program and the model answer alike, for every frame. -/
import Derived.Test.YtcjeaahlhfoccaaIFe
namespace Go.Proofs.Ytcjeaahlhfoccaa
open Go.ChangeShapes Go.WideShapes Go.ChangeAt Go.RowKit
set_option linter.unusedVariables false

set_option maxHeartbeats 1000000 in
theorem law_encodeframe (c n f : Int) (d : ByteArray) (_ : -9223372036854775808 ≤ c ∧ c ≤ 9223372036854775807) (_ : -9223372036854775808 ≤ n ∧ n ≤ 9223372036854775807) (_ : -9223372036854775808 ≤ f ∧ f ≤ 9223372036854775807) (hd : d.size ≤ maxLen) (w : World) :
    Calls Try.prog 10 #[frV c n f d] w fun e w' => e = .returned (.bool true) ∧ Below w.heap.size w w' := by
  have F0 := Fit.made w (frL c n f d) 66
  have hs := fun W => sz_frm c n f d 1048576 (Nat.le_refl _) hd W
  have HT := Lib.hid (to_frm c n f d)
  by_cases hL : d.size ≤ 1048576
  · have HX := Lib.hid (encF_spec c n f d (by omega))
    have HY := Lib.hid (encF_impl c n f d (by omega))
    simp only [if_pos hL] at hs
    have hd0 : decide (1048576 - (d.size : Int) < 0) = false := by simp; omega
    have HS := Lib.hid hs
    clear hs
    generalize frT c n f d = r0 at *
    have hself : (r0.toList != r0.toList) = false := by simp
    go_enter Try.func10, Try.ntmps10
    go_wp2_with fail
    refine (HS.out _).mono ?_
    rintro e w1 ⟨rfl, hb1⟩
    have F1 := Lib.hid (F0.more hb1)
    obtain ⟨k0, k1, k2, k3⟩ := F1.out.box.four
    clear hb1 F0
    go_wp2_with fail
    refine (HT.out _).mono ?_
    rintro e w2 ⟨rfl, hb2⟩
    have F2 := Lib.hid (F1.out.more hb2)
    clear hb2 k0 k1 k2 k3
    go_wp2_with fail
    refine (HX.out _).mono ?_
    rintro e w3 ⟨rfl, hb3⟩
    have F3 := Lib.hid (F2.out.more hb3)
    obtain ⟨k0, k1, k2, k3⟩ := F3.out.box.four
    clear hb3
    go_wp2_with fail
    refine (HT.out _).mono ?_
    rintro e w4 ⟨rfl, hb4⟩
    have F4 := Lib.hid (F3.out.more hb4)
    clear hb4 k0 k1 k2 k3
    go_wp2_with fail
    refine (HY.out _).mono ?_
    rintro e w5 ⟨rfl, hb5⟩
    have F5 := Lib.hid (F4.out.more hb5)
    clear hb5
    go_wp2
    go_ret
    exact ⟨rfl, F5.out.below⟩
  · simp only [if_neg hL] at hs
    have HS := Lib.hid hs
    clear hs
    go_enter Try.func10, Try.ntmps10
    go_wp2_with fail
    refine (HS.out _).mono ?_
    rintro e w1 ⟨rfl, hb1⟩
    have F1 := Lib.hid (F0.more hb1)
    clear hb1 F0
    go_wp2
    go_ret
    exact ⟨rfl, F1.out.below⟩
end Go.Proofs.Ytcjeaahlhfoccaa
