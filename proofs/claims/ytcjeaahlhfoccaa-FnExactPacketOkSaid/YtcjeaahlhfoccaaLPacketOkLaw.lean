/- What this text proves: the law of FnExactPacketOk: the program and the model answer alike, for every packet. -/
import Derived.Test.YtcjeaahlhfoccaaIPk
import Derived.Test.YtcjeaahlhfoccaaPktE
namespace Go.Proofs.Ytcjeaahlhfoccaa
open Go.ChangeShapes Go.WideShapes Go.ChangeAt Go.RowKit
set_option linter.unusedVariables false

set_option maxHeartbeats 1000000 in
theorem law_packetok (a q : Int) (d : ByteArray) (_ : -9223372036854775808 ≤ a ∧ a ≤ 9223372036854775807) (_ : -9223372036854775808 ≤ q ∧ q ≤ 9223372036854775807) (hd : d.size ≤ maxLen) (w : World) :
    Calls Try.prog 6 #[pkV a q d] w fun e w' => e = .returned (.bool true) ∧ Below w.heap.size w w' := by
  have F0 := Fit.made w (pkL a q d) 60
  have hs := fun W => sz_pkt a q d 1048576 (Nat.le_refl _) hd W
  have HT := Lib.hid (to_pkt a q d)
  by_cases hL : d.size ≤ 1048576
  · have HX := Lib.hid (pk_spec a q d)
    have HY := Lib.hid (pk_impl a q d)
    simp only [if_pos hL] at hs
    have hd0 : decide (1048576 - (d.size : Int) < 0) = false := by simp; omega
    have HS := Lib.hid hs
    clear hs
    generalize decide (PkOk a q d) = r0 at *
    have hself : (r0 != r0) = false := by simp
    go_enter Try.func6, Try.ntmps6
    go_wp2_with fail
    refine (HS.out _).mono ?_
    rintro e w1 ⟨rfl, hb1⟩
    have F1 := Lib.hid (F0.more hb1)
    obtain ⟨k0, k1, k2⟩ := F1.out.box.three
    clear hb1 F0
    go_wp2_with fail
    refine (HT.out _).mono ?_
    rintro e w2 ⟨rfl, hb2⟩
    have F2 := Lib.hid (F1.out.more hb2)
    clear hb2 k0 k1 k2
    go_wp2_with fail
    refine (HX.out _).mono ?_
    rintro e w3 ⟨rfl, hb3⟩
    have F3 := Lib.hid (F2.out.more hb3)
    obtain ⟨k0, k1, k2⟩ := F3.out.box.three
    clear hb3
    go_wp2_with fail
    refine (HT.out _).mono ?_
    rintro e w4 ⟨rfl, hb4⟩
    have F4 := Lib.hid (F3.out.more hb4)
    clear hb4 k0 k1 k2
    go_wp2_with fail
    refine (HY.out _).mono ?_
    rintro e w5 ⟨rfl, hb5⟩
    have F5 := Lib.hid (F4.out.more hb5)
    clear hb5
    go_wp2
    go_ret
    exact ⟨rfl, F5.out.below⟩
  · simp only [if_neg hL] at hs
    have HS := Lib.hid hs
    clear hs
    go_enter Try.func6, Try.ntmps6
    go_wp2_with fail
    refine (HS.out _).mono ?_
    rintro e w1 ⟨rfl, hb1⟩
    have F1 := Lib.hid (F0.more hb1)
    clear hb1 F0
    go_wp2
    go_ret
    exact ⟨rfl, F1.out.below⟩
end Go.Proofs.Ytcjeaahlhfoccaa
