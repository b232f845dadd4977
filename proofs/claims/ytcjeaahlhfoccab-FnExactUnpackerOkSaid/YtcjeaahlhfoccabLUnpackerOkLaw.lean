/- What this text proves: the law of FnExactUnpackerOk: the program and the model answer alike, for every unpacker. -/
import Derived.Test.YtcjeaahlhfoccabIUn
import Derived.Test.YtcjeaahlhfoccabPktE
namespace Go.Proofs.Ytcjeaahlhfoccab
open Go.ChangeShapes Go.WideShapes Go.ChangeAt Go.RowKit
set_option linter.unusedVariables false

set_option maxHeartbeats 1000000 in
theorem law_unpackerok (c n : Int) (b : Bool) (r : ByteArray) (l : Int) (_ : -9223372036854775808 ≤ c ∧ c ≤ 9223372036854775807) (_ : -9223372036854775808 ≤ n ∧ n ≤ 9223372036854775807) (hd : r.size ≤ maxLen) (_ : -9223372036854775808 ≤ l ∧ l ≤ 9223372036854775807) (w : World) :
    Calls Try.prog 7 #[unV c n b r l] w fun e w' => e = .returned (.bool true) ∧ Below w.heap.size w w' := by
  have F0 := Fit.made w (unL c n b r l) 51
  have hs := fun W => sz_unp c n b r l 1048576 (Nat.le_refl _) hd W
  have HT := Lib.hid (to_unp c n b r l)
  by_cases hL : r.size ≤ 1048576
  · have HX := Lib.hid (up_spec c n b r l)
    have HY := Lib.hid (up_impl c n b r l)
    simp only [if_pos hL] at hs
    have hd0 : decide (1048576 - (r.size : Int) < 0) = false := by simp; omega
    have HS := Lib.hid hs
    clear hs
    generalize decide (UpOk c n b r l) = r0 at *
    have hself : (r0 != r0) = false := by simp
    go_enter Try.func7, Try.ntmps7
    go_wp2_with fail
    refine (HS.out _).mono ?_
    rintro e w1 ⟨rfl, hb1⟩
    have F1 := Lib.hid (F0.more hb1)
    obtain ⟨k0, k1, k2, k3, k4⟩ := F1.out.box.five
    clear hb1 F0
    go_wp2_with fail
    refine (HT.out _).mono ?_
    rintro e w2 ⟨rfl, hb2⟩
    have F2 := Lib.hid (F1.out.more hb2)
    clear hb2 k0 k1 k2 k3 k4
    go_wp2_with fail
    refine (HX.out _).mono ?_
    rintro e w3 ⟨rfl, hb3⟩
    have F3 := Lib.hid (F2.out.more hb3)
    obtain ⟨k0, k1, k2, k3, k4⟩ := F3.out.box.five
    clear hb3
    go_wp2_with fail
    refine (HT.out _).mono ?_
    rintro e w4 ⟨rfl, hb4⟩
    have F4 := Lib.hid (F3.out.more hb4)
    clear hb4 k0 k1 k2 k3 k4
    go_wp2_with fail
    refine (HY.out _).mono ?_
    rintro e w5 ⟨rfl, hb5⟩
    have F5 := Lib.hid (F4.out.more hb5)
    clear hb5
    go_wp2
    go_ret
    exact ⟨rfl, F5.out.below⟩
  · simp only [if_neg hL] at hs
    have HS := Lib.hid hs
    clear hs
    go_enter Try.func7, Try.ntmps7
    go_wp2_with fail
    refine (HS.out _).mono ?_
    rintro e w1 ⟨rfl, hb1⟩
    have F1 := Lib.hid (F0.more hb1)
    clear hb1 F0
    go_wp2
    go_ret
    exact ⟨rfl, F1.out.below⟩
end Go.Proofs.Ytcjeaahlhfoccab
