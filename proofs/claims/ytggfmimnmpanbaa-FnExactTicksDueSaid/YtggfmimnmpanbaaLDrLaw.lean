/- What this text proves: the laws of FnExactDriftOk, FnExactBoardTime and FnExactTicksDue: the program and the model answer alike, for every drift and time. -/
import Derived.Test.YtggfmimnmpanbaaTkd
namespace Go.Proofs.Ytggfmimnmpanbaa
open Go.ChangeShapes Go.WideShapes Go.ChangeAt Go.RowKit
set_option linter.unusedVariables false

set_option maxHeartbeats 1000000 in
theorem law_driftok (r o : Int) (_ : -9223372036854775808 ≤ r ∧ r ≤ 9223372036854775807) (_ : -9223372036854775808 ≤ o ∧ o ≤ 9223372036854775807) (w : World) :
    Calls Try.prog 4 #[drV r o] w fun e w' => e = .returned (.bool true) ∧ Below w.heap.size w w' := by
  have H1 := Lib.hid (to_dr r o)
  have H2 := Lib.hid (dr_spec r o)
  have H3 := Lib.hid (dr_impl r o)
  have F0 := Lib.hid (Fit.made w (drL r o) 29)
  have c0 := F0.out.box.cell 0 (by simp)
  have c1 := F0.out.box.cell 1 (by simp)
  generalize decide (DrOk r o) = x at *
  have hx : (x != x) = false := by simp
  go_enter Try.func4, Try.ntmps4
  go_wp2_with fail
  refine (H1.out _).mono ?_
  rintro e w1 ⟨rfl, hb1⟩
  have F1 := Lib.hid (F0.out.more hb1)
  clear hb1 c0 c1
  go_wp2_with fail
  refine (H2.out _).mono ?_
  rintro e w2 ⟨rfl, hb2⟩
  have F2 := Lib.hid (F1.out.more hb2)
  have c0 := F2.out.box.cell 0 (by simp)
  have c1 := F2.out.box.cell 1 (by simp)
  clear hb2
  go_wp2_with fail
  refine (H1.out _).mono ?_
  rintro e w3 ⟨rfl, hb3⟩
  have F3 := Lib.hid (F2.out.more hb3)
  clear hb3 c0 c1
  go_wp2_with fail
  refine (H3.out _).mono ?_
  rintro e w4 ⟨rfl, hb4⟩
  have F4 := Lib.hid (F3.out.more hb4)
  clear hb4
  go_wp2
  go_ret
  exact ⟨rfl, F4.out.below⟩
set_option maxHeartbeats 1000000 in
theorem law_boardtime (r o t : Int) (_ : -9223372036854775808 ≤ r ∧ r ≤ 9223372036854775807) (_ : -9223372036854775808 ≤ o ∧ o ≤ 9223372036854775807) (ht : -9223372036854775808 ≤ t ∧ t ≤ 9223372036854775807) (w : World) :
    Calls Try.prog 5 #[drV r o, .int .i64 t] w fun e w' => e = .returned (.bool true) ∧ Below w.heap.size w w' := by
  have H1 := Lib.hid (to_dr r o)
  have H2 := Lib.hid (bt_spec r o t)
  have H3 := Lib.hid (bt_impl r o t)
  have F0 := Lib.hid (Fit.made w (drL r o) 29)
  have c0 := F0.out.box.cell 0 (by simp)
  have c1 := F0.out.box.cell 1 (by simp)
  generalize btI r o t = x at *
  have hx : (x != x) = false := by simp
  go_enter Try.func5, Try.ntmps5
  go_wp2_with fail
  refine (H1.out _).mono ?_
  rintro e w1 ⟨rfl, hb1⟩
  have F1 := Lib.hid (F0.out.more hb1)
  clear hb1 c0 c1
  go_wp2_with fail
  refine (H2.out _).mono ?_
  rintro e w2 ⟨rfl, hb2⟩
  have F2 := Lib.hid (F1.out.more hb2)
  have c0 := F2.out.box.cell 0 (by simp)
  have c1 := F2.out.box.cell 1 (by simp)
  clear hb2
  go_wp2_with fail
  refine (H1.out _).mono ?_
  rintro e w3 ⟨rfl, hb3⟩
  have F3 := Lib.hid (F2.out.more hb3)
  clear hb3 c0 c1
  go_wp2_with fail
  refine (H3.out _).mono ?_
  rintro e w4 ⟨rfl, hb4⟩
  have F4 := Lib.hid (F3.out.more hb4)
  clear hb4
  go_wp2
  go_ret
  exact ⟨rfl, F4.out.below⟩
set_option maxHeartbeats 1000000 in
theorem law_ticksdue (r o t : Int) (_ : -9223372036854775808 ≤ r ∧ r ≤ 9223372036854775807) (_ : -9223372036854775808 ≤ o ∧ o ≤ 9223372036854775807) (ht : -9223372036854775808 ≤ t ∧ t ≤ 9223372036854775807) (w : World) :
    Calls Try.prog 6 #[drV r o, .int .i64 t] w fun e w' => e = .returned (.bool true) ∧ Below w.heap.size w w' := by
  have H1 := Lib.hid (to_dr r o)
  have H2 := Lib.hid (td_spec r o t)
  have H3 := Lib.hid (td_impl r o t ht)
  have F0 := Lib.hid (Fit.made w (drL r o) 29)
  have c0 := F0.out.box.cell 0 (by simp)
  have c1 := F0.out.box.cell 1 (by simp)
  generalize tdI r o t = x at *
  have hx : (x != x) = false := by simp
  go_enter Try.func6, Try.ntmps6
  go_wp2_with fail
  refine (H1.out _).mono ?_
  rintro e w1 ⟨rfl, hb1⟩
  have F1 := Lib.hid (F0.out.more hb1)
  clear hb1 c0 c1
  go_wp2_with fail
  refine (H2.out _).mono ?_
  rintro e w2 ⟨rfl, hb2⟩
  have F2 := Lib.hid (F1.out.more hb2)
  have c0 := F2.out.box.cell 0 (by simp)
  have c1 := F2.out.box.cell 1 (by simp)
  clear hb2
  go_wp2_with fail
  refine (H1.out _).mono ?_
  rintro e w3 ⟨rfl, hb3⟩
  have F3 := Lib.hid (F2.out.more hb3)
  clear hb3 c0 c1
  go_wp2_with fail
  refine (H3.out _).mono ?_
  rintro e w4 ⟨rfl, hb4⟩
  have F4 := Lib.hid (F3.out.more hb4)
  clear hb4
  go_wp2
  go_ret
  exact ⟨rfl, F4.out.below⟩
end Go.Proofs.Ytggfmimnmpanbaa
