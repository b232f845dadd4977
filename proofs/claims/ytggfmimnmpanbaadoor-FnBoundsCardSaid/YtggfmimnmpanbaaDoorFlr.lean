/- What this text proves: the contracts of the model's and the program's quotient that is rounded down. -/
import Derived.Test.YtggfmimnmpanbaaDoorCkm
import Derived.WalkKit
import Derived.Lib.Hide
import Derived.IntWalk
import Derived.BigQuiet
namespace Go.Proofs.YtggfmimnmpanbaaDoor
open Go.ChangeShapes Go.WideShapes Go.ChangeAt Go.RowKit
set_option linter.unusedVariables false

theorem tdiv_in {a b : Int} (hb : 0 < b) (ha : -4000000000000000 ≤ a ∧ a ≤ 4000000000000000) : -4000000000000001 ≤ a.tdiv b ∧ a.tdiv b ≤ 4000000000000001 := by
  have h := flI_eq a b hb
  have h1 : -4000000000000000 ≤ a / b := by rw [Int.le_ediv_iff_mul_le hb]; omega
  have h2 : a / b < 4000000000000001 := by rw [Int.ediv_lt_iff_lt_mul hb]; omega
  unfold flI at h
  split at h <;> omega
theorem fl_spec (a b : Int) (hb : 0 < b) (ha : -4000000000000000 ≤ a ∧ a ≤ 4000000000000000) (w : World) :
    Calls Tryd.prog 40 #[.int .i64 a, .int .i64 b] w fun e w' => e = .returned (.int .i64 (a / b)) ∧ w = w' := by
  have hT := tdiv_in hb ha
  have hF := flI_eq a b hb
  have h0 : ¬ b = 0 := by omega
  have w1 : wrap64 (a.tdiv b) = a.tdiv b := by unfold wrap64; omega
  by_cases hr : a.tmod b < 0
  · have hd : decide (a.tmod b < 0) = true := by simpa using hr
    have HE := Lib.hid (show wrap64 (wrap64 (a.tdiv b) - 1) = a / b from by
      rw [w1]
      unfold flI at hF
      rw [if_pos hr] at hF
      unfold wrap64
      omega)
    clear hF hr ha hb w1 hT
    go_enter Tryd.func40, Tryd.ntmps40
    go_wp2
    go_ret
    exact ⟨by rw [HE.out]; rfl, rfl⟩
  · have hd : decide (a.tmod b < 0) = false := by simpa using hr
    have HE := Lib.hid (show wrap64 (a.tdiv b) = a / b from by rw [w1]; unfold flI at hF; rwa [if_neg hr] at hF)
    clear hF hr ha hb w1 hT
    go_enter Tryd.func40, Tryd.ntmps40
    go_wp2
    go_ret
    exact ⟨by rw [HE.out]; rfl, rfl⟩
theorem fl_impl (a b : Int) (hb : 0 < b) (ha : -4000000000000000 ≤ a ∧ a ≤ 4000000000000000) (w : World) :
    Calls Tryd.prog 34 #[.int .i64 a, .int .i64 b] w fun e w' => e = .returned (.int .i64 (a / b)) ∧ w = w' := by
  have hT := tdiv_in hb ha
  have hF := flI_eq a b hb
  have h0 : ¬ b = 0 := by omega
  have w1 : wrap64 (a.tdiv b) = a.tdiv b := by unfold wrap64; omega
  by_cases hr : a.tmod b < 0
  · have hd : decide (a.tmod b < 0) = true := by simpa using hr
    have HE := Lib.hid (show wrap64 (wrap64 (a.tdiv b) - 1) = a / b from by
      rw [w1]
      unfold flI at hF
      rw [if_pos hr] at hF
      unfold wrap64
      omega)
    clear hF hr ha hb w1 hT
    go_enter Tryd.func34, Tryd.ntmps34
    go_wp2
    go_ret
    exact ⟨by rw [HE.out]; rfl, rfl⟩
  · have hd : decide (a.tmod b < 0) = false := by simpa using hr
    have HE := Lib.hid (show wrap64 (a.tdiv b) = a / b from by rw [w1]; unfold flI at hF; rwa [if_neg hr] at hF)
    clear hF hr ha hb w1 hT
    go_enter Tryd.func34, Tryd.ntmps34
    go_wp2
    go_ret
    exact ⟨by rw [HE.out]; rfl, rfl⟩
end Go.Proofs.YtggfmimnmpanbaaDoor
