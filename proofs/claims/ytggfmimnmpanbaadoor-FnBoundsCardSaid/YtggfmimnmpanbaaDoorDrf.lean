/- What this text proves: drifts of clocks as values; the contracts of the model's and the program's DriftOk. -/
import Derived.Test.YtggfmimnmpanbaaDoorCkm
import Derived.Test.YtggfmimnmpanbaaDoorBox
import Derived.Test.YtggfmimnmpanbaaDoorRand
import Derived.Test.YtggfmimnmpanbaaDoorPkt
import Derived.Test.YtggfmimnmpanbaaDoorIPk
import Derived.BigQuiet
namespace Go.Proofs.YtggfmimnmpanbaaDoor
open Go.ChangeShapes Go.WideShapes Go.ChangeAt Go.RowKit
set_option linter.unusedVariables false

abbrev drV (r o : Int) : Value := .agg #[.int .i64 r, .int .i64 o]
abbrev drL (r o : Int) : List Value := [.int .i64 r, .int .i64 o]
theorem iw_anyD (a b c : Int) (w : World) :
    Calls Tryd.prog 33 #[.int .i64 a, .int .i64 b, .int .i64 c] w fun e w' => e = .returned (.bool (decide (b ≤ a ∧ a ≤ c))) ∧ w = w' := by
  by_cases h : b ≤ a ∧ a ≤ c
  · rw [decide_eq_true h]
    exact iw_yes a b c h.1 h.2 w
  · rw [decide_eq_false h]
    exact iw_no a b c h w
theorem dr_bool (r o : Int) : decide (DrOk r o) = (decide (-100 ≤ r ∧ r ≤ 100) && decide (0 ≤ o ∧ o ≤ 1000)) := by
  rw [Bool.eq_iff_iff]; simp only [Bool.and_eq_true, decide_eq_true_iff]; exact Iff.rfl
theorem dr_impl (r o : Int) (w : World) :
    Calls Tryd.prog 32 #[drV r o] w fun e w' => e = .returned (.bool (decide (DrOk r o))) ∧ Below w.heap.size w w' := by
  have HO := Lib.hid (dr_bool r o)
  have H1 := Lib.hid (iw_anyD r (-100) 100)
  have H2 := Lib.hid (iw_anyD o 0 1000)
  generalize decide (-100 ≤ r ∧ r ≤ 100) = x at *
  generalize decide (0 ≤ o ∧ o ≤ 1000) = y at *
  cases x with
  | false =>
    go_enter Tryd.func32, Tryd.ntmps32
    go_wp2_with fail
    refine (H1.out _).mono ?_
    rintro e w' ⟨rfl, rfl⟩
    go_wp2
    go_ret
    exact ⟨by rw [HO.out]; rfl, (Below.refl _ w).alloc (Nat.le_refl _) _⟩
  | true =>
    go_enter Tryd.func32, Tryd.ntmps32
    go_wp2_with fail
    refine (H1.out _).mono ?_
    rintro e w' ⟨rfl, rfl⟩
    go_wp2_with fail
    refine (H2.out _).mono ?_
    rintro e w' ⟨rfl, rfl⟩
    go_wp2
    go_ret
    exact ⟨by rw [HO.out]; rfl, (Below.refl _ w).alloc (Nat.le_refl _) _⟩
end Go.Proofs.YtggfmimnmpanbaaDoor
