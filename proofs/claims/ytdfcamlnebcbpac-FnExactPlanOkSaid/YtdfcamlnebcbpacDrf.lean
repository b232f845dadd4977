/- What this text proves: drifts of clocks as values; the contracts of the model's and the program's DriftOk. -/
import Derived.Test.YtdfcamlnebcbpacCkm
import Derived.Test.YtdfcamlnebcbpacBox
import Derived.Test.YtdfcamlnebcbpacRand
import Derived.Test.YtdfcamlnebcbpacPkt
import Derived.Test.YtdfcamlnebcbpacIPk
import Derived.BigQuiet
namespace Go.Proofs.Ytdfcamlnebcbpac
open Go.ChangeShapes Go.WideShapes Go.ChangeAt Go.RowKit
set_option linter.unusedVariables false

abbrev drV (r o : Int) : Value := .agg #[.int .i64 r, .int .i64 o]
abbrev drL (r o : Int) : List Value := [.int .i64 r, .int .i64 o]
theorem iw_anyD (a b c : Int) (w : World) :
    Calls Try.prog 86 #[.int .i64 a, .int .i64 b, .int .i64 c] w fun e w' => e = .returned (.bool (decide (b ≤ a ∧ a ≤ c))) ∧ w = w' := by
  by_cases h : b ≤ a ∧ a ≤ c
  · rw [decide_eq_true h]
    exact iw_yes a b c h.1 h.2 w
  · rw [decide_eq_false h]
    exact iw_no a b c h w
theorem dr_bool (r o : Int) : decide (DrOk r o) = (decide (-100 ≤ r ∧ r ≤ 100) && decide (0 ≤ o ∧ o ≤ 1000)) := by
  rw [Bool.eq_iff_iff]; simp only [Bool.and_eq_true, decide_eq_true_iff]; exact Iff.rfl
end Go.Proofs.Ytdfcamlnebcbpac
