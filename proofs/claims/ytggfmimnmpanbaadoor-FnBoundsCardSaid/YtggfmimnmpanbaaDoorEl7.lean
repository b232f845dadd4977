/- What this text proves: pairs as values; the laws' own functions over one of them. -/
import Derived.Test.YtggfmimnmpanbaaDoorBox
import Derived.Test.YtggfmimnmpanbaaDoorRand
import Derived.WalkKit
import Derived.Lib.Hide
import Derived.BigQuiet
namespace Go.Proofs.YtggfmimnmpanbaaDoor
open Go.ChangeShapes Go.WideShapes Go.ChangeAt Go.RowKit
set_option linter.unusedVariables false

abbrev prV (a b : Int) : Value := .agg #[.int .i64 a, .int .i64 b]
abbrev prL (a b : Int) : List Value := [.int .i64 a, .int .i64 b]
theorem to_pr (a b : Int) (w : World) :
    Calls Tryd.prog 23 #[prV a b] w fun e w' => e = .returned (prV a b) ∧ Below w.heap.size w w' := by
  go_enter Tryd.func23, Tryd.ntmps23
  go_wp2
  refine bodyPost_ret (v := prV a b) (by simp [results, Tryd.results23, go_sem]) rfl ⟨rfl, (((Below.refl _ w).alloc (Nat.le_refl _) _).alloc (by simp) _).alloc (by simp; omega) _⟩
theorem eq_pr (a b : Int) (w : World) :
    Calls Tryd.prog 39 #[prV a b, prV a b] w fun e w' => e = .returned (.bool true) ∧ Below w.heap.size w w' := by
  go_enter Tryd.func39, Tryd.ntmps39
  go_wp2
  go_ret
  exact ⟨rfl, ((Below.refl _ w).alloc (Nat.le_refl _) _).alloc (by simp) _⟩
end Go.Proofs.YtggfmimnmpanbaaDoor
