/- What this text proves: requests, slots and orbits as values; the laws' own functions over one of them. -/
import Derived.Test.YtdfcamlnebcbpaaBox
import Derived.Test.YtdfcamlnebcbpaaRand
import Derived.WalkKit
import Derived.Lib.Hide
import Derived.BigQuiet
namespace Go.Proofs.Ytdfcamlnebcbpaa
open Go.ChangeShapes Go.WideShapes Go.ChangeAt Go.RowKit
set_option linter.unusedVariables false

abbrev rqV (a b c d : Int) : Value := .agg #[.int .i64 a, .int .i64 b, .int .i64 c, .int .i64 d]
abbrev rqL (a b c d : Int) : List Value := [.int .i64 a, .int .i64 b, .int .i64 c, .int .i64 d]
abbrev slV (a b : Int) : Value := .agg #[.int .i64 a, .int .i64 b]
abbrev slL (a b : Int) : List Value := [.int .i64 a, .int .i64 b]
abbrev obV (a b c : Int) : Value := .agg #[.int .i64 a, .int .i64 b, .int .i64 c]
abbrev obL (a b c : Int) : List Value := [.int .i64 a, .int .i64 b, .int .i64 c]
theorem to_ob (a b c : Int) (w : World) :
    Calls Try.prog 29 #[obV a b c] w fun e w' => e = .returned (obV a b c) ∧ Below w.heap.size w w' := by
  go_enter Try.func29, Try.ntmps29
  go_wp2
  refine bodyPost_ret (v := obV a b c) (by simp [results, Try.results29, go_sem]) rfl ⟨rfl, (((Below.refl _ w).alloc (Nat.le_refl _) _).alloc (by simp) _).alloc (by simp; omega) _⟩
end Go.Proofs.Ytdfcamlnebcbpaa
