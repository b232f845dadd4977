/- What this text proves: requests, slots and orbits as values; the laws' own functions over one of them. -/
import Derived.Test.YtdfcamlnebcbpacBox
import Derived.Test.YtdfcamlnebcbpacRand
import Derived.WalkKit
import Derived.Lib.Hide
import Derived.BigQuiet
namespace Go.Proofs.Ytdfcamlnebcbpac
open Go.ChangeShapes Go.WideShapes Go.ChangeAt Go.RowKit
set_option linter.unusedVariables false

abbrev rqV (a b c d : Int) : Value := .agg #[.int .i64 a, .int .i64 b, .int .i64 c, .int .i64 d]
abbrev rqL (a b c d : Int) : List Value := [.int .i64 a, .int .i64 b, .int .i64 c, .int .i64 d]
theorem to_rq (a b c d : Int) (w : World) :
    Calls Try.prog 41 #[rqV a b c d] w fun e w' => e = .returned (rqV a b c d) ∧ Below w.heap.size w w' := by
  go_enter Try.func41, Try.ntmps41
  go_wp2
  refine bodyPost_ret (v := rqV a b c d) (by simp [results, Try.results41, go_sem]) rfl ⟨rfl, (((Below.refl _ w).alloc (Nat.le_refl _) _).alloc (by simp) _).alloc (by simp; omega) _⟩
theorem eq_rq (a b c d : Int) (w : World) :
    Calls Try.prog 51 #[rqV a b c d, rqV a b c d] w fun e w' => e = .returned (.bool true) ∧ Below w.heap.size w w' := by
  go_enter Try.func51, Try.ntmps51
  go_wp2
  go_ret
  exact ⟨rfl, ((Below.refl _ w).alloc (Nat.le_refl _) _).alloc (by simp) _⟩
abbrev slV (a b : Int) : Value := .agg #[.int .i64 a, .int .i64 b]
abbrev slL (a b : Int) : List Value := [.int .i64 a, .int .i64 b]
theorem to_sl (a b : Int) (w : World) :
    Calls Try.prog 42 #[slV a b] w fun e w' => e = .returned (slV a b) ∧ Below w.heap.size w w' := by
  go_enter Try.func42, Try.ntmps42
  go_wp2
  refine bodyPost_ret (v := slV a b) (by simp [results, Try.results42, go_sem]) rfl ⟨rfl, (((Below.refl _ w).alloc (Nat.le_refl _) _).alloc (by simp) _).alloc (by simp; omega) _⟩
theorem eq_sl (a b : Int) (w : World) :
    Calls Try.prog 52 #[slV a b, slV a b] w fun e w' => e = .returned (.bool true) ∧ Below w.heap.size w w' := by
  go_enter Try.func52, Try.ntmps52
  go_wp2
  go_ret
  exact ⟨rfl, ((Below.refl _ w).alloc (Nat.le_refl _) _).alloc (by simp) _⟩
abbrev obV (a b c : Int) : Value := .agg #[.int .i64 a, .int .i64 b, .int .i64 c]
abbrev obL (a b c : Int) : List Value := [.int .i64 a, .int .i64 b, .int .i64 c]
theorem to_ob (a b c : Int) (w : World) :
    Calls Try.prog 11 #[obV a b c] w fun e w' => e = .returned (obV a b c) ∧ Below w.heap.size w w' := by
  go_enter Try.func11, Try.ntmps11
  go_wp2
  refine bodyPost_ret (v := obV a b c) (by simp [results, Try.results11, go_sem]) rfl ⟨rfl, (((Below.refl _ w).alloc (Nat.le_refl _) _).alloc (by simp) _).alloc (by simp; omega) _⟩
end Go.Proofs.Ytdfcamlnebcbpac
