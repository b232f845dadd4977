/- What this text proves: the contracts of the laws' marks over lists of requests: marks that were written are found again, and change nothing else. -/
import Derived.Test.YtdfcamlnebcbpaaRqS
import Derived.Test.YtdfcamlnebcbpaaMarkT
import Derived.Test.YtdfcamlnebcbpaaGro
namespace Go.Proofs.Ytdfcamlnebcbpaa
open Go.ChangeShapes Go.WideShapes Go.ChangeAt Go.RowKit
set_option linter.unusedVariables false


/-- The marks of the i-th row. -/
def mkRq (M i : Nat) : List Value := [.int .i64 ((M : Int) + 4 * (i : Int)), .int .i64 ((M : Int) + 4 * (i : Int) + 1), .int .i64 ((M : Int) + 4 * (i : Int) + 1 + 1), .int .i64 ((M : Int) + 4 * (i : Int) + 1 + 1 + 1)]
theorem row_rq (x : List Value) (hx : x.length = 4) (a0 a1 a2 a3 : Value) : ((((x.set 0 a0).set 1 a1).set 2 a2).set 3 a3) = [a0, a1, a2, a3] := by
  match x, hx with
  | [_, _, _, _], _ => rfl

end Go.Proofs.Ytdfcamlnebcbpaa
