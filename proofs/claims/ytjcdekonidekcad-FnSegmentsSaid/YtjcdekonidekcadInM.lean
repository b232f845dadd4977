/- What this text proves: the contracts of the laws' marks over lists of numbers: marks that were written are found again, and change nothing else. -/
import Derived.Test.YtjcdekonidekcadInS
import Derived.Test.YtjcdekonidekcadGro
namespace Go.Proofs.Ytjcdekonidekcad
open Go.ChangeShapes Go.WideShapes Go.ChangeAt Go.RowKit
set_option linter.unusedVariables false


/-- The mark of the i-th. -/
def mkIn (M i : Nat) : List Value := [.int .i64 ((M : Int) + (i : Int))]

end Go.Proofs.Ytjcdekonidekcad
