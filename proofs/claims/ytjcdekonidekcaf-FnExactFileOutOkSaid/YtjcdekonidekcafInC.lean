/- What this text proves: the contract of slices.Clone over lists of numbers. -/
import Derived.Test.YtjcdekonidekcafInS
import Derived.Lib.SliceRun
namespace Go.Proofs.Ytjcdekonidekcaf
open Go.ChangeShapes Go.WideShapes Go.ChangeAt Go.RowKit
set_option linter.unusedVariables false


end Go.Proofs.Ytjcdekonidekcaf
