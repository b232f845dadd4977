/- What this text proves: the laws' own functions over lists of numbers, over things that lie apart. -/
import Derived.Test.YtjcdekonidekcadInM
import Derived.Test.YtjcdekonidekcadInT
import Derived.Test.YtjcdekonidekcadSt
namespace Go.Proofs.Ytjcdekonidekcad
open Go.ChangeShapes Go.WideShapes Go.ChangeAt Go.RowKit
set_option linter.unusedVariables false

/-- A list of numbers of its own. -/
def inT (v : Value) (l : List Int) : Thing := lsT 1 v (l.map inC)
/-- A list that bears n marks from M on. -/
def inMk (v : Value) (M n : Nat) : Thing := lsT 1 v ((List.range n).map (mkIn M))
theorem inT_form {v : Value} {l : List Int} {W : World} (h : (inT v l).P W) : ∃ A q, v = .slice A l.length q := OwnIn.nform h
end Go.Proofs.Ytjcdekonidekcad
