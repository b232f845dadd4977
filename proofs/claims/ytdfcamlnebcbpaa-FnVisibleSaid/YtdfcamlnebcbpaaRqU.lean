/- What this text proves: the laws' own functions over lists of requests, over things that lie apart. -/
import Derived.Test.YtdfcamlnebcbpaaRqM
import Derived.Test.YtdfcamlnebcbpaaRqT
import Derived.Test.YtdfcamlnebcbpaaSt
namespace Go.Proofs.Ytdfcamlnebcbpaa
open Go.ChangeShapes Go.WideShapes Go.ChangeAt Go.RowKit
set_option linter.unusedVariables false

/-- A list of requests of its own. -/
def rqU (v : Value) (l : List Rq) : Thing := lsT 4 v (l.map rqC)
/-- A list that bears n marks from M on. -/
def rqMk (v : Value) (M n : Nat) : Thing := lsT 4 v ((List.range n).map (mkRq M))
theorem rqU_form {v : Value} {l : List Rq} {W : World} (h : (rqU v l).P W) : ∃ A q, v = .slice A l.length q := OwnRq.nform h
end Go.Proofs.Ytdfcamlnebcbpaa
