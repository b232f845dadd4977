/- What this text proves: the contracts of the laws' own functions over a list of numbers that was handed to them: its size, its copy. -/
import Derived.Test.YtjcdekonidekcadInS
import Derived.Test.YtjcdekonidekcadPak
namespace Go.Proofs.Ytjcdekonidekcad
open Go.ChangeShapes Go.WideShapes Go.ChangeAt Go.RowKit
set_option linter.unusedVariables false


theorem LsI.ints {w : World} {B : Nat} {A : Option Addr} {l : List Int} (h : LsI 1 w B A (l.map inC)) : IntsAt w B A l := by
  rcases Nat.eq_zero_or_pos l.length with h0 | h0
  · exact .inl h0
  · exact .inr (inCellsI h h0)
end Go.Proofs.Ytjcdekonidekcad
