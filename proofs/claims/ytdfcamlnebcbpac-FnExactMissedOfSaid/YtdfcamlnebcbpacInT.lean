/- What this text proves: the contracts of the laws' own functions over a list of numbers that was handed to them: its size, its copy. -/
import Derived.Test.YtdfcamlnebcbpacInS
import Derived.Test.YtdfcamlnebcbpacPak
namespace Go.Proofs.Ytdfcamlnebcbpac
open Go.ChangeShapes Go.WideShapes Go.ChangeAt Go.RowKit
set_option linter.unusedVariables false


theorem LsI.ints {w : World} {B : Nat} {A : Option Addr} {l : List Int} (h : LsI 1 w B A (l.map inC)) : IntsAt w B A l := by
  rcases Nat.eq_zero_or_pos l.length with h0 | h0
  · exact .inl h0
  · exact .inr (inCellsI h h0)
theorem to_ins (A : Option Addr) (l : List Int) (c : Nat) (hl : l.length ≤ 1048576) (w : World) (h : LsI 1 w w.heap.size A (l.map inC)) :
    Calls Try.prog 63 #[.slice A l.length c] w fun e w' => ∃ v, e = .returned v ∧ OwnIn w' w.heap.size v l ∧ Below w.heap.size w w' :=
  (toI_any A l c hl w h.ints).mono fun e w' ⟨v, h1, h2, h3⟩ => ⟨v, h1, h2.toO, h3⟩
end Go.Proofs.Ytdfcamlnebcbpac
