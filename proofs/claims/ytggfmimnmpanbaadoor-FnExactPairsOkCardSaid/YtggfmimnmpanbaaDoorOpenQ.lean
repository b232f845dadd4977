/- What this text proves: a list of pairs that was handed to a law, opened: its pairs are there to be read. -/
import Derived.Test.YtggfmimnmpanbaaDoorOpenP
import Derived.Test.YtggfmimnmpanbaaDoorPrO
namespace Go.Proofs.YtggfmimnmpanbaaDoor
open Go.ChangeShapes Go.WideShapes Go.ChangeAt Go.RowKit Go.Joins Go.Deep
set_option linter.unusedVariables false
section
variable {H : Type} {enc : TypeId × Value → H} {W : World} {base : Nat}
set_option maxRecDepth 100000 in
theorem open_pairs {r0 : Reach} {v : Value} {d : DataW H} {p : List MemPlace} (hv : Value.okWide Tryd.prog W r0 base 39 v) (h : DataW.Trod enc Tryd.prog W 0 (fun _ => true) true 39 v d p) :
    ∃ (A : Option Addr) (l : List Pr) (k : Nat), v = .slice A l.length k ∧ l.length ≤ maxLen ∧ LsI 2 W W.heap.size A (l.map prC) := by
  obtain ⟨a0, len, cap, rfl⟩ := okWide_slice Tryd.underlying39 hv
  obtain ⟨fuel, hf⟩ := h
  exact open_prs (v := .slice a0 len cap) hf
end
end Go.Proofs.YtggfmimnmpanbaaDoor
