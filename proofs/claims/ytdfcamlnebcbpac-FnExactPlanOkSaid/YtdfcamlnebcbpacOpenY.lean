/- What this text proves: a list of slots that was handed to a law, opened: its slots are there to be read. -/
import Derived.Test.YtdfcamlnebcbpacOpenP
import Derived.Test.YtdfcamlnebcbpacSlO
namespace Go.Proofs.Ytdfcamlnebcbpac
open Go.ChangeShapes Go.WideShapes Go.ChangeAt Go.RowKit Go.Joins Go.Deep
set_option linter.unusedVariables false
section
variable {H : Type} {enc : TypeId × Value → H} {W : World} {base : Nat}
set_option maxRecDepth 100000 in
theorem open_slots {r0 : Reach} {v : Value} {d : DataW H} {p : List MemPlace} (hv : Value.okWide Try.prog W r0 base 25 v) (h : DataW.Trod enc Try.prog W 0 (fun _ => true) true 25 v d p) :
    ∃ (A : Option Addr) (l : List Sl) (k : Nat), v = .slice A l.length k ∧ l.length ≤ maxLen ∧ LsI 2 W W.heap.size A (l.map slC) := by
  obtain ⟨a0, len, cap, rfl⟩ := okWide_slice Try.underlying25 hv
  obtain ⟨fuel, hf⟩ := h
  exact open_sls (v := .slice a0 len cap) hf
end
end Go.Proofs.Ytdfcamlnebcbpac
