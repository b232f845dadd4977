/- What this text proves: a list of requests that was handed to a law, opened: its requests are there to be read. -/
import Derived.Test.YtdfcamlnebcbpabOpenP
import Derived.Test.YtdfcamlnebcbpabRqO
namespace Go.Proofs.Ytdfcamlnebcbpab
open Go.ChangeShapes Go.WideShapes Go.ChangeAt Go.RowKit Go.Joins Go.Deep
set_option linter.unusedVariables false
section
variable {H : Type} {enc : TypeId × Value → H} {W : World} {base : Nat}
set_option maxRecDepth 100000 in
theorem open_requests {r0 : Reach} {v : Value} {d : DataW H} {p : List MemPlace} (hv : Value.okWide Try.prog W r0 base 30 v) (h : DataW.Trod enc Try.prog W 0 (fun _ => true) true 30 v d p) :
    ∃ (A : Option Addr) (l : List Rq) (k : Nat), v = .slice A l.length k ∧ l.length ≤ maxLen ∧ LsI 4 W W.heap.size A (l.map rqC) := by
  obtain ⟨a0, len, cap, rfl⟩ := okWide_slice Try.underlying30 hv
  obtain ⟨fuel, hf⟩ := h
  exact open_rqs (v := .slice a0 len cap) hf
end
end Go.Proofs.Ytdfcamlnebcbpab
