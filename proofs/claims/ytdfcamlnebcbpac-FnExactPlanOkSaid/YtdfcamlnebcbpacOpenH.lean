/- What this text proves: a list of requests that was handed to a law, opened: its requests are there to be read. -/
import Derived.Test.YtdfcamlnebcbpacOpenP
import Derived.Test.YtdfcamlnebcbpacRqO
namespace Go.Proofs.Ytdfcamlnebcbpac
open Go.ChangeShapes Go.WideShapes Go.ChangeAt Go.RowKit Go.Joins Go.Deep
set_option linter.unusedVariables false
section
variable {H : Type} {enc : TypeId × Value → H} {W : World} {base : Nat}
set_option maxRecDepth 100000 in
theorem open_requests {r0 : Reach} {v : Value} {d : DataW H} {p : List MemPlace} (hv : Value.okWide Try.prog W r0 base 24 v) (h : DataW.Trod enc Try.prog W 0 (fun _ => true) true 24 v d p) :
    ∃ (A : Option Addr) (l : List Rq) (k : Nat), v = .slice A l.length k ∧ l.length ≤ maxLen ∧ LsI 4 W W.heap.size A (l.map rqC) := by
  obtain ⟨a0, len, cap, rfl⟩ := okWide_slice Try.underlying24 hv
  obtain ⟨fuel, hf⟩ := h
  exact open_rqs (v := .slice a0 len cap) hf
end
end Go.Proofs.Ytdfcamlnebcbpac
