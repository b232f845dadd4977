/- What this text proves: a list of numbers that is handed to a law, opened: its numbers are there to be read. -/
import Derived.Test.YtjcdekonidekcagOpenP
import Derived.Test.YtjcdekonidekcagInO
namespace Go.Proofs.Ytjcdekonidekcag
open Go.ChangeShapes Go.WideShapes Go.ChangeAt Go.RowKit Go.Joins Go.Deep
set_option linter.unusedVariables false
section
variable {H : Type} {enc : TypeId × Value → H} {W : World} {base : Nat}
theorem open_nums {r0 : Reach} {v : Value} {d : DataW H} {p : List MemPlace} (hv : Value.okWide Try.prog W r0 base 22 v) (h : DataW.Trod enc Try.prog W 0 (fun _ => true) true 22 v d p) :
    ∃ (A : Option Addr) (l : List Int) (k : Nat), v = .slice A l.length k ∧ l.length ≤ maxLen ∧ LsI 1 W W.heap.size A (l.map inC) := by
  obtain ⟨a0, len, cap, rfl⟩ := okWide_slice Try.underlying22 hv
  obtain ⟨fuel, hf⟩ := h
  obtain ⟨A, l, k, h1, h2, h3⟩ := open_starts (v := .slice a0 len cap) hf
  exact ⟨A, l, k, h1, h2, ints_LsI h3⟩
end
end Go.Proofs.Ytjcdekonidekcag
