/- What this text proves: a sender of a file that is handed to a law, opened: its queue is there to be read. -/
import Derived.Test.YtjcdekonidekcagInO
import Derived.Test.YtjcdekonidekcagFo
namespace Go.Proofs.Ytjcdekonidekcag
open Go.ChangeShapes Go.WideShapes Go.ChangeAt Go.RowKit Go.Joins
set_option linter.unusedVariables false
section
variable {H : Type} {enc : TypeId × Value → H} {W : World} {base : Nat}
set_option maxRecDepth 100000 in
theorem open_fo {r0 : Reach} {v : Value} {d : DataW H} {p : List MemPlace} (hv : Value.okWide Try.prog W r0 base 30 v) (h : DataW.Trod enc Try.prog W 0 (fun _ => true) true 30 v d p) :
    ∃ f s A l k b, v = foV f s b (.slice A (List.length (α := Int) l) k) ∧ s.size ≤ maxLen ∧ l.length ≤ maxLen ∧ LsI 1 W W.heap.size A (l.map inC) := by
  obtain ⟨c0, c1, c2, c3, y0, y1, y2, y3, m, rfl, rfl, rfl, h0, h1, h2, h3⟩ := open_agg4 Try.underlying30 (by kernel_rfl) (by kernel_rfl) hv h
  obtain ⟨a0, e0, rfl, w0⟩ := DataW.trod_int Try.underlying3 h0
  obtain ⟨a1, e1, rfl, w1⟩ := DataW.trod_string Try.underlying9 h1
  obtain ⟨A, l, k, rfl, hl, hi⟩ := open_starts h2
  obtain ⟨a3, e3, rfl⟩ := DataW.trod_bool Try.underlying4 h3
  simp at e0 e1 e3
  subst e0 e1 e3
  exact ⟨a0, a1, A, l, k, a3, rfl, w1, hl, ints_LsI hi⟩
end
end Go.Proofs.Ytjcdekonidekcag
