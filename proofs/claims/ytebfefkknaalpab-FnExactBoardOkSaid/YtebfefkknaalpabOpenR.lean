/- What this text proves: a recorder that is handed to a law, opened: its Room, and its lists, which are there to be read. -/
import Derived.Test.YtebfefkknaalpabRcO
import Derived.Test.YtebfefkknaalpabInO
import Derived.Test.YtebfefkknaalpabRo
namespace Go.Proofs.Ytebfefkknaalpab
open Go.ChangeShapes Go.WideShapes Go.ChangeAt Go.RowKit Go.Joins Go.Deep
set_option linter.unusedVariables false

section
variable {H : Type} {enc : TypeId × Value → H} {W : World} {base : Nat}
set_option maxRecDepth 100000 in
theorem open_ro {r0 : Reach} {v : Value} {d : DataW H} {p : List MemPlace} (hv : Value.okWide Try.prog W r0 base 25 v) (h : DataW.Trod enc Try.prog W 0 (fun _ => true) true 25 v d p) :
    ∃ r A l k B e m, v = roV r (.slice A (List.length (α := Rc) l) k) (.slice B (List.length (α := Int) e) m) ∧ (-9223372036854775808 ≤ r ∧ r ≤ 9223372036854775807) ∧ l.length ≤ maxLen ∧ (∀ j (hj : j < l.length), l[j].2.2.2.size ≤ maxLen) ∧ e.length ≤ maxLen ∧ LsI 4 W W.heap.size A (l.map rcC) ∧ LsI 1 W W.heap.size B (e.map inC) := by
  obtain ⟨c0, c1, c2, y0, y1, y2, m, rfl, rfl, rfl, h0, h1, h2⟩ := open_agg3 Try.underlying25 (by kernel_rfl) (by kernel_rfl) hv h
  obtain ⟨a0, e0, rfl, w0⟩ := DataW.trod_int Try.underlying3 h0
  obtain ⟨A, l, k, rfl, hl, hs, hi⟩ := open_rcs h1
  obtain ⟨B, e, k2, rfl, he, hj⟩ := open_starts h2
  simp at e0
  subst e0
  exact ⟨a0, A, l, k, B, e, k2, rfl, bounds_i64 w0, hl, hs, he, hi, ints_LsI hj⟩
end
end Go.Proofs.Ytebfefkknaalpab
