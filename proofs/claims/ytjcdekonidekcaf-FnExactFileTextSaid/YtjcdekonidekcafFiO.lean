/- What this text proves: a receiver of a file that is handed to a law, opened: its parts are there to be read. -/
import Derived.Test.YtjcdekonidekcafTxO
import Derived.Test.YtjcdekonidekcafFi
namespace Go.Proofs.Ytjcdekonidekcaf
open Go.ChangeShapes Go.WideShapes Go.ChangeAt Go.RowKit Go.Joins
set_option linter.unusedVariables false
section
variable {H : Type} {enc : TypeId × Value → H} {W : World} {base : Nat}
set_option maxRecDepth 100000 in
theorem open_fi {r0 : Reach} {v : Value} {d : DataW H} {p : List MemPlace} (hv : Value.okWide Try.prog W r0 base 24 v) (h : DataW.Trod enc Try.prog W 0 (fun _ => true) true 24 v d p) :
    ∃ f s c A l k, v = fiV f s c (.slice A (List.length (α := ByteArray) l) k) ∧ l.length ≤ maxLen ∧ (∀ j (hj : j < l.length), l[j].size ≤ maxLen) ∧ LsI 1 W W.heap.size A (l.map txC) := by
  obtain ⟨c0, c1, c2, c3, y0, y1, y2, y3, m, rfl, rfl, rfl, h0, h1, h2, h3⟩ := open_agg4 Try.underlying24 (by kernel_rfl) (by kernel_rfl) hv h
  obtain ⟨a0, e0, rfl, w0⟩ := DataW.trod_int Try.underlying3 h0
  obtain ⟨a1, e1, rfl, w1⟩ := DataW.trod_int Try.underlying3 h1
  obtain ⟨a2, e2, rfl, w2⟩ := DataW.trod_int Try.underlying3 h2
  obtain ⟨A, l, k, rfl, hl, hs, hi⟩ := open_texts h3
  simp at e0 e1 e2
  subst e0 e1 e2
  exact ⟨a0, a1, a2, A, l, k, rfl, hl, hs, hi⟩
end
end Go.Proofs.Ytjcdekonidekcaf
