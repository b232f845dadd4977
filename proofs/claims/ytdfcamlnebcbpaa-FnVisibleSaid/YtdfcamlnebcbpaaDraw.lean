/- What this text proves: the drawn texts have the length that is asked for. -/
import Derived.Test.YtdfcamlnebcbpaaNew
import Derived.Test.YtdfcamlnebcbpaaBuf
namespace Go.Proofs.Ytdfcamlnebcbpaa
open Go.ChangeShapes Go.WideShapes Go.ChangeAt Go.RowKit
set_option linter.unusedVariables false

theorem OwnB.form {w : World} {base : Nat} {v : Value} {l : List UInt8} (h : OwnB w base v l) : ∃ A c, v = .slice A l.length c := by
  rcases h.2 with ⟨rfl, hn⟩ | ⟨g, cap, cur, rfl, _⟩
  · exact ⟨none, 0, by rw [hn]⟩
  · exact ⟨_, cap, rfl⟩
theorem OwnB.kept {w w' : World} {base g : Nat} {v : Value} {l : List UInt8} (h : OwnB w base v l) (hg : w.grownBy w' (some g)) (hlt : g < base) : OwnB w' base v l := by
  refine World.ownsRow.kept h hg ?_
  by_cases he : v.ownBlock = none
  · exact .inl he
  · refine .inr fun e => ?_
    have := (World.ownsRow.lt h g e).1
    omega
def lenV : Value → Nat
  | .slice _ n _ => n
  | _ => 0

def TextRes (m : Nat) (g : Nat) (w : World) (e : Ending) (w' : World) : Prop := ∃ s : ByteArray, s.size = m ∧ e = .returned (.string s) ∧ CurB w' g ∧ w.grownBy w' (some g)

def DrawnRes (m : Nat) (w : World) (e : Ending) (w' : World) : Prop := ∃ s : ByteArray, s.size ≤ m ∧ e = .returned (.string s) ∧ Below w.heap.size w w'
end Go.Proofs.Ytdfcamlnebcbpaa
