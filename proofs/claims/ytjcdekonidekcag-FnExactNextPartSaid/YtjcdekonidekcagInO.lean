/- What this text proves: a list of numbers that is handed to a law, opened: it is there to be read. -/
import Derived.Test.YtjcdekonidekcagInT
import Derived.Test.YtjcdekonidekcagOpenP
namespace Go.Proofs.Ytjcdekonidekcag
open Go.ChangeShapes Go.WideShapes Go.ChangeAt Go.RowKit Go.Joins
set_option linter.unusedVariables false

theorem ints_LsI {w : World} {B : Nat} {A : Option Addr} {l : List Int} (h : IntsAt w B A l) : LsI 1 w B A (l.map inC) := by
  rcases h with h0 | ⟨b, off, hA, hb, hc⟩
  · exact .inl (by rw [List.length_map]; exact h0)
  · refine .inr ⟨b, off, hA, hb, fun k hk j hj => ?_⟩
    obtain rfl : j = 0 := by omega
    rw [List.length_map] at hk
    simp only [List.getElem_map, Nat.mul_one]
    exact hc k hk
end Go.Proofs.Ytjcdekonidekcag
