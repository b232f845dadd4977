/- What this text proves: orders as values; the laws' own functions over them; the contracts of the model's and the program's OrderOk. -/
import Derived.Test.YtjcdekonidekcadBox
import Derived.Test.YtjcdekonidekcadRand
import Derived.Test.YtjcdekonidekcadPkt
import Derived.Test.YtjcdekonidekcadIPk
import Derived.BigQuiet
import Derived.Laws.Concat
import Derived.BigRegion
import Derived.Outline
namespace Go.Proofs.Ytjcdekonidekcad
open Go.ChangeShapes Go.WideShapes Go.ChangeAt Go.RowKit
set_option linter.unusedVariables false


abbrev orV (k t a b : Int) : Value := .agg #[.int .i64 k, .int .i64 t, .int .i64 a, .int .i64 b]
abbrev orL (k t a b : Int) : List Value := [.int .i64 k, .int .i64 t, .int .i64 a, .int .i64 b]
/-- The greatest A of the orders of a kind. -/
def hiA (k : Int) : Int := if k = 0 then 7 else if k = 1 then 3 else if k = 2 then 1 else if k = 3 then 7 else if k = 4 then 255 else -1
def hiB (k : Int) : Int := if k = 0 then 65535 else 0
def OrOk (k t a b : Int) : Prop := (0 ≤ t ∧ t ≤ 1000000) ∧ (0 ≤ a ∧ a ≤ hiA k) ∧ (0 ≤ b ∧ b ≤ hiB k)
instance (k t a b : Int) : Decidable (OrOk k t a b) := by unfold OrOk; infer_instance
theorem OrOk.kind {k t a b : Int} (h : OrOk k t a b) : 0 ≤ k ∧ k ≤ 4 := by
  obtain ⟨_, h2, _⟩ := h
  unfold hiA at h2
  repeat (split at h2 <;> try omega)
theorem OrOk.low {k t a b : Int} (h : OrOk k t a b) : (0 ≤ t ∧ t ≤ 1000000) ∧ (0 ≤ a ∧ a ≤ 255) ∧ (0 ≤ b ∧ b ≤ 65535) := by
  obtain ⟨h1, h2, h3⟩ := h
  refine ⟨h1, ⟨h2.1, ?_⟩, h3.1, ?_⟩
  · unfold hiA at h2
    repeat (split at h2 <;> try omega)
  · unfold hiB at h3
    split at h3 <;> omega
abbrev Cells4O (W : World) (g : Nat) (x y z u : Value) : Prop := W.cell? ⟨g, 0, none⟩ = some x ∧ W.cell? ⟨g, 1, none⟩ = some y ∧ W.cell? ⟨g, 2, none⟩ = some z ∧ W.cell? ⟨g, 3, none⟩ = some u
theorem Box.four4 {W : World} {g : Nat} {x y z u : Value} (h : Box W g [x, y, z, u]) : Cells4O W g x y z u := ⟨h.cell 0 (by simp), h.cell 1 (by simp), h.cell 2 (by simp), h.cell 3 (by simp)⟩

theorem or_kinds {k : Int} (h : 0 ≤ k ∧ k ≤ 4) : k = 0 ∨ k = 1 ∨ k = 2 ∨ k = 3 ∨ k = 4 := by omega
theorem zero_bool (b : Int) : decide (0 ≤ b ∧ b ≤ 0) = (b == 0) := by rw [Bool.eq_iff_iff]; simp; omega

theorem iw_any (a b c : Int) (w : World) :
    Calls Try.prog 34 #[.int .i64 a, .int .i64 b, .int .i64 c] w fun e w' => e = .returned (.bool (decide (b ≤ a ∧ a ≤ c))) ∧ w = w' := by
  by_cases h : b ≤ a ∧ a ≤ c
  · rw [decide_eq_true h]
    exact iw_yes a b c h.1 h.2 w
  · rw [decide_eq_false h]
    exact iw_no a b c h w

end Go.Proofs.Ytjcdekonidekcad
