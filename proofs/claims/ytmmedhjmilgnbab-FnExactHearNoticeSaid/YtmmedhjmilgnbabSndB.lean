/- What this text proves: a sender as a value; what stays of a list of structs when a cell elsewhere is stored. -/
import Derived.Test.YtmmedhjmilgnbabSntT
namespace Go.Proofs.Ytmmedhjmilgnbab
open Go.ChangeShapes Go.WideShapes Go.ChangeAt Go.RowKit
set_option linter.unusedVariables false

/-- A sender as a value; v: the slice of its Waiting. -/
abbrev seV (n b : Int) (v : Value) (d : Int) : Value := .agg #[.int .i64 n, .int .i64 b, v, .int .i64 d]
abbrev seL (n b : Int) (v : Value) (d : Int) : List Value := [.int .i64 n, .int .i64 b, v, .int .i64 d]
abbrev Cells4S (W : World) (g : Nat) (x y z u : Value) : Prop := W.cell? ⟨g, 0, none⟩ = some x ∧ W.cell? ⟨g, 1, none⟩ = some y ∧ W.cell? ⟨g, 2, none⟩ = some z ∧ W.cell? ⟨g, 3, none⟩ = some u
theorem Box.fourS {W : World} {g : Nat} {x y z u : Value} (h : Box W g [x, y, z, u]) : Cells4S W g x y z u := ⟨h.cell 0 (by simp), h.cell 1 (by simp), h.cell 2 (by simp), h.cell 3 (by simp)⟩
theorem OwnR.past {E : TypeId} {sz : Nat} {W : World} {b g j : Nat} {v : Value} {l : List (List Value)} (h : OwnR E sz W b v l) (hg : g < b) (u : Value) : OwnR E sz (W.setCell ⟨g, j, none⟩ u) b v l := by
  refine ⟨World.ownsRow.kept (row := some g) h.1 ⟨rfl, rfl, rfl, by simp, fun k hk hne => Below.heap_setCell W _ u k (fun e => hne (by rw [e]))⟩ ?_, h.2⟩
  by_cases he : v.ownBlock = none
  · exact .inl he
  · refine .inr fun e => ?_
    have := (World.ownsRow.lt h.1 g e).1
    omega
theorem OwnR.cellsPast {E : TypeId} {sz : Nat} {b g : Nat} {v : Value} {l : List (List Value)} (hg : g < b) : ∀ (us : List Value) (o : Nat) (W : World), OwnR E sz W b v l → OwnR E sz (W.setCells g o us) b v l := by
  intro us
  induction us with
  | nil => intro o W h; exact h
  | cons u r ih => intro o W h; exact ih _ _ (h.past hg u)
end Go.Proofs.Ytmmedhjmilgnbab
