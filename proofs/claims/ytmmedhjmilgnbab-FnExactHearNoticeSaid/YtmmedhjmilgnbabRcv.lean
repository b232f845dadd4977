/- What this text proves: receivers and notices as values: the contracts of the laws' own functions, of the model's and the program's ReceiverOk and NoticeOf. -/
import Derived.Test.YtmmedhjmilgnbabBox
import Derived.Test.YtmmedhjmilgnbabISq
namespace Go.Proofs.Ytmmedhjmilgnbab
open Go.ChangeShapes Go.WideShapes Go.ChangeAt Go.RowKit
set_option linter.unusedVariables false

/-- A receiver as a value. -/
abbrev rcV (x : Int) (p q : Bool) (t : Int) : Value := .agg #[.int .i64 x, .bool p, .bool q, .int .i64 t]
abbrev rcL (x : Int) (p q : Bool) (t : Int) : List Value := [.int .i64 x, .bool p, .bool q, .int .i64 t]
/-- A notice as a value. -/
abbrev ntV (x : Int) (p q : Bool) : Value := .agg #[.int .i64 x, .bool p, .bool q]
abbrev ntL (x : Int) (p q : Bool) : List Value := [.int .i64 x, .bool p, .bool q]
def RcOk (x t : Int) : Prop := (0 ≤ x ∧ x ≤ 255) ∧ (0 ≤ t ∧ t ≤ 1000000)
instance (x t : Int) : Decidable (RcOk x t) := by unfold RcOk; infer_instance
abbrev Cells4R (W : World) (g : Nat) (x y z u : Value) : Prop := W.cell? ⟨g, 0, none⟩ = some x ∧ W.cell? ⟨g, 1, none⟩ = some y ∧ W.cell? ⟨g, 2, none⟩ = some z ∧ W.cell? ⟨g, 3, none⟩ = some u
theorem Box.fourR {W : World} {g : Nat} {x y z u : Value} (h : Box W g [x, y, z, u]) : Cells4R W g x y z u := ⟨h.cell 0 (by simp), h.cell 1 (by simp), h.cell 2 (by simp), h.cell 3 (by simp)⟩
abbrev Cells3R (W : World) (g : Nat) (x y z : Value) : Prop := W.cell? ⟨g, 0, none⟩ = some x ∧ W.cell? ⟨g, 1, none⟩ = some y ∧ W.cell? ⟨g, 2, none⟩ = some z
theorem Box.threeR {W : World} {g : Nat} {x y z : Value} (h : Box W g [x, y, z]) : Cells3R W g x y z := ⟨h.cell 0 (by simp), h.cell 1 (by simp), h.cell 2 (by simp)⟩

theorem to_ntc (x : Int) (p q : Bool) (w : World) :
    Calls Try.prog 7 #[ntV x p q] w fun e w' => e = .returned (ntV x p q) ∧ Below w.heap.size w w' := by
  go_enter Try.func7, Try.ntmps7
  go_wp2
  refine bodyPost_ret (v := ntV x p q) (by simp [results, Try.results7, go_sem]) rfl ⟨rfl, (((Below.refl _ w).alloc (Nat.le_refl _) _).alloc (by simp) _).alloc (by simp; omega) _⟩
theorem eq_ntc (x : Int) (p q : Bool) (w : World) :
    Calls Try.prog 11 #[ntV x p q, ntV x p q] w fun e w' => e = .returned (.bool true) ∧ Below w.heap.size w w' := by
  have hp : (p != p) = false := by simp
  have hq : (q != q) = false := by simp
  go_enter Try.func11, Try.ntmps11
  go_wp2
  go_ret
  exact ⟨rfl, ((Below.refl _ w).alloc (Nat.le_refl _) _).alloc (by simp) _⟩
end Go.Proofs.Ytmmedhjmilgnbab
