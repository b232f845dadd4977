/- What this text proves: what has grown in one block alone: it goes on, it stores, a struct elsewhere stays. -/
import Derived.Test.YtdfcamlnebcbpacBox
import Derived.OwnWalk
import Derived.Laws.AppendOwn
import Derived.Laws.OwnMore
namespace Go.Proofs.Ytdfcamlnebcbpac
open Go.ChangeShapes Go.WideShapes Go.ChangeAt Go.RowKit
set_option linter.unusedVariables false

theorem grown_of {w W : World} (h : Below w.heap.size w W) (row : Option Nat) : w.grownBy W row := ⟨h.os, h.tape, h.output, h.size, fun k hk _ => h.block k hk⟩
theorem grown_trans {w W W' : World} {row : Option Nat} (h1 : w.grownBy W row) (h2 : W.grownBy W' row) : w.grownBy W' row :=
  ⟨h2.os.trans h1.os, h2.tape.trans h1.tape, h2.output.trans h1.output, Nat.le_trans h1.size h2.size, fun k hk hne => (h2.block k (Nat.lt_of_lt_of_le hk h1.size) hne).trans (h1.block k hk hne)⟩
theorem grown_store {w W : World} {g j : Nat} (h : w.grownBy W (some g)) (u : Value) : w.grownBy (W.setCell ⟨g, j, none⟩ u) (some g) :=
  grown_trans h ⟨rfl, rfl, rfl, by simp, fun k hk hne => Below.heap_setCell W _ u k (fun e => hne (by rw [e]))⟩

theorem Box.grown {W W' : World} {g : Nat} {vs : List Value} {row : Option Nat} (h : Box W g vs) (hb : W.grownBy W' row) (hne : row ≠ some g) : Box W' g vs := by
  have hk := hb.block g h.lt (fun e => hne e.symm)
  exact ⟨Nat.lt_of_lt_of_le h.lt hb.size, fun j hj => (World.cell?_of_block (a := ⟨g, j, none⟩) hk).trans (h.cell j hj), fun j => (World.frozen?_of_block (a := ⟨g, j, none⟩) hk).trans (h.ice j)⟩
end Go.Proofs.Ytdfcamlnebcbpac
