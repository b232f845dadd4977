/- What this text proves: the contract of the model's EncodePacket. -/
import Derived.Test.YtdfcamlnebcbpacPkt
import Derived.Test.YtdfcamlnebcbpacPutS
import Derived.Laws.Concat
import Derived.Deep.RegionHeld3
namespace Go.Proofs.Ytdfcamlnebcbpac
open Go.ChangeShapes Go.WideShapes Go.ChangeAt Go.RowKit
set_option linter.unusedVariables false

theorem putS_four_le (n k : Int) : (putS n k).size ≤ 4 := by
  unfold putS
  split
  · rename_i h
    have h2 := h.2.1
    show ((putB n.toNat k.toNat).toArray).size ≤ 4
    rw [List.size_toArray, putB_len]
    omega
  · show (#[] : Array UInt8).size ≤ 4
    decide
/-- What EncodePacket returns. -/
noncomputable def pkT (a q : Int) (d : ByteArray) : ByteArray := if PkOk a q d then putS a 1 ++ putS q 2 ++ putS (d.size : Int) 1 ++ d else ⟨#[]⟩

/-- A world behind another, in which block g holds cells. -/
structure Fit (w W : World) (g : Nat) (vs : List Value) : Prop where
  below : Below w.heap.size w W
  box : Box W g vs
theorem Fit.more {w W W' : World} {g : Nat} {vs : List Value} (h : Fit w W g vs) (hb : Below W.heap.size W W') : Fit w W' g vs := ⟨h.below.trans (hb.mono h.below.size), h.box.more hb⟩
theorem Fit.drew {w W : World} {g : Nat} {vs : List Value} (h : Fit w W g vs) : Fit w W.drew g vs := h.more (Below.refl _ _).drew
theorem Fit.made (w : World) (vs : List Value) (T : TypeId) : Fit w (w.alloc (.cells vs.toArray T)) w.heap.size vs := ⟨(Below.refl _ w).alloc (Nat.le_refl _) _, Box.made w vs T _ rfl⟩
/-- The cells of a packet, each on its own. -/
abbrev Cells3 (W : World) (g : Nat) (x y z : Value) : Prop := W.cell? ⟨g, 0, none⟩ = some x ∧ W.cell? ⟨g, 1, none⟩ = some y ∧ W.cell? ⟨g, 2, none⟩ = some z
theorem Box.three {W : World} {g : Nat} {x y z : Value} (h : Box W g [x, y, z]) : Cells3 W g x y z := ⟨h.cell 0 (by simp), h.cell 1 (by simp), h.cell 2 (by simp)⟩

end Go.Proofs.Ytdfcamlnebcbpac
